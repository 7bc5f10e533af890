/-
  The walk of the statement CtlTail: for any frame and any bit of its tail it returns true, and nothing that was there has changed.
-/
import Derived.Test.YtaagfaidjihjcaaB1
namespace Go.Proofs.Ytaagfaidjihjcaa
open Go.RowKit Go.Sort
set_option linter.unusedVariables false

/-- A receiver behind so many bits of a wire. -/
def TS (L : List Bool) (P i : Nat) (c : Ct) : Prop := (i = 0 ∧ c = c0) ∨ (1 ≤ i ∧ ∃ s, c = rcvAt zeC s ∧ Rd L P i s)

theorem ts_ok {F : Fr} (hg : Good F) {i : Nat} {c : Ct} (hi : i < (putL (boL F)).length + 10) (h : TS (ackL F) (putL (boL F)).length i c) : StepOK c := by
  rcases h with ⟨_, rfl⟩ | ⟨_, s, rfl, hr⟩
  · exact ok_c0
  · exact ok_rcv hg (fun e => by cases e) (by simp [zeroFr]) (by decide) hi hr

/-- What it samples, if it drives what it drives. -/
theorem ts_bit {F : Fr} (hg : Good F) {i : Nat} {c : Ct} (hi : i < (putL (boL F)).length + 10) (h : TS (ackL F) (putL (boL F)).length i c) {x y : Bool} (hx : (ackL F)[i]? = some x) (hy : (wiL F)[i]? = some y) : (y && dvC c) = x := by
  rcases h with ⟨rfl, rfl⟩ | ⟨h1, s, rfl, hr⟩
  · rw [wi_first] at hy; rw [ack_first] at hx
    cases hy; cases hx; rfl
  · obtain ⟨_, e2, e3, _⟩ := sends_step hg h1 hi hr hx zeC false zeroFr
    rw [e2, e3, hy]; rfl

theorem ts_step {F : Fr} (hg : Good F) {i : Nat} {c : Ct} (hi : i < (putL (boL F)).length + 9) (h : TS (ackL F) (putL (boL F)).length i c) {x : Bool} (hx : (ackL F)[i]? = some x) :
    TS (ackL F) (putL (boL F)).length (i + 1) (stC c x).1 ∧ (stC c x).2 = if i = (putL (boL F)).length + 8 then (2, F) else noH := by
  have hP := P_pos F
  rcases h with ⟨rfl, rfl⟩ | ⟨h1, s, rfl, hr⟩
  · rw [ack_first] at hx
    cases hx
    rw [if_neg (by omega), (sends_begin F).2]
    exact ⟨.inr ⟨by omega, _, rfl, rd_one hg⟩, rfl⟩
  · obtain ⟨_, _, _, _, e5, e6⟩ := sends_step hg h1 (by omega) hr hx zeC false zeroFr
    rw [e5]
    by_cases h8 : i = (putL (boL F)).length + 8
    · rw [if_pos h8, if_pos h8]
      exact ⟨.inr ⟨by omega, _, by rw [ev_naught.2], e6⟩, rfl⟩
    · rw [if_neg h8, if_neg h8, if_neg (by omega)]
      exact ⟨.inr ⟨by omega, _, rfl, e6⟩, rfl⟩

theorem ts_turn {F : Fr} (hg : Good F) {j : Nat} {c : Ct} (hj : j < 10) (h : TS (ackL F) (putL (boL F)).length ((putL (boL F)).length + j) c) {x : Bool} (hx : (ackL F)[(putL (boL F)).length + j]? = some x) :
    (stC c (!x)).1.ph = (if j = 9 then 4 else 2) ∧ (stC c (!x)).1.cf = (if j = 9 then zeC else cfR 1) ∧ (stC c (!x)).2.1 = (if j = 9 then 9 else if j = 1 then 4 else 6) := by
  have hP := P_pos F
  rcases h with ⟨h0, _⟩ | ⟨h1, s, rfl, hr⟩
  · omega
  · rw [ack_at hj] at hx
    have hxj : (!x) = decide (j = 1) := by
      have : (!decide (j = 1)) = x := Option.some.inj hx
      rw [← this]; simp
    rw [hxj, tail_turn hg hj hr]
    by_cases h9 : j = 9
    · rw [if_pos h9, if_pos h9, if_pos h9, if_pos h9]; exact ⟨rfl, rfl, rfl⟩
    · rw [if_neg h9, if_neg h9, if_neg h9, if_neg h9]; exact ⟨rfl, rfl, rfl⟩

set_option maxRecDepth 100000 in
set_option maxHeartbeats 4000000 in
theorem ctlTail_wrong (w : World) (id : Nat) (ext rem : Bool) (dlc : Nat) (a : Option Addr) (n c : Nat) (y : Nat) (hi : id < 4294967296) (hd : dlc < 256) (hr : riF id ext rem dlc n = false) :
    Calls Try.prog 6 #[.agg #[.int .u32 (id : Int), .bool ext, .bool rem, .int .u8 (dlc : Int), .slice a n c], .int .u8 (y : Int)] w fun e w' => e = .returned (.bool true) ∧ Below w.heap.size w w' := by
  obtain ⟨w0, hw0, hbx, _, _, _, _, _, gg0⟩ := boxed w 25 (.int .u32 (id : Int)) (.bool ext) (.bool rem) (.int .u8 (dlc : Int)) (.slice a n c)
  have hW := wire_wrong w0 id ext rem dlc a n c hi hd hr
  go_enter Try.func6, Try.ntmps6
  go_wp2_with (first
    | (go_at_call 10; rw [hw0.out]; (with_reducible refine hW.mono ?_); rintro e w1 ⟨rfl, g1⟩)
    | (go_at_call 12; refine (awake8_any w1).mono ?_; rintro e w3 ⟨rfl, g3⟩))
  go_ret
  exact ⟨rfl, bstep (bstep gg0 g1) g3⟩

set_option maxRecDepth 100000 in
set_option maxHeartbeats 8000000 in
theorem ctlTail_right (w : World) (id : Nat) (ext rem : Bool) (dlc : Nat) (a : Option Addr) (n c : Nat) (l : List UInt8) (y : Nat) (hi : id < 4294967296) (hd : dlc < 256) (h : RL bv w a n c l) (hy : y < 256) (hr : riF id ext rem dlc n = true) :
    Calls Try.prog 6 #[.agg #[.int .u32 (id : Int), .bool ext, .bool rem, .int .u8 (dlc : Int), .slice a n c], .int .u8 (y : Int)] w fun e w' => e = .returned (.bool true) ∧ Below w.heap.size w w' := by
  obtain ⟨w0, hw0, hbx, _, _, _, _, _, gg0⟩ := boxed w 25 (.int .u32 (id : Int)) (.bool ext) (.bool rem) (.int .u8 (dlc : Int)) (.slice a n c)
  have h0 := h.below gg0
  have hg : Good ⟨id, ext, rem, dlc, l⟩ := (good_iff ⟨id, ext, rem, dlc, l⟩ n h.len).1 hr
  have hW := wire_any w0 id ext rem dlc a n c l hi hd h0 hr
  obtain ⟨F, hF⟩ : ∃ F : Fr, F = ⟨id, ext, rem, dlc, l⟩ := ⟨_, rfl⟩
  rw [← hF] at hg hW
  have hP1 := P_pos F
  have hP2 := P_top hg
  have hwl := wiL_length F
  have hal : (ackL F).length = (putL (boL F)).length + 10 := by unfold ackL; rw [List.length_set, hwl]
  have tOk := fun (i : Nat) (c : Ct) hi' hh => ts_ok hg (i := i) (c := c) hi' hh
  have tBit := fun (i : Nat) (c : Ct) (x y : Bool) hi' hh => ts_bit hg (i := i) (c := c) hi' hh (x := x) (y := y)
  have tStep := fun (i : Nat) (c : Ct) (x : Bool) hi' hh => ts_step hg (i := i) (c := c) hi' hh (x := x)
  have tTurn := fun (j : Nat) (c : Ct) (x : Bool) hj hh => ts_turn hg (j := j) (c := c) hj hh (x := x)
  obtain ⟨P, hP⟩ : ∃ P, P = (putL (boL F)).length := ⟨_, rfl⟩
  simp only [← hP] at hW hP1 hP2 hwl hal tOk tBit tStep tTurn
  obtain ⟨L, hL⟩ : ∃ L, L = ackL F := ⟨_, rfl⟩
  obtain ⟨W, hWe⟩ : ∃ W, W = wiL F := ⟨_, rfl⟩
  simp only [← hL, ← hWe] at hW hwl hal tOk tBit tStep tTurn
  obtain ⟨N, hN⟩ : ∃ N, N = P + 10 := ⟨_, rfl⟩
  rw [← hN] at hW hwl hal
  obtain ⟨j, hj⟩ : ∃ j, j = y % 10 := ⟨_, rfl⟩
  have hj10 : j < 10 := by omega
  have hki : (y : Int) % 10 = (j : Int) := by omega
  obtain ⟨k, hk⟩ : ∃ k, k = P + j := ⟨_, rfl⟩
  have i10 : (N : Int) - 10 + (j : Int) = (k : Int) := by omega
  have hN44 : ¬ (N : Int) < 44 := by omega
  have hN160 : N ≤ 160 := by omega
  have hkN : k < N := by omega
  have HK := hid (show N = P + 10 ∧ k = P + j from ⟨hN, hk⟩)
  have HT := hid (And.intro tOk (And.intro tBit (And.intro tStep tTurn)))
  have HLn := hid (And.intro hwl hal)
  clear tOk tBit tStep tTurn hwl hal hP hL hWe hN hk hj hF hg hr hP1 hP2
  go_enter Try.func6, Try.ntmps6
  go_wp2_with (first
    | (go_at_call 10; rw [hw0.out]; (with_reducible refine hW.mono ?_); rintro e w1 ⟨a1, c1, rfl, ho1, g1⟩; have hz1 := heap_alloc_new w1 (.cells ctZ 37)))
  have gg1 := bstep gg0 g1
  have hrw := ho1.rl
  have C0 : Cb (w1.alloc (.cells ctZ 37)) w1.heap.size c0 sl0 := ⟨hz1, CtO.zero _ _, nbs0 _⟩
  have HS := hid (show TS L P 0 c0 from .inl ⟨rfl, rfl⟩)
  clear hz1 ho1 g1 hW hw0 hbx h0 gg0 h hki i10
  go_loopg [36] (k + 1) (fun gn idx wr => ∃ (i : Nat) (cc : Ct) (s : Sl), i ≤ k + 1 ∧ gn = k + 1 - i ∧ idx = .int .i64 (i : Int) ∧ Cb wr w1.heap.size cc s ∧ Below w1.heap.size w1 wr ∧ Hid (i ≤ k → TS L P i cc) ∧
    Hid (i = k + 1 → cc.ph = (if j = 9 then 4 else 2) ∧ cc.cf = (if j = 9 then zeC else cfR 1)))
  case atStart => exact ⟨0, c0, sl0, by omega, by omega, rfl, C0, bnew0 _ _, hid (fun _ => HS.out), hid (fun e => absurd e (by omega))⟩
  case round =>
    clear C0 HS
    obtain ⟨i, cc, s, hik, rfl, rfl, hC, hbel, HS, HE⟩ := hrel
    by_cases hlt : i < k + 1
    · have hts := HS.out (by omega)
      clear HS HE
      have hok := HT.out.1 i cc (by have := HK.out; omega) hts
      obtain ⟨bb, off, yb, hbb, hyb, hck⟩ := (hrw.below hbel).at (k := i) (by omega)
      obtain ⟨x, hx⟩ : ∃ x, L[i]? = some x := ⟨L[i]'(by rw [HLn.out.2]; omega), by simp⟩
      have HX := hid (HT.out.2.1 i cc x yb (by have := HK.out; omega) hts hx hyb)
      have hD := fun (w2 : World) (h1 : CtR w2 cc s) => drive_any w2 cc s h1 hok.ph (fun e1 e2 => (hok.sn e1 e2).pos)
      obtain ⟨b2, hb2⟩ : ∃ b2, b2 = if i = k then !x else x := ⟨_, rfl⟩
      have hS := fun (w2 : World) (h1 : CtR w2 cc s) => step_any w2 cc s b2 h1 hok
      have HN : Hid ((i < k → TS L P (i + 1) (stC cc b2).1 ∧ (stC cc b2).2 = if i = P + 8 then (2, (stC cc b2).2.2) else noH) ∧ (i = k → (stC cc b2).1.ph = (if j = 9 then 4 else 2) ∧ (stC cc b2).1.cf = (if j = 9 then zeC else cfR 1) ∧ (stC cc b2).2.1 = (if j = 9 then 9 else if j = 1 then 4 else 6))) := by
        refine ⟨fun hl => ?_, fun he => ?_⟩
        · rw [hb2, if_neg (by omega)]
          obtain ⟨e1, e2⟩ := HT.out.2.2.1 i cc x (by have := HK.out; omega) hts hx
          refine ⟨e1, ?_⟩
          rw [e2]; split <;> rfl
        · rw [hb2, if_pos he]
          subst he
          have hk2 := HK.out.2
          rw [hk2] at hts hx
          exact HT.out.2.2.2 j cc x hj10 hts hx
      have HB2 := hid hb2
      generalize stC cc b2 = r at hS HN
      generalize dvC cc = dv at hD HX
      have hC1 := hC.box
      have hcr := hC.r
      clear hts hx hyb hok hb2
      subst hbb
      go_upto_region 12 with fail
      go_cut [11] (fun s11 wx => s11 = .bool x ∧ Below wr.heap.size wr wx)
      case first =>
        clear hS HN HB2 hC
        cases yb
        · have HF : Hid (false = x) := by show _ = _; rw [← HX.out]; rfl
          clear HX
          go_wp2_with fail
          go_meet
          exact ⟨congrArg Value.bool HF.out, Below.refl _ _⟩
        · have HF : Hid (dv = x) := by show _ = _; rw [← HX.out]; rfl
          clear HX
          go_wp2_with (first
            | (with_reducible refine wpList_loadW rowC (by simp [Region.wanted, yielded]) _ rfl _ rfl hC1 rfl ?_)
            | (go_at_call 13; (with_reducible refine (hD _ hcr).mono ?_); rintro e w4 ⟨rfl, g4⟩))
          go_meet
          exact ⟨congrArg Value.bool HF.out, g4⟩
      case rest =>
      obtain ⟨rfl, g4⟩ := hcut
      have hC2 := hC.below g4
      have hb4 := bstep hbel g4
      clear hC hC1 hcr hck g4 hD HX hbel
      have hr2 := hC2.r
      have hbx2 := hC2.box
      go_upto_if 49 with fail
      go_cut [11] (fun s11 wx => s11 = .bool b2 ∧ wx = wc)
      case first =>
        clear hS HN hC2 hr2 hbx2 hb4
        by_cases he : i = k
        · have qe : ((i : Int) == (k : Int)) = true := by simp; omega
          have HF : Hid ((!x) = b2) := by show _ = _; rw [HB2.out, if_pos he]
          clear HB2 he
          go_wp2_with fail
          go_meet
          exact ⟨congrArg Value.bool HF.out, rfl⟩
        · have qe : ((i : Int) == (k : Int)) = false := by simp; omega
          have HF : Hid (x = b2) := by show _ = _; rw [HB2.out, if_neg he]
          clear HB2 he
          go_wp2_with fail
          go_meet
          exact ⟨congrArg Value.bool HF.out, rfl⟩
      case rest =>
      obtain ⟨rfl, rfl⟩ := hcut
      clear HB2
      go_upto_region 17 with (first
        | (with_reducible refine wpList_loadR rowC rfl _ rfl _ rfl hbx2 rfl ?_)
        | (go_at_call 15; (with_reducible refine (hS _ hr2).mono ?_); rintro e w5 ⟨s5, a5, n5, rfl, o5, y5, g5⟩
           have T := two8 w5 r s5 a5 n5
           obtain ⟨tz, tz1, th1, tc2, th2, tb⟩ := T
           have hb5 := (hC2.below g5).box
           have hb7 := bx_below hb5 tb)
        | (with_reducible refine wpList_storeR rowC rfl _ _ rfl _ _ rfl rfl tz1 rfl rfl (ct_ones _ _) ?_)
        | (with_reducible refine wpList_storeR rowH rfl _ _ rfl _ _ rfl rfl th1 rfl rfl (hap_ones _ _ _) ?_)
        | (with_reducible refine wpList_loadR rowC rfl _ rfl _ rfl tc2 rfl ?_)
        | (with_reducible refine wpList_storeR rowC rfl _ _ rfl _ _ rfl rfl hb7 rfl rfl (ct_ones _ _) ?_))
      have o7 := o5.below tb
      have z4 := hC2.lt
      have z5 := g5.size
      have g7 := bstep (bstep hb4 g5) tb
      clear tz tz1 th1 tc2 hb5 o5 y5 g5 tb hC2 hr2 hbx2 hb4 hS
      have C8 : Cb (((((w5.alloc (.cells ctZ 37)).alloc (.cells hap0 44)).setRow w5.heap.size (ctA r.1 s5)).setRow (w5.heap.size + 1) (hapA r.2 a5 n5)).setRow w1.heap.size (ctA r.1 s5)) w1.heap.size r.1 s5 := Cb.put hb7 o7 (o7.nbs z4)
      have g8 : Below w1.heap.size w1 (((((w5.alloc (.cells ctZ 37)).alloc (.cells hap0 44)).setRow w5.heap.size (ctA r.1 s5)).setRow (w5.heap.size + 1) (hapA r.2 a5 n5)).setRow w1.heap.size (ctA r.1 s5)) := below_setRow g7 (Nat.le_refl _) _
      have qh : (((((w5.alloc (.cells ctZ 37)).alloc (.cells hap0 44)).setRow w5.heap.size (ctA r.1 s5)).setRow (w5.heap.size + 1) (hapA r.2 a5 n5)).setRow w1.heap.size (ctA r.1 s5)).cell? ⟨w5.heap.size + 1, 0, none⟩ = some (.int .u8 (r.2.1 : Int)) := (cell_setRow_other _ _ _ _ (by show w5.heap.size + 1 ≠ w1.heap.size; omega)).trans (cell_of_row _ _ 0 _ _ _ th2)
      clear hb7 th2 o7 g7
      change Code.wp _ _ _ _ (((((w5.alloc (.cells ctZ 37)).alloc (.cells hap0 44)).setRow w5.heap.size (ctA r.1 s5)).setRow (w5.heap.size + 1) (hapA r.2 a5 n5)).setRow w1.heap.size (ctA r.1 s5))
      generalize ((((w5.alloc (.cells ctZ 37)).alloc (.cells hap0 44)).setRow w5.heap.size (ctA r.1 s5)).setRow (w5.heap.size + 1) (hapA r.2 a5 n5)).setRow w1.heap.size (ctA r.1 s5) = W8 at *
      have HSn := hid (show i + 1 ≤ k → TS L P (i + 1) r.1 from fun e => (HN.out.1 (by omega)).1)
      have HEn := hid (show i + 1 = k + 1 → r.1.ph = (if j = 9 then 4 else 2) ∧ r.1.cf = (if j = 9 then zeC else cfR 1) from fun e => ⟨(HN.out.2 (by omega)).1, (HN.out.2 (by omega)).2.1⟩)
      have HWh := hid (show r.2.1 = if i < k then (if i = P + 8 then 2 else 0) else if j = 9 then 9 else if j = 1 then 4 else 6 from by
        by_cases e : i < k
        · rw [if_pos e, (HN.out.1 e).2]; split <;> rfl
        · rw [if_neg e]; exact (HN.out.2 (by omega)).2.2)
      by_cases he : i < k
      · have q1 : ((i : Int) != (k : Int)) = true := by simp; omega
        by_cases h8 : i = P + 8
        · have q2 : ((i : Int) == (N : Int) - 2) = true := by have := HK.out; simp; omega
          have q3 : ((k : Int) == (N : Int) - 1) = true := by have := HK.out; simp; omega
          have qh2 : W8.cell? ⟨w5.heap.size + 1, 0, none⟩ = some (.int .u8 2) := by rw [qh, show r.2.1 = 2 from by rw [HWh.out]; rw [if_pos he, if_pos h8]]; rfl
          clear qh HWh HN he h8
          go_wp2
          go_roundg (k + 1 - (i + 1))
          case measure => go_light; omega
          case rel => go_light; exact ⟨i + 1, r.1, s5, by omega, rfl, by go_num, C8, g8, HSn, hid (fun e => HEn.out (by first | trivial | exact e))⟩
        · have q2 : ((i : Int) == (N : Int) - 2) = false := by have := HK.out; simp; omega
          have qh2 : W8.cell? ⟨w5.heap.size + 1, 0, none⟩ = some (.int .u8 0) := by rw [qh, show r.2.1 = 0 from by rw [HWh.out]; rw [if_pos he, if_neg h8]]; rfl
          clear qh HWh HN he h8
          go_wp2
          go_roundg (k + 1 - (i + 1))
          case measure => go_light; omega
          case rel => go_light; exact ⟨i + 1, r.1, s5, by omega, rfl, by go_num, C8, g8, HSn, hid (fun e => HEn.out (by first | trivial | exact e))⟩
      · obtain rfl : i = k := by omega
        have q1 : ((i : Int) != (i : Int)) = false := by simp
        by_cases h9 : j = 9
        · have q2 : ((i : Int) == (N : Int) - 2) = false := by have := HK.out; simp; omega
          have q3 : ((i : Int) == (N : Int) - 1) = true := by have := HK.out; simp; omega
          have qh2 : W8.cell? ⟨w5.heap.size + 1, 0, none⟩ = some (.int .u8 9) := by rw [qh, show r.2.1 = 9 from by rw [HWh.out]; rw [if_neg he, if_pos h9]]; rfl
          clear qh HWh HN he h9
          go_wp2
          go_roundg (i + 1 - (i + 1))
          case measure => go_light; omega
          case rel => go_light; exact ⟨i + 1, r.1, s5, by omega, rfl, by go_num, C8, g8, HSn, hid (fun e => HEn.out (by first | trivial | exact e))⟩
        · have q3 : ((i : Int) == (N : Int) - 1) = false := by have := HK.out; simp; omega
          by_cases h1 : j = 1
          · have q2 : ((i : Int) == (N : Int) - 2) = false := by have := HK.out; simp; omega
            have q4 : ((i : Int) == (N : Int) - 9) = true := by have := HK.out; simp; omega
            have qh2 : W8.cell? ⟨w5.heap.size + 1, 0, none⟩ = some (.int .u8 4) := by rw [qh, show r.2.1 = 4 from by rw [HWh.out]; rw [if_neg he, if_neg h9, if_pos h1]]; rfl
            clear qh HWh HN he h9 h1
            go_wp2
            go_roundg (i + 1 - (i + 1))
            case measure => go_light; omega
            case rel => go_light; exact ⟨i + 1, r.1, s5, by omega, rfl, by go_num, C8, g8, HSn, hid (fun e => HEn.out (by first | trivial | exact e))⟩
          · have q4 : ((i : Int) == (N : Int) - 9) = false := by have := HK.out; simp; omega
            by_cases h8 : j = 8
            · have q2 : ((i : Int) == (N : Int) - 2) = true := by have := HK.out; simp; omega
              have qh2 : W8.cell? ⟨w5.heap.size + 1, 0, none⟩ = some (.int .u8 6) := by rw [qh, show r.2.1 = 6 from by rw [HWh.out]; rw [if_neg he, if_neg h9, if_neg h1]]; rfl
              clear qh HWh HN he h9 h1 h8
              go_wp2
              go_roundg (i + 1 - (i + 1))
              case measure => go_light; omega
              case rel => go_light; exact ⟨i + 1, r.1, s5, by omega, rfl, by go_num, C8, g8, HSn, hid (fun e => HEn.out (by first | trivial | exact e))⟩
            · have q2 : ((i : Int) == (N : Int) - 2) = false := by have := HK.out; simp; omega
              have qh2 : W8.cell? ⟨w5.heap.size + 1, 0, none⟩ = some (.int .u8 6) := by rw [qh, show r.2.1 = 6 from by rw [HWh.out]; rw [if_neg he, if_neg h9, if_neg h1]]; rfl
              clear qh HWh HN he h9 h1 h8
              go_wp2
              go_roundg (i + 1 - (i + 1))
              case measure => go_light; omega
              case rel => go_light; exact ⟨i + 1, r.1, s5, by omega, rfl, by go_num, C8, g8, HSn, hid (fun e => HEn.out (by first | trivial | exact e))⟩
    · obtain rfl : i = k + 1 := by omega
      obtain ⟨e1, e2⟩ := HE.out rfl
      have hC1 := hC.box
      have gF := bstep gg1 hbel
      clear HS HE HT hC
      by_cases h9 : j = 9
      · rw [if_pos h9] at e1 e2
        have q3 : ((k : Int) == (N : Int) - 1) = true := by have := HK.out; simp; omega
        have x0 : wr.cell? ⟨w1.heap.size, 0, none⟩ = some (.int .u8 4) := (bxC hC1 0).trans (by show some (Value.int .u8 (cc.ph : Int)) = _; rw [e1]; rfl)
        have x2 : wr.cell? ⟨w1.heap.size, 2, none⟩ = some (.int .i64 0) := (bxC hC1 2).trans (by show some (Value.int .i64 cc.cf.t) = _; rw [e2]; rfl)
        have x3 : wr.cell? ⟨w1.heap.size, 3, none⟩ = some (.int .i64 0) := (bxC hC1 3).trans (by show some (Value.int .i64 cc.cf.r) = _; rw [e2]; rfl)
        have x4 : wr.cell? ⟨w1.heap.size, 4, none⟩ = some (.bool false) := (bxC hC1 4).trans (by show some (Value.bool cc.cf.o) = _; rw [e2]; rfl)
        have x5 : wr.cell? ⟨w1.heap.size, 5, none⟩ = some (.int .i64 0) := (bxC hC1 5).trans (by show some (Value.int .i64 cc.cf.n) = _; rw [e2]; rfl)
        have x6 : wr.cell? ⟨w1.heap.size, 6, none⟩ = some (.int .i64 0) := (bxC hC1 6).trans (by show some (Value.int .i64 cc.cf.m) = _; rw [e2]; rfl)
        clear hC1 e1 e2 h9
        go_wp2_with (go_at_call 12; (with_reducible refine (awake8_any _).mono ?_); rintro e w9 ⟨rfl, g9⟩)
        go_ret
        exact ⟨rfl, bstep gF g9⟩
      · rw [if_neg h9] at e1 e2
        have q3 : ((k : Int) == (N : Int) - 1) = false := by have := HK.out; simp; omega
        have x0 : wr.cell? ⟨w1.heap.size, 0, none⟩ = some (.int .u8 2) := (bxC hC1 0).trans (by show some (Value.int .u8 (cc.ph : Int)) = _; rw [e1]; rfl)
        have x2 : wr.cell? ⟨w1.heap.size, 2, none⟩ = some (.int .i64 0) := (bxC hC1 2).trans (by show some (Value.int .i64 cc.cf.t) = _; rw [e2]; rfl)
        have x3 : wr.cell? ⟨w1.heap.size, 3, none⟩ = some (.int .i64 1) := (bxC hC1 3).trans (by show some (Value.int .i64 cc.cf.r) = _; rw [e2]; rfl)
        have x4 : wr.cell? ⟨w1.heap.size, 4, none⟩ = some (.bool false) := (bxC hC1 4).trans (by show some (Value.bool cc.cf.o) = _; rw [e2]; rfl)
        have x5 : wr.cell? ⟨w1.heap.size, 5, none⟩ = some (.int .i64 0) := (bxC hC1 5).trans (by show some (Value.int .i64 cc.cf.n) = _; rw [e2]; rfl)
        have x6 : wr.cell? ⟨w1.heap.size, 6, none⟩ = some (.int .i64 0) := (bxC hC1 6).trans (by show some (Value.int .i64 cc.cf.m) = _; rw [e2]; rfl)
        clear hC1 e1 e2 h9
        go_wp2_with (go_at_call 12; (with_reducible refine (awake8_any _).mono ?_); rintro e w9 ⟨rfl, g9⟩)
        go_ret
        exact ⟨rfl, bstep gF g9⟩

theorem ctlTail_walk (w : World) (id : Nat) (ext rem : Bool) (dlc : Nat) (a : Option Addr) (n c : Nat) (l : List UInt8) (y : Nat) (hi : id < 4294967296) (hd : dlc < 256) (h : RL bv w a n c l) (hy : y < 256) (m1 : n ≤ 9223372036854775807) :
    Calls Try.prog 6 #[.agg #[.int .u32 (id : Int), .bool ext, .bool rem, .int .u8 (dlc : Int), .slice a n c], .int .u8 (y : Int)] w fun e w' => e = .returned (.bool true) ∧ Below w.heap.size w w' := by
  cases hr : riF id ext rem dlc n
  · exact ctlTail_wrong w id ext rem dlc a n c y hi hd hr
  · exact ctlTail_right w id ext rem dlc a n c l y hi hd h hy hr
end Go.Proofs.Ytaagfaidjihjcaa
