/-
  The walk of the statement CtlSends: for any frame it returns true, and nothing that was there has changed.
-/
import Derived.Test.YtaagfaidjihjcaaB8z
namespace Go.Proofs.Ytaagfaidjihjcaa
open Go.RowKit Go.Sort
set_option linter.unusedVariables false
set_option linter.unusedSectionVars false

/-- The sender and the receiver, alone, behind so many bits. -/
def SS (F : Fr) (P i : Nat) (a b : Ct) : Prop :=
  (i = 0 ∧ a = giC F ∧ b = c0) ∨ (1 ≤ i ∧ i < P + 10 ∧ ∃ s, a = sndAt F zeC s i ∧ b = rcvAt zeC s ∧ Rd (ackL F) P i s) ∨ (i = P + 10 ∧ ∃ A B : Ct, a = phC A 7 0 false ∧ b = phC B 7 0 false ∧ A.cf = zeC ∧ B.cf = zeC ∧ A.has = false ∧ B.has = false ∧ A.give = zeroFr ∧ B.give = zeroFr)

section
variable {F : Fr} (hg : Good F) {i : Nat} {a b : Ct}
include hg

theorem ss_ok (hi : i < (putL (boL F)).length + 10) (h : SS F (putL (boL F)).length i a b) : StepOK a ∧ StepOK b := by
  rcases h with ⟨_, rfl, rfl⟩ | ⟨h1, h2, s, rfl, rfl, hr⟩ | ⟨h1, _⟩
  · exact ⟨ok_gi hg, ok_c0⟩
  · exact ⟨ok_snd hg (by decide) h1 h2 hr (rd_len hg h1 h2 hr), ok_rcv hg (fun e => by cases e) (by simp [zeroFr]) (by decide) h2 hr⟩
  · omega

theorem ss_drive (hi : i < (putL (boL F)).length + 10) (h : SS F (putL (boL F)).length i a b) {x y : Bool} (hx : (ackL F)[i]? = some x) (hy : (wiL F)[i]? = some y) :
    dvC a = y ∧ dvC b = !decide (i = (putL (boL F)).length + 1) ∧ x = (y && !decide (i = (putL (boL F)).length + 1)) := by
  rcases h with ⟨rfl, rfl, rfl⟩ | ⟨h1, h2, s, rfl, rfl, hr⟩ | ⟨h1, _⟩
  · rw [wi_first] at hy; rw [ack_first] at hx
    cases hy; cases hx
    refine ⟨rfl, ?_, rfl⟩
    rw [decide_eq_false (by omega)]; rfl
  · obtain ⟨d1, d2, d3, _⟩ := sends_step hg h1 h2 hr hx zeC false zeroFr
    rw [hy] at d1 d3
    exact ⟨d1, d2, d3⟩
  · omega

theorem ss_step (hi : i < (putL (boL F)).length + 10) (h : SS F (putL (boL F)).length i a b) {x : Bool} (hx : (ackL F)[i]? = some x) :
    SS F (putL (boL F)).length (i + 1) (stC a x).1 (stC b x).1 ∧ (stC a x).2 = (if i = (putL (boL F)).length + 9 then (1, F) else noH) ∧ (stC b x).2 = (if i = (putL (boL F)).length + 8 then (2, F) else noH) := by
  have hP := P_pos F
  rcases h with ⟨rfl, rfl, rfl⟩ | ⟨h1, h2, s, rfl, rfl, hr⟩ | ⟨h1, _⟩
  · rw [ack_first] at hx
    cases hx
    rw [(sends_begin F).1, (sends_begin F).2, if_neg (by omega), if_neg (by omega)]
    exact ⟨.inr (.inl ⟨by omega, by omega, _, rfl, rfl, rd_one hg⟩), rfl, rfl⟩
  · obtain ⟨_, _, _, d4, d5, d6⟩ := sends_step hg h1 h2 hr hx zeC false zeroFr
    by_cases e9 : i = (putL (boL F)).length + 9
    · rw [if_neg (show ¬ i + 1 < (putL (boL F)).length + 10 by omega)] at d4
      rw [if_neg (show ¬ i = (putL (boL F)).length + 8 by omega), if_pos e9] at d5
      rw [d4, d5]
      exact ⟨.inr (.inr ⟨by omega, { sndAt F (evC zeC 8) s i with has := false, give := zeroFr }, rcvAt zeC s, rfl, rfl, ev_naught.1, rfl, rfl, rfl, rfl, rfl⟩), (if_pos e9).symm, (if_neg (show ¬ i = (putL (boL F)).length + 8 by omega)).symm⟩
    · rw [if_pos (show i + 1 < (putL (boL F)).length + 10 by omega)] at d4
      by_cases e8 : i = (putL (boL F)).length + 8
      · rw [if_pos e8, ev_naught.2] at d5
        rw [d4, d5]
        exact ⟨.inr (.inl ⟨by omega, by omega, _, rfl, rfl, d6⟩), (if_neg e9).symm, (if_pos e8).symm⟩
      · rw [if_neg e8, if_neg e9] at d5
        rw [d4, d5]
        exact ⟨.inr (.inl ⟨by omega, by omega, _, rfl, rfl, d6⟩), (if_neg e9).symm, (if_neg e8).symm⟩
  · omega

theorem ss_end (h : SS F (putL (boL F)).length ((putL (boL F)).length + 10) a b) : ∃ A B : Ct, a = phC A 7 0 false ∧ b = phC B 7 0 false ∧ A.cf = zeC ∧ B.cf = zeC ∧ A.has = false ∧ B.has = false ∧ A.give = zeroFr ∧ B.give = zeroFr := by
  rcases h with ⟨h, _⟩ | ⟨_, h, _⟩ | ⟨_, h⟩
  · omega
  · omega
  · exact h
end

/-- Between frames, behind so many recessive bits. -/
def btC (A : Ct) (j : Nat) : Ct := if j < 3 then phC A 7 j false else phC A 0 0 false
theorem bt_step {A : Ct} (h : A.cf = zeC) {j : Nat} (hj : j < 3) : (stC (btC A j) true).1 = btC A (j + 1) := by
  have hh : holdC A = false := by unfold holdC; rw [h]; simp [show moC zeC = 0 by decide]
  match j, hj with
  | 0, _ => rfl
  | 1, _ => rfl
  | 2, _ =>
    show phC A (if holdC A = true then 8 else 0) 0 false = _
    rw [hh]; rfl
theorem bt_ok {A : Ct} (h : A.cf = zeC) (h2 : A.has = false) (h3 : A.give = zeroFr) {j : Nat} (hj : j < 3) : StepOK (btC A j) := by
  unfold btC
  rw [if_pos hj]
  exact ok_ph (fun _ => by rw [h]; decide) (by omega) (by omega) (by omega) (fun e => by rw [h2] at e; cases e) (by rw [h3]; simp [zeroFr])

theorem ol_setRow {α : Type} {f : α → Value} {E : TypeId} {B : Nat} {w : World} {a : Option Addr} {n k : Nat} {l : List α} (h : OL f E B w a n k l) {p : Nat} (hp : p < B) (cs : Array Value) : OL f E B (w.setRow p cs) a n k l :=
  h.kept fun q hq => setRow_other _ _ _ _ (by have := (h.ltB hq).2; dsimp only at this; omega)

set_option maxRecDepth 100000 in
set_option maxHeartbeats 4000000 in
theorem ctlSends_wrong (w : World) (id : Nat) (ext rem : Bool) (dlc : Nat) (a : Option Addr) (n c : Nat) (hi : id < 4294967296) (hd : dlc < 256) (hr : riF id ext rem dlc n = false) :
    Calls Try.prog 3 #[.agg #[.int .u32 (id : Int), .bool ext, .bool rem, .int .u8 (dlc : Int), .slice a n c]] w fun e w' => e = .returned (.bool true) ∧ Below w.heap.size w w' := by
  obtain ⟨w0, hw0, hbx, _, _, _, _, _, gg0⟩ := boxed w 25 (.int .u32 (id : Int)) (.bool ext) (.bool rem) (.int .u8 (dlc : Int)) (.slice a n c)
  have hW := wire_wrong w0 id ext rem dlc a n c hi hd hr
  have hG := fun w1 => give_wrong id ext rem dlc n a c w1 hi hd hr
  go_enter Try.func3, Try.ntmps3
  go_wp2_with (first
    | (go_at_call 10; rw [hw0.out]; (with_reducible refine hW.mono ?_); rintro e w1 ⟨rfl, g1⟩; obtain ⟨k0, k1, k2, k3, k4⟩ := bx5 (bx_below hbx g1))
    | (go_at_call 11; (with_reducible refine (hG _).mono ?_); rintro e w2 ⟨rfl, g2⟩; have hz2 := heap_alloc_new w2 (.cells ctZ 37); have x7 : ((w2.alloc (.cells ctZ 37)).setRow w2.heap.size ctZ).cell? ⟨w2.heap.size, 7, none⟩ = some (.bool false) := (cell_of_row _ _ 7 _ _ _ (setRow_heap _ _ _ _ _ _ hz2)).trans rfl)
    | (with_reducible refine wpList_storeR rowC rfl _ _ rfl _ _ rfl rfl hz2 rfl rfl (by kernel_rfl) ?_)
    | (go_at_call 12; refine (awake8_any _).mono ?_; rintro e w3 ⟨rfl, g3⟩))
  go_ret
  exact ⟨rfl, bstep (below_new (bstep (bstep gg0 g1) g2) (bstep (bstep gg0 g1) g2).size c0 sl0) g3⟩

set_option maxRecDepth 100000 in
set_option maxHeartbeats 8000000 in
theorem ctlSends_right (w : World) (id : Nat) (ext rem : Bool) (dlc : Nat) (a : Option Addr) (n c : Nat) (l : List UInt8) (hi : id < 4294967296) (hd : dlc < 256) (h : RL bv w a n c l) (hr : riF id ext rem dlc n = true) :
    Calls Try.prog 3 #[.agg #[.int .u32 (id : Int), .bool ext, .bool rem, .int .u8 (dlc : Int), .slice a n c]] w fun e w' => e = .returned (.bool true) ∧ Below w.heap.size w w' := by
  obtain rfl : l.length = n := h.len
  obtain ⟨w0, hw0, hbx, _, _, _, _, _, gg0⟩ := boxed w 25 (.int .u32 (id : Int)) (.bool ext) (.bool rem) (.int .u8 (dlc : Int)) (.slice a l.length c)
  have h0 := h.below gg0
  have hg : Good ⟨id, ext, rem, dlc, l⟩ := (good_iff ⟨id, ext, rem, dlc, l⟩ _ rfl).1 hr
  have hW := wire_any w0 id ext rem dlc a l.length c l hi hd h0 hr
  obtain ⟨F, hF⟩ : ∃ F : Fr, F = ⟨id, ext, rem, dlc, l⟩ := ⟨_, rfl⟩
  rw [← hF] at hg hW
  have hG := fun (w1 : World) (h1 : RL bv w1 a l.length c l) => give_fr F id ext rem dlc l hF hg a c w1 h1
  have hP1 := P_pos F
  have hP2 := P_top hg
  have hwl := wiL_length F
  have hal : (ackL F).length = (putL (boL F)).length + 10 := by unfold ackL; rw [List.length_set, hwl]
  have tOk := fun (i : Nat) (a b : Ct) => ss_ok hg (i := i) (a := a) (b := b)
  have tDrv := fun (i : Nat) (a b : Ct) (x y : Bool) hi' hh => ss_drive hg (i := i) (a := a) (b := b) hi' hh (x := x) (y := y)
  have tStep := fun (i : Nat) (a b : Ct) (x : Bool) hi' hh => ss_step hg (i := i) (a := a) (b := b) hi' hh (x := x)
  have tEnd := fun (a b : Ct) => ss_end hg (a := a) (b := b)
  obtain ⟨P, hP⟩ : ∃ P, P = (putL (boL F)).length := ⟨_, rfl⟩
  simp only [← hP] at hW hP1 hP2 hwl hal tOk tDrv tStep tEnd
  obtain ⟨L, hL⟩ : ∃ L, L = ackL F := ⟨_, rfl⟩
  obtain ⟨W, hWe⟩ : ∃ W, W = wiL F := ⟨_, rfl⟩
  simp only [← hL, ← hWe] at hW hwl hal tDrv tStep
  obtain ⟨N, hN⟩ : ∃ N, N = P + 10 := ⟨_, rfl⟩
  rw [← hN] at hW hwl hal
  have hN160 : N ≤ 160 := by omega
  have HK := hid (show N = P + 10 from hN)
  have HT := hid (And.intro tOk (And.intro tDrv (And.intro tStep tEnd)))
  have HLn := hid (And.intro hwl hal)
  have HS := hid (show SS F P 0 (giC F) c0 from .inl ⟨rfl, rfl, rfl⟩)
  have HF := hid hF
  clear tOk tDrv tStep tEnd hwl hal hP hL hWe hN hF hr hP1 hP2 hg
  go_enter Try.func3, Try.ntmps3
  go_upto_region 5 with (first
    | (go_at_call 10; rw [hw0.out]; (with_reducible refine hW.mono ?_); rintro e w1 ⟨a1, c1, rfl, ho1, g1⟩; have hf1 := bx_below hbx g1; obtain ⟨k0, k1, k2, k3, k4⟩ := bx5 hf1; have gg1 := bstep gg0 g1; have h1 := h0.below g1)
    | (go_at_call 11; (with_reducible refine (hG _ h1).mono ?_); rintro e w2 ⟨s2, rfl, o2, g2⟩; have hz2 := heap_alloc_new w2 (.cells ctZ 37))
    | (with_reducible refine wpList_storeR rowC rfl _ _ rfl _ _ rfl rfl hz2 rfl rfl (ct_ones _ _) ?_))
  have g3 : Below w1.heap.size w1 ((w2.alloc (.cells ctZ 37)).setRow w2.heap.size (ctA (giC F) s2)) := below_new g2 g2.size _ _
  have C3 := cb_new o2
  have lw : w1.heap.size ≤ w2.heap.size := g2.size
  clear k0 k1 k2 k3 k4 hz2 g1 hW hw0 hbx h0 gg0 g2 o2 hG h
  have hrw := ho1.rl
  clear ho1
  change Code.wp _ _ _ _ ((w2.alloc (.cells ctZ 37)).setRow w2.heap.size (ctA (giC F) s2))
  generalize (w2.alloc (.cells ctZ 37)).setRow w2.heap.size (ctA (giC F) s2) = w3 at *
  have lA := C3.lt
  have CA : Cb (w3.alloc (.cells ctZ 37)) w2.heap.size (giC F) s2 := C3.alloc _
  have CB : Cb (w3.alloc (.cells ctZ 37)) w3.heap.size c0 sl0 := ⟨heap_alloc_new w3 _, CtO.zero _ _, nbs0 _⟩
  have NA : NBs s2 w3.heap.size := C3.o.fresh (Nat.le_refl _)
  have g4 : Below w1.heap.size w1 (w3.alloc (.cells ctZ 37)) := bnew g3 _
  have lB : w1.heap.size ≤ w3.heap.size := g3.size
  generalize hpa : w2.heap.size = pa at *
  generalize hpb : w3.heap.size = pb at *
  clear C3 g3
  go_wp2
  go_loopg [43] N (fun gn idx wr => ∃ (i : Nat) (ca cb : Ct) (sa sb : Sl), i ≤ N ∧ gn = N - i ∧ idx = .int .i64 (i : Int) ∧ Cb wr pa ca sa ∧ Cb wr pb cb sb ∧ NBs sa pb ∧ NBs sb pa ∧ Below w1.heap.size w1 wr ∧ Hid (SS F P i ca cb))
  case atStart => exact ⟨0, giC F, c0, s2, sl0, by omega, by omega, rfl, CA, CB, NA, nbs0 _, g4, HS⟩
  case round =>
    clear CA CB NA g4 HS
    obtain ⟨i, ca, cb, sa, sb, hik, rfl, rfl, hA, hB, nA, nB, hbel, HS⟩ := hrel
    by_cases hlt : i < N
    · have hss := HS.out
      have hiP : i < P + 10 := by have := HK.out; omega
      obtain ⟨hokA, hokB⟩ := HT.out.1 i ca cb hiP hss
      obtain ⟨bb, off, y, hbb, hy, hck⟩ := (hrw.below hbel).at hlt
      obtain ⟨x, hx⟩ : ∃ x, L[i]? = some x := ⟨L[i]'(by rw [HLn.out.2]; omega), by simp⟩
      obtain ⟨e1, e2, e3⟩ := HT.out.2.1 i ca cb x y hiP hss hx hy
      have hDa := fun (w2 : World) (h1 : CtR w2 ca sa) => drive_any w2 ca sa h1 hokA.ph (fun e1 e2 => (hokA.sn e1 e2).pos)
      have hDb := fun (w2 : World) (h1 : CtR w2 cb sb) => drive_any w2 cb sb h1 hokB.ph (fun e1 e2 => (hokB.sn e1 e2).pos)
      rw [e1] at hDa
      rw [e2] at hDb
      obtain ⟨v, hv⟩ : ∃ v, v = !decide (i = P + 1) := ⟨_, rfl⟩
      rw [← hv] at hDb e3
      have hSa := fun (w2 : World) (h1 : CtR w2 ca sa) => step_any w2 ca sa x h1 hokA
      have hSb := fun (w2 : World) (h1 : CtR w2 cb sb) => step_any w2 cb sb x h1 hokB
      have HN := hid (HT.out.2.2.1 i ca cb x hiP hss hx)
      generalize stC ca x = ra at hSa HN
      generalize stC cb x = rb at hSb HN
      have HV := hid hv
      have HX := hid e3
      clear hss hokA hokB hy hx e1 e2 e3 hv HS
      subst hbb
      go_upto_region 10 with fail
      go_cut [10, 11] (fun s10 s11 wx => s10 = .bool y ∧ s11 = .bool v ∧ Below wr.heap.size wr wx)
      case first =>
        have hAb := hA.box
        have hBb := hB.box
        have hAr := hA.r
        have hBr := hB.r
        refine wp_region_quiet (C := fun w' => Below wr.heap.size wr w') (by kernel_rfl) (by kernel_rfl) (below_drew1 (Below.refl _ _)) ?_
        refine quiet_loadR rowC rfl _ rfl pa rfl (fun w hw => bx_below hAb hw) rfl ?_
        refine quiet_callF 13 plain_drive rfl _ _ _ rfl rfl #[.agg (ctA ca sa)] (by simp [Act.eval, Act.put]) (.bool y) (fun w hw => (hDa w (hAr.below hw)).mono fun e w'' ⟨h1, h2⟩ => ⟨h1, bstep hw h2⟩) ?_
        refine quiet_loadR rowC rfl _ rfl pb rfl (fun w hw => bx_below hBb hw) rfl ?_
        refine quiet_callF 13 plain_drive rfl _ _ _ rfl rfl #[.agg (ctA cb sb)] (by simp [Act.eval, Act.put]) (.bool v) (fun w hw => (hDb w (hBr.below hw)).mono fun e w'' ⟨h1, h2⟩ => ⟨h1, bstep hw h2⟩) ?_
        refine quiet_assign rfl _ rfl (.bool y) rfl ?_
        refine quiet_assign rfl _ rfl (.bool v) rfl ?_
        refine wpQuiet_nil ?_
        intro w' hw'
        go_wp2_with fail
        go_meet
        exact ⟨rfl, rfl, hw'⟩
      case rest =>
      obtain ⟨rfl, rfl, gc⟩ := hcut
      have hA4 := (hA.below gc).alloc (.cells #[.bool y, .bool v] 4)
      have hB4 := (hB.below gc).alloc (.cells #[.bool y, .bool v] 4)
      have b4 : Below w1.heap.size w1 (wc.alloc (.cells #[.bool y, .bool v] 4)) := bnew (bstep hbel gc) _
      have hck4 : (wc.alloc (.cells #[.bool y, .bool v] 4)).cell? ⟨bb, off + i, none⟩ = some (.bool y) := by rw [((gc.trans ((bnew0 wc _).mono gc.size)).cell (block_lt_of_cell hck))]; exact hck
      clear hA hB hbel hck hDa hDb
      have HXv : Hid ((y && v) = x) := HX.out.symm
      go_upto_region 12 with (go_at_call 14; (refine (bus_two wc y v _ rfl).mono ?_); rw [HXv.out]; rintro e w5 ⟨rfl, rfl⟩)
      clear gc
      generalize wc.alloc (.cells #[.bool y, .bool v] 4) = w5 at *
      go_cut [81] (fun s81 wx => s81 = .bool false ∧ wx = w5)
      case first =>
        clear hSa hSb HN hA4 hB4
        by_cases e9 : i = P + 1
        · have q9 : ((i : Int) != (N : Int) - 9) = false := by have := HK.out; simp; omega
          obtain rfl : v = false := by rw [HV.out, decide_eq_true e9]; rfl
          obtain rfl : x = false := by rw [HX.out]; simp
          clear HV HX HXv e9
          cases y
          all_goals
            go_wp2_with fail
            go_meet
            exact ⟨rfl, rfl⟩
        · have q9 : ((i : Int) != (N : Int) - 9) = true := by have := HK.out; simp; omega
          obtain rfl : v = true := by rw [HV.out, decide_eq_false e9]; rfl
          obtain rfl : x = y := by rw [HX.out]; simp
          clear HV HX HXv e9
          cases x
          all_goals
            go_wp2_with fail
            go_meet
            exact ⟨rfl, rfl⟩
      case rest =>
      obtain ⟨rfl, rfl⟩ := hcut
      clear HXv HX HV hck4
      go_upto_region 15 with fail
      have hA5 := hA4.alloc (.cells hap0 44) |>.alloc (.cells hap0 44)
      have hB5 := hB4.alloc (.cells hap0 44) |>.alloc (.cells hap0 44)
      have hp5 := bx_alloc (.cells hap0 44) (heap_alloc_new wc (.cells hap0 44))
      have hq5 : ((wc.alloc (.cells hap0 44)).alloc (.cells hap0 44)).heap[wc.heap.size + 1]? = some (.cells hap0 44 (0, 0)) := by
        have := heap_alloc_new (wc.alloc (.cells hap0 44)) (.cells hap0 44); rwa [heap_size_alloc] at this
      have b5 : Below w1.heap.size w1 ((wc.alloc (.cells hap0 44)).alloc (.cells hap0 44)) := bnew (bnew b4 _) _
      have lpa := hA4.lt
      have lpb := hB4.lt
      have lw1 := b4.size
      have nBp := hB4.o.fresh (Nat.le_refl wc.heap.size)
      have nBq := hB4.o.fresh (Nat.le_succ wc.heap.size)
      simp only [Nat.succ_eq_add_one] at nBq
      clear hA4 hB4 b4
      change Code.wp _ _ _ _ ((wc.alloc (.cells hap0 44)).alloc (.cells hap0 44))
      generalize (wc.alloc (.cells hap0 44)).alloc (.cells hap0 44) = w6 at *
      generalize hph : wc.heap.size = ph at *
      have lq6 := bx_lt hq5
      have hAb := hA5.box
      have hAr := hA5.r
      have lA1 : w1.heap.size ≤ pa := lw
      go_upto_region 16 with (first
        | (with_reducible refine wpList_loadR rowC rfl _ rfl _ rfl hAb rfl ?_)
        | (go_at_call 15; (with_reducible refine (hSa _ hAr).mono ?_); rintro e w7 ⟨s7, a7, n7, rfl, o7, y7, g7⟩
           have hA7 := bx_below hAb g7
           have hp7 := (setRow_other w7 pa ph (ctA ra.1 s7) (by omega)).trans (bx_below hp5 g7))
        | (with_reducible refine wpList_storeR rowC rfl _ _ rfl _ _ rfl rfl hA7 rfl rfl (ct_ones _ _) ?_)
        | (with_reducible refine wpList_storeR rowH rfl _ _ rfl _ _ rfl rfl hp7 rfl rfl (hap_ones _ _ _) ?_))
      have l67 := g7.size
      have hA8 : Cb ((w7.setRow pa (ctA ra.1 s7)).setRow ph (hapA ra.2 a7 n7)) pa ra.1 s7 := (Cb.put hA7 o7 (o7.nbs (by omega))).other (by omega) (o7.nbs (by omega)) _
      have hB8 : Cb ((w7.setRow pa (ctA ra.1 s7)).setRow ph (hapA ra.2 a7 n7)) pb cb sb := ((hB5.below g7).other (by omega) nB _).other (by omega) nBp _
      have nA8b : NBs s7 pb := o7.nbs (by omega)
      have nA8q : NBs s7 (ph + 1) := o7.nbs (by omega)
      have hp8 : ((w7.setRow pa (ctA ra.1 s7)).setRow ph (hapA ra.2 a7 n7)).heap[ph]? = some (.cells (hapA ra.2 a7 n7) 44 (0, 0)) := setRow_heap _ _ _ _ _ _ hp7
      have hq8 : ((w7.setRow pa (ctA ra.1 s7)).setRow ph (hapA ra.2 a7 n7)).heap[ph + 1]? = some (.cells hap0 44 (0, 0)) := (setRow_other _ _ _ _ (by omega)).trans ((setRow_other _ _ _ _ (by omega)).trans (bx_below hq5 g7))
      have y8 := ol_setRow (ol_setRow y7 (p := pa) (by omega) (ctA ra.1 s7)) (p := ph) (by omega) (hapA ra.2 a7 n7)
      have b8 : Below w1.heap.size w1 ((w7.setRow pa (ctA ra.1 s7)).setRow ph (hapA ra.2 a7 n7)) := below_setRow (below_setRow (bstep b5 g7) lA1 _) (by omega) _
      have l8 : ((w7.setRow pa (ctA ra.1 s7)).setRow ph (hapA ra.2 a7 n7)).heap.size = w7.heap.size := by simp
      clear hA5 hB5 hp5 hq5 b5 hAb hAr o7 y7 g7 hA7 hp7 hSa nA nB nBp
      change Code.wp _ _ _ _ ((w7.setRow pa (ctA ra.1 s7)).setRow ph (hapA ra.2 a7 n7))
      generalize (w7.setRow pa (ctA ra.1 s7)).setRow ph (hapA ra.2 a7 n7) = w8 at *
      have hBb := hB8.box
      have hBr := hB8.r
      go_upto_region 17 with (first
        | (with_reducible refine wpList_loadR rowC rfl _ rfl _ rfl hBb rfl ?_)
        | (go_at_call 15; (with_reducible refine (hSb _ hBr).mono ?_); rintro e w9 ⟨s9, a9, n9, rfl, o9, y9, g9⟩
           have hB9 := bx_below hBb g9
           have hq9 := (setRow_other w9 pb (ph + 1) (ctA rb.1 s9) (by omega)).trans (bx_below hq8 g9))
        | (with_reducible refine wpList_storeR rowC rfl _ _ rfl _ _ rfl rfl hB9 rfl rfl (ct_ones _ _) ?_)
        | (with_reducible refine wpList_storeR rowH rfl _ _ rfl _ _ rfl rfl hq9 rfl rfl (hap_ones _ _ _) ?_))
      have l89 := g9.size
      have lB8 := hB8.lt
      have hB10 : Cb ((w9.setRow pb (ctA rb.1 s9)).setRow (ph + 1) (hapA rb.2 a9 n9)) pb rb.1 s9 := (Cb.put hB9 o9 (o9.nbs (by omega))).other (by omega) (o9.nbs (by omega)) _
      have hA10 : Cb ((w9.setRow pb (ctA rb.1 s9)).setRow (ph + 1) (hapA rb.2 a9 n9)) pa ra.1 s7 := ((hA8.below g9).other (by omega) nA8b _).other (by omega) nA8q _
      have nB10 : NBs s9 pa := o9.nbs (by omega)
      have hp10 : ((w9.setRow pb (ctA rb.1 s9)).setRow (ph + 1) (hapA rb.2 a9 n9)).heap[ph]? = some (.cells (hapA ra.2 a7 n7) 44 (0, 0)) := (setRow_other _ _ _ _ (by omega)).trans ((setRow_other _ _ _ _ (by omega)).trans (bx_below hp8 g9))
      have hq10 : ((w9.setRow pb (ctA rb.1 s9)).setRow (ph + 1) (hapA rb.2 a9 n9)).heap[ph + 1]? = some (.cells (hapA rb.2 a9 n9) 44 (0, 0)) := setRow_heap _ _ _ _ _ _ hq9
      have y10 := (ol_setRow (ol_setRow (y8.below g9) (p := pb) (by omega) (ctA rb.1 s9)) (p := ph + 1) (by omega) (hapA rb.2 a9 n9)).rl
      have z10 := (ol_setRow (ol_setRow y9 (p := pb) (by omega) (ctA rb.1 s9)) (p := ph + 1) (by omega) (hapA rb.2 a9 n9)).rl
      have b10 : Below w1.heap.size w1 ((w9.setRow pb (ctA rb.1 s9)).setRow (ph + 1) (hapA rb.2 a9 n9)) := below_setRow (below_setRow (bstep b8 g9) lB _) (by omega) _
      clear hA8 hB8 hp8 hq8 b8 hBb hBr o9 y9 g9 hB9 hq9 hSb nA8q nBq y8
      change Code.wp _ _ _ _ ((w9.setRow pb (ctA rb.1 s9)).setRow (ph + 1) (hapA rb.2 a9 n9))
      generalize (w9.setRow pb (ctA rb.1 s9)).setRow (ph + 1) (hapA rb.2 a9 n9) = w10 at *
      have hf10 := bx_below hf1 b10
      have h10 := h1.below b10
      have hz15 := bx_alloc (.cells hap0 44) (heap_alloc_new w10 (.cells hap0 44))
      have hz16 : ((w10.alloc (.cells hap0 44)).alloc (.cells hap0 44)).heap[w10.heap.size + 1]? = some (.cells hap0 44 (0, 0)) := by
        have := heap_alloc_new (w10.alloc (.cells hap0 44)) (.cells hap0 44); rwa [heap_size_alloc] at this
      have g15 : Below w10.heap.size w10 ((w10.alloc (.cells hap0 44)).alloc (.cells hap0 44)) := bnew (bnew0 _ _) _
      have HSn := hid HN.out.1
      have HSa := hid HN.out.2.1
      have HSb := hid HN.out.2.2
      clear HN
      have lq10 := bx_lt hq10
      have lp10 := bx_lt hp10
      have wf10 := bx_lt hf10
      go_upto_region 18 with fail
      by_cases e8 : i = P + 8
      · have e9 : ¬ i = P + 9 := by omega
        have q2 : ((i : Int) == (N : Int) - 2) = true := by have := HK.out; simp; omega
        have q1 : ((i : Int) == (N : Int) - 1) = false := by have := HK.out; simp; omega
        have S1 : ∀ w, RL bv w a7 ra.2.2.data.length n7 ra.2.2.data → RL bv w a l.length c l → Calls Try.prog 16 #[.agg (hapA ra.2 a7 n7), .agg hap0] w fun e w' => e = .returned (.bool true) ∧ Below w.heap.size w w' := fun w q1 q2 => by
          have k := sameHappen_any w ra.2 noH a7 none n7 0 q1 (RL.nil _ _ _ _)
          rw [decide_eq_true (by rw [HSa.out, if_neg e9])] at k
          exact k
        have S2 : ∀ w, RL bv w a9 rb.2.2.data.length n9 rb.2.2.data → RL bv w a l.length c l → Calls Try.prog 16 #[.agg (hapA rb.2 a9 n9), .agg #[.int .u8 2, .int .u32 (id : Int), .bool ext, .bool rem, .int .u8 (dlc : Int), .slice a l.length c]] w fun e w' => e = .returned (.bool true) ∧ Below w.heap.size w w' := fun w q1 q2 => by
          have k := sameHappen_any w rb.2 (2, ⟨id, ext, rem, dlc, l⟩) a9 a n9 c q1 (q2)
          rw [decide_eq_true (by rw [HSb.out, if_pos e8, HF.out])] at k
          exact k
        have gF : Below w10.heap.size w10 (((w10.alloc (.cells hap0 44)).alloc (.cells hap0 44)).setRow w10.heap.size #[.int .u8 2, .int .u32 (id : Int), .bool ext, .bool rem, .int .u8 (dlc : Int), .slice a l.length c]) := below_setRow g15 (Nat.le_refl _) _
        have t15 : (((w10.alloc (.cells hap0 44)).alloc (.cells hap0 44)).setRow w10.heap.size #[.int .u8 2, .int .u32 (id : Int), .bool ext, .bool rem, .int .u8 (dlc : Int), .slice a l.length c]).heap[w10.heap.size]? = some (.cells #[.int .u8 2, .int .u32 (id : Int), .bool ext, .bool rem, .int .u8 (dlc : Int), .slice a l.length c] 44 (0, 0)) := setRow_heap _ _ _ _ _ _ hz15
        have t16 := (setRow_other ((w10.alloc (.cells hap0 44)).alloc (.cells hap0 44)) w10.heap.size (w10.heap.size + 1) #[.int .u8 2, .int .u32 (id : Int), .bool ext, .bool rem, .int .u8 (dlc : Int), .slice a l.length c] (by omega)).trans hz16
        have tp := bx_below hp10 gF
        have tq := bx_below hq10 gF
        have ty := y10.below gF
        have tz := z10.below gF
        have th := h10.below gF
        have bF := bstep b10 gF
        have AF := hA10.below gF
        have BF := hB10.below gF
        obtain ⟨k0, k1, k2, k3, k4⟩ := bx5 (bx_below hf10 g15)
        clear hp10 hq10 y10 z10 h10 b10 hA10 hB10 hf10 g15 HSa HSb gF e8 e9
        go_wp2_with (first
          | (with_reducible refine wpList_storeR rowH rfl _ _ rfl _ _ rfl rfl hz15 rfl rfl (by kernel_rfl) ?_)
          | (with_reducible refine wpList_loadR rowH rfl _ rfl ph rfl tp rfl ?_)
          | (with_reducible refine wpList_loadR rowH rfl _ rfl (w10.heap.size + 1) rfl t16 rfl ?_)
          | (go_at_call 16; (with_reducible refine (S1 _ ty th).mono ?_); rintro e w11 ⟨rfl, g11⟩; have tq2 := bx_below tq g11; have t152 := bx_below t15 g11; have tz2 := tz.below g11; have th2 := th.below g11)
          | (with_reducible refine wpList_loadW rowH (by simp [Region.wanted, yielded, Act.put]) _ rfl (ph + 1) rfl tq2 rfl ?_)
          | (with_reducible refine wpList_loadW rowH (by simp [Region.wanted, yielded, Act.put]) _ rfl w10.heap.size rfl t152 rfl ?_)
          | (go_at_call 16; (with_reducible refine (S2 _ tz2 th2).mono ?_); rintro e w12 ⟨rfl, g12⟩))
        have gE := bstep g11 g12
        go_roundg (N - (i + 1))
        case measure => go_light; omega
        case rel => go_light; exact ⟨i + 1, ra.1, rb.1, s7, s9, by omega, rfl, by go_num, AF.below gE, BF.below gE, nA8b, nB10, bstep bF gE, HSn⟩
      · have q2 : ((i : Int) == (N : Int) - 2) = false := by have := HK.out; simp; omega
        by_cases e9 : i = P + 9
        · have q1 : ((i : Int) == (N : Int) - 1) = true := by have := HK.out; simp; omega
          have S1 : ∀ w, RL bv w a7 ra.2.2.data.length n7 ra.2.2.data → RL bv w a l.length c l → Calls Try.prog 16 #[.agg (hapA ra.2 a7 n7), .agg #[.int .u8 1, .int .u32 (id : Int), .bool ext, .bool rem, .int .u8 (dlc : Int), .slice a l.length c]] w fun e w' => e = .returned (.bool true) ∧ Below w.heap.size w w' := fun w q1 q2 => by
            have k := sameHappen_any w ra.2 (1, ⟨id, ext, rem, dlc, l⟩) a7 a n7 c q1 (q2)
            rw [decide_eq_true (by rw [HSa.out, if_pos e9, HF.out])] at k
            exact k
          have S2 : ∀ w, RL bv w a9 rb.2.2.data.length n9 rb.2.2.data → RL bv w a l.length c l → Calls Try.prog 16 #[.agg (hapA rb.2 a9 n9), .agg hap0] w fun e w' => e = .returned (.bool true) ∧ Below w.heap.size w w' := fun w q1 q2 => by
            have k := sameHappen_any w rb.2 noH a9 none n9 0 q1 (RL.nil _ _ _ _)
            rw [decide_eq_true (by rw [HSb.out, if_neg (by omega)])] at k
            exact k
          have gF : Below w10.heap.size w10 (((w10.alloc (.cells hap0 44)).alloc (.cells hap0 44)).setRow (w10.heap.size + 1) #[.int .u8 1, .int .u32 (id : Int), .bool ext, .bool rem, .int .u8 (dlc : Int), .slice a l.length c]) := below_setRow g15 (Nat.le_succ _) _
          have t16 : (((w10.alloc (.cells hap0 44)).alloc (.cells hap0 44)).setRow (w10.heap.size + 1) #[.int .u8 1, .int .u32 (id : Int), .bool ext, .bool rem, .int .u8 (dlc : Int), .slice a l.length c]).heap[w10.heap.size + 1]? = some (.cells #[.int .u8 1, .int .u32 (id : Int), .bool ext, .bool rem, .int .u8 (dlc : Int), .slice a l.length c] 44 (0, 0)) := setRow_heap _ _ _ _ _ _ hz16
          have t15 := (setRow_other ((w10.alloc (.cells hap0 44)).alloc (.cells hap0 44)) (w10.heap.size + 1) w10.heap.size #[.int .u8 1, .int .u32 (id : Int), .bool ext, .bool rem, .int .u8 (dlc : Int), .slice a l.length c] (by omega)).trans hz15
          have tp := bx_below hp10 gF
          have tq := bx_below hq10 gF
          have ty := y10.below gF
          have tz := z10.below gF
          have th := h10.below gF
          have bF := bstep b10 gF
          have AF := hA10.below gF
          have BF := hB10.below gF
          obtain ⟨k0, k1, k2, k3, k4⟩ := bx5 (bx_below hf10 g15)
          clear hp10 hq10 y10 z10 h10 b10 hA10 hB10 hf10 g15 HSa HSb gF e8 e9
          go_wp2_with (first
            | (with_reducible refine wpList_storeR rowH rfl _ _ rfl _ _ rfl rfl hz16 rfl rfl (by kernel_rfl) ?_)
            | (with_reducible refine wpList_loadR rowH rfl _ rfl ph rfl tp rfl ?_)
            | (with_reducible refine wpList_loadR rowH rfl _ rfl (w10.heap.size + 1) rfl t16 rfl ?_)
            | (go_at_call 16; (with_reducible refine (S1 _ ty th).mono ?_); rintro e w11 ⟨rfl, g11⟩; have tq2 := bx_below tq g11; have t152 := bx_below t15 g11; have tz2 := tz.below g11; have th2 := th.below g11)
            | (with_reducible refine wpList_loadW rowH (by simp [Region.wanted, yielded, Act.put]) _ rfl (ph + 1) rfl tq2 rfl ?_)
            | (with_reducible refine wpList_loadW rowH (by simp [Region.wanted, yielded, Act.put]) _ rfl w10.heap.size rfl t152 rfl ?_)
            | (go_at_call 16; (with_reducible refine (S2 _ tz2 th2).mono ?_); rintro e w12 ⟨rfl, g12⟩))
          have gE := bstep g11 g12
          go_roundg (N - (i + 1))
          case measure => go_light; omega
          case rel => go_light; exact ⟨i + 1, ra.1, rb.1, s7, s9, by omega, rfl, by go_num, AF.below gE, BF.below gE, nA8b, nB10, bstep bF gE, HSn⟩
        · have q1 : ((i : Int) == (N : Int) - 1) = false := by have := HK.out; simp; omega
          have S1 : ∀ w, RL bv w a7 ra.2.2.data.length n7 ra.2.2.data → RL bv w a l.length c l → Calls Try.prog 16 #[.agg (hapA ra.2 a7 n7), .agg hap0] w fun e w' => e = .returned (.bool true) ∧ Below w.heap.size w w' := fun w q1 q2 => by
            have k := sameHappen_any w ra.2 noH a7 none n7 0 q1 (RL.nil _ _ _ _)
            rw [decide_eq_true (by rw [HSa.out, if_neg e9])] at k
            exact k
          have S2 : ∀ w, RL bv w a9 rb.2.2.data.length n9 rb.2.2.data → RL bv w a l.length c l → Calls Try.prog 16 #[.agg (hapA rb.2 a9 n9), .agg hap0] w fun e w' => e = .returned (.bool true) ∧ Below w.heap.size w w' := fun w q1 q2 => by
            have k := sameHappen_any w rb.2 noH a9 none n9 0 q1 (RL.nil _ _ _ _)
            rw [decide_eq_true (by rw [HSb.out, if_neg e8])] at k
            exact k
          have gF : Below w10.heap.size w10 ((w10.alloc (.cells hap0 44)).alloc (.cells hap0 44)) := g15
          have t15 := hz15
          have t16 := hz16
          have tp := bx_below hp10 gF
          have tq := bx_below hq10 gF
          have ty := y10.below gF
          have tz := z10.below gF
          have th := h10.below gF
          have bF := bstep b10 gF
          have AF := hA10.below gF
          have BF := hB10.below gF
          clear hp10 hq10 y10 z10 h10 b10 hA10 hB10 hf10 g15 HSa HSb gF e8 e9
          go_wp2_with (first
            | (with_reducible refine wpList_loadR rowH rfl _ rfl ph rfl tp rfl ?_)
            | (with_reducible refine wpList_loadR rowH rfl _ rfl (w10.heap.size + 1) rfl t16 rfl ?_)
            | (go_at_call 16; (with_reducible refine (S1 _ ty th).mono ?_); rintro e w11 ⟨rfl, g11⟩; have tq2 := bx_below tq g11; have t152 := bx_below t15 g11; have tz2 := tz.below g11; have th2 := th.below g11)
            | (with_reducible refine wpList_loadW rowH (by simp [Region.wanted, yielded, Act.put]) _ rfl (ph + 1) rfl tq2 rfl ?_)
            | (with_reducible refine wpList_loadW rowH (by simp [Region.wanted, yielded, Act.put]) _ rfl w10.heap.size rfl t152 rfl ?_)
            | (go_at_call 16; (with_reducible refine (S2 _ tz2 th2).mono ?_); rintro e w12 ⟨rfl, g12⟩))
          have gE := bstep g11 g12
          go_roundg (N - (i + 1))
          case measure => go_light; omega
          case rel => go_light; exact ⟨i + 1, ra.1, rb.1, s7, s9, by omega, rfl, by go_num, AF.below gE, BF.below gE, nA8b, nB10, bstep bF gE, HSn⟩
    · obtain rfl : i = N := by omega
      obtain ⟨A, B, rfl, rfl, dA, dB, hasA, hasB, gvA, gvB⟩ := HT.out.2.2.2 ca cb (by rw [← HK.out]; exact HS.out)
      have HB3 := hid (show ∀ j, j < 3 → (StepOK (btC A j) ∧ (stC (btC A j) true).1 = btC A (j + 1)) ∧ (StepOK (btC B j) ∧ (stC (btC B j) true).1 = btC B (j + 1)) from fun j hj => ⟨⟨bt_ok dA hasA gvA hj, bt_step dA hj⟩, ⟨bt_ok dB hasB gvB hj, bt_step dB hj⟩⟩)
      have HD := hid (show A.cf = zeC ∧ B.cf = zeC ∧ A.has = false from ⟨dA, dB, hasA⟩)
      clear HS HT hrw dA dB hasA hasB gvA gvB
      go_wp2
      go_loopg [119] 3 (fun gn idx wr2 => ∃ (j : Nat) (sa sb : Sl), j ≤ 3 ∧ gn = 3 - j ∧ idx = .int .i64 (j : Int) ∧ Cb wr2 pa (btC A j) sa ∧ Cb wr2 pb (btC B j) sb ∧ NBs sa pb ∧ NBs sb pa ∧ Below w1.heap.size w1 wr2)
      case atStart => exact ⟨0, sa, sb, by omega, rfl, rfl, hA, hB, nA, nB, hbel⟩
      case round =>
        clear hA hB nA nB hbel
        obtain ⟨j, sa, sb, hj, rfl, rfl, hA, hB, nA, nB, hbel⟩ := hrel
        by_cases hlt3 : j < 3
        · obtain ⟨⟨okA, stA⟩, ⟨okB, stB⟩⟩ := HB3.out j hlt3
          have hSa := fun (w2 : World) (h1 : CtR w2 (btC A j) sa) => step_any w2 (btC A j) sa true h1 okA
          have hSb := fun (w2 : World) (h1 : CtR w2 (btC B j) sb) => step_any w2 (btC B j) sb true h1 okB
          have HXa := hid stA
          have HXb := hid stB
          clear stA stB okA okB
          generalize stC (btC A j) true = ra at hSa HXa
          generalize stC (btC B j) true = rb at hSb HXb
          generalize btC A j = ca at *
          generalize btC B j = cb at *
          have hAb := hA.box
          have hAr := hA.r
          have lpa := hA.lt
          have lpb := hB.lt
          go_wp2_with (first
            | (with_reducible refine wpList_loadR rowC rfl _ rfl pa rfl hAb rfl ?_)
            | (go_at_call 15; (with_reducible refine (hSa _ hAr).mono ?_); rintro e w7 ⟨s7, a7, n7, rfl, o7, y7, g7⟩
               have hA7 := bx_below hAb g7
               have l67 := g7.size
               have hA8 : Cb (w7.setRow pa (ctA ra.1 s7)) pa ra.1 s7 := Cb.put hA7 o7 (o7.nbs (by omega))
               have hB8 : Cb (w7.setRow pa (ctA ra.1 s7)) pb cb sb := ((hB.below g7).other (by omega) nB _)
               have nA8b : NBs s7 pb := o7.nbs (by omega)
               have b8 : Below w1.heap.size w1 (w7.setRow pa (ctA ra.1 s7)) := below_setRow (bstep hbel g7) lw _
               have hBb := hB8.box
               have hBr := hB8.r)
            | (with_reducible refine wpList_storeR rowC rfl _ _ rfl pa _ rfl rfl hA7 rfl rfl (ct_ones _ _) ?_)
            | (with_reducible refine wpList_loadR rowC rfl _ rfl pb rfl hBb rfl ?_)
            | (go_at_call 15; (with_reducible refine (hSb _ hBr).mono ?_); rintro e w9 ⟨s9, a9, n9, rfl, o9, y9, g9⟩
               have hB9 := bx_below hBb g9)
            | (with_reducible refine wpList_storeR rowC rfl _ _ rfl pb _ rfl rfl hB9 rfl rfl (ct_ones _ _) ?_))
          have l8 : (w7.setRow pa (ctA ra.1 s7)).heap.size = w7.heap.size := by simp
          have hB10 : Cb (w9.setRow pb (ctA rb.1 s9)) pb rb.1 s9 := Cb.put hB9 o9 (o9.nbs (by omega))
          have hA10 : Cb (w9.setRow pb (ctA rb.1 s9)) pa ra.1 s7 := (hA8.below g9).other (by omega) nA8b _
          have nB10 : NBs s9 pa := o9.nbs (by omega)
          have b10 : Below w1.heap.size w1 (w9.setRow pb (ctA rb.1 s9)) := below_setRow (bstep b8 g9) lB _
          clear hA hB nA nB hbel hSa hSb hAb hAr o7 y7 g7 hA7 hA8 hB8 b8 hBb hBr o9 y9 g9 hB9
          go_roundg (3 - (j + 1))
          case measure => go_light; omega
          case rel => go_light; exact ⟨j + 1, s7, s9, by omega, rfl, by go_num, by rw [← HXa.out]; exact hA10, by rw [← HXb.out]; exact hB10, nA8b, nB10, b10⟩
        · obtain rfl : j = 3 := by omega
          have hCA := hA.box
          have hCB := hB.box
          have gF := bstep gg1 hbel
          obtain ⟨eA, eB, eh⟩ := HD.out
          have x0 : wr.cell? ⟨pa, 0, none⟩ = some (.int .u8 0) := (bxC hCA 0).trans rfl
          have x7 : wr.cell? ⟨pa, 7, none⟩ = some (.bool false) := (bxC hCA 7).trans (by show some (Value.bool A.has) = _; rw [eh])
          have x2 : wr.cell? ⟨pa, 2, none⟩ = some (.int .i64 0) := (bxC hCA 2).trans (by show some (Value.int .i64 A.cf.t) = _; rw [eA]; rfl)
          have x3 : wr.cell? ⟨pa, 3, none⟩ = some (.int .i64 0) := (bxC hCA 3).trans (by show some (Value.int .i64 A.cf.r) = _; rw [eA]; rfl)
          have x4 : wr.cell? ⟨pa, 4, none⟩ = some (.bool false) := (bxC hCA 4).trans (by show some (Value.bool A.cf.o) = _; rw [eA]; rfl)
          have x5 : wr.cell? ⟨pa, 5, none⟩ = some (.int .i64 0) := (bxC hCA 5).trans (by show some (Value.int .i64 A.cf.n) = _; rw [eA]; rfl)
          have x6 : wr.cell? ⟨pa, 6, none⟩ = some (.int .i64 0) := (bxC hCA 6).trans (by show some (Value.int .i64 A.cf.m) = _; rw [eA]; rfl)
          have z0 : wr.cell? ⟨pb, 0, none⟩ = some (.int .u8 0) := (bxC hCB 0).trans rfl
          have z2 : wr.cell? ⟨pb, 2, none⟩ = some (.int .i64 0) := (bxC hCB 2).trans (by show some (Value.int .i64 B.cf.t) = _; rw [eB]; rfl)
          have z3 : wr.cell? ⟨pb, 3, none⟩ = some (.int .i64 0) := (bxC hCB 3).trans (by show some (Value.int .i64 B.cf.r) = _; rw [eB]; rfl)
          have z4 : wr.cell? ⟨pb, 4, none⟩ = some (.bool false) := (bxC hCB 4).trans (by show some (Value.bool B.cf.o) = _; rw [eB]; rfl)
          have z5 : wr.cell? ⟨pb, 5, none⟩ = some (.int .i64 0) := (bxC hCB 5).trans (by show some (Value.int .i64 B.cf.n) = _; rw [eB]; rfl)
          have z6 : wr.cell? ⟨pb, 6, none⟩ = some (.int .i64 0) := (bxC hCB 6).trans (by show some (Value.int .i64 B.cf.m) = _; rw [eB]; rfl)
          clear hA hB nA nB hbel hCA hCB eA eB eh HD HB3
          go_wp2_with (go_at_call 12; (with_reducible refine (awake8_any _).mono ?_); rintro e w9 ⟨rfl, g9⟩)
          go_ret
          exact ⟨rfl, bstep gF g9⟩

theorem ctlSends_walk (w : World) (id : Nat) (ext rem : Bool) (dlc : Nat) (a : Option Addr) (n c : Nat) (l : List UInt8) (hi : id < 4294967296) (hd : dlc < 256) (h : RL bv w a n c l) (m1 : n ≤ 9223372036854775807) :
    Calls Try.prog 3 #[.agg #[.int .u32 (id : Int), .bool ext, .bool rem, .int .u8 (dlc : Int), .slice a n c]] w fun e w' => e = .returned (.bool true) ∧ Below w.heap.size w w' := by
  cases hr : riF id ext rem dlc n
  · exact ctlSends_wrong w id ext rem dlc a n c hi hd hr
  · exact ctlSends_right w id ext rem dlc a n c l hi hd h hr
end Go.Proofs.Ytaagfaidjihjcaa
