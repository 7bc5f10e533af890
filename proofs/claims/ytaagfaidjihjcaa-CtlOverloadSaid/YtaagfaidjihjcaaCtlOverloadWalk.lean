/-
  The walk of the statement CtlOverload: for any frame, any row and either end it returns true, and nothing that was there has changed.
-/
import Derived.Test.YtaagfaidjihjcaaB8zb
import Derived.Test.YtaagfaidjihjcaaCtlTailWalk
import Derived.Laws.Small
namespace Go.Proofs.Ytaagfaidjihjcaa
open Go.RowKit Go.Sort
set_option linter.unusedVariables false
set_option linter.unusedSectionVars false

/-- Between two frames, with nothing to send. -/
structure Bt (A : Ct) : Prop where
  cf : A.cf = zeC
  has : A.has = false
  gv : A.give = zeroFr
  sd : A.sender = false

theorem ts_last {F : Fr} (hg : Good F) {c : Ct} (h : TS (ackL F) (putL (boL F)).length ((putL (boL F)).length + 9) c) {x : Bool} (hx : (ackL F)[(putL (boL F)).length + 9]? = some x) :
    ∃ A, (stC c x).1 = phC A 7 0 false ∧ Bt A := by
  rcases h with ⟨h0, _⟩ | ⟨h1, s, rfl, hr⟩
  · omega
  · obtain ⟨_, _, _, _, e5, _⟩ := sends_step hg h1 (by omega) hr hx zeC false zeroFr
    rw [if_neg (by omega), if_pos rfl] at e5
    rw [e5]
    exact ⟨rcvAt zeC s, rfl, rfl, rfl, rfl, rfl⟩

section
variable {A : Ct} (h : Bt A)
include h

theorem bt_ph {ph n : Nat} {e : Bool} (h1 : ph ≠ 1) (h10 : ph < 10) (hn : n ≤ 7) : StepOK (phC A ph n e) :=
  ok_ph (fun _ => by rw [h.cf]; decide) h1 h10 hn (fun k => by rw [h.has] at k; cases k) (by rw [h.gv]; simp [zeroFr])
theorem bt_fl {j : Nat} (hj : j ≤ 16) : StepOK (flSt A 4 false j) :=
  ok_fl (by rw [h.cf]; decide) (fun k => by rw [h.has] at k; cases k) (by rw [h.gv]; simp [zeroFr]) (.inr rfl) false hj

omit h in
theorem ru_flag : ∀ m, m ≤ 6 → ruC (flSt A 4 false 0) false m = (flSt A 4 false m, 0) := by
  intro m
  induction m with
  | zero => intro _; rfl
  | succ m ih =>
    intro hm
    have := (fl_step A (.inr rfl) false (show m < 16 by omega)).1
    rw [decide_eq_false (by omega)] at this
    rw [ruC, ih (by omega), this]; rfl
omit h in
theorem ru_delim : ∀ m, m ≤ 8 → ruC (flSt A 4 false 6) true m = (flSt A 4 false (6 + m), 0) := by
  intro m
  induction m with
  | zero => intro _; rfl
  | succ m ih =>
    intro hm
    have := (fl_step A (.inr rfl) false (show 6 + m < 16 by omega)).1
    rw [decide_eq_true (by omega)] at this
    rw [ruC, ih (by omega), this]; rfl

omit h in
theorem ok_run1 {c : Ct} {x : Bool} (hc : StepOK c) : ∀ k, k < 1 → StepOK (ruC c x k).1 := fun k hk => by
  obtain rfl : k = 0 := by omega
  exact hc

variable (w : World) (pa : Nat) (s : Sl)
/-- A recessive bit as the first one. -/
theorem rn_rec (hC : Cb w pa (phC A 7 0 false) s) : Calls Try.prog 20 #[.bool true, .int .i64 1, .pointer (some ⟨pa, 0, none⟩)] w fun e w' => e = .returned (.int .u8 0) ∧ (∃ s', Cb w' pa (phC A 7 1 false) s') ∧ Wr pa w w' :=
  run_any w pa _ s 1 true hC (ok_run1 (bt_ph h (ph := 7) (n := 0) (by decide) (by decide) (by decide))) (by omega)
theorem rn_two (hC : Cb w pa (phC A 7 0 false) s) : Calls Try.prog 20 #[.bool true, .int .i64 2, .pointer (some ⟨pa, 0, none⟩)] w fun e w' => e = .returned (.int .u8 0) ∧ (∃ s', Cb w' pa (phC A 7 2 false) s') ∧ Wr pa w w' :=
  run_any w pa _ s 2 true hC (fun k hk => by
    have : k = 0 ∨ k = 1 := by omega
    rcases this with rfl | rfl
    · exact bt_ph h (ph := 7) (n := 0) (e := false) (by decide) (by decide) (by decide)
    · exact bt_ph h (ph := 7) (n := 1) (e := false) (by decide) (by decide) (by decide)) (by omega)
/-- A dominant one: an overload. -/
theorem rn_dom (j : Nat) (hj : j < 2) (hC : Cb w pa (phC A 7 j false) s) : Calls Try.prog 20 #[.bool false, .int .i64 1, .pointer (some ⟨pa, 0, none⟩)] w fun e w' => e = .returned (.int .u8 9) ∧ (∃ s', Cb w' pa (flSt A 4 false 0) s') ∧ Wr pa w w' := by
  have k := run_any w pa _ s 1 false hC (ok_run1 (bt_ph h (ph := 7) (by decide) (by decide) (by omega))) (by omega)
  have e : ruC (phC A 7 j false) false 1 = (flSt A 4 false 0, 9) := by
    match j, hj with
    | 0, _ => rfl
    | 1, _ => rfl
  rw [e] at k
  exact k
theorem rn_six (hC : Cb w pa (flSt A 4 false 0) s) : Calls Try.prog 20 #[.bool false, .int .i64 6, .pointer (some ⟨pa, 0, none⟩)] w fun e w' => e = .returned (.int .u8 0) ∧ (∃ s', Cb w' pa (flSt A 4 false 6) s') ∧ Wr pa w w' := by
  have k := run_any w pa _ s 6 false hC (fun k hk => by rw [ru_flag k (by omega)]; exact bt_fl h (by omega)) (by omega)
  rw [ru_flag 6 (by omega)] at k
  exact k
theorem rn_eight (hC : Cb w pa (flSt A 4 false 6) s) : Calls Try.prog 20 #[.bool true, .int .i64 8, .pointer (some ⟨pa, 0, none⟩)] w fun e w' => e = .returned (.int .u8 0) ∧ (∃ s', Cb w' pa (phC A 7 0 false) s') ∧ Wr pa w w' := by
  have k := run_any w pa _ s 8 true hC (fun k hk => by rw [ru_delim k (by omega)]; exact bt_fl h (by omega)) (by omega)
  rw [ru_delim 8 (by omega)] at k
  exact k
/-- The third bit between. -/
theorem rn_third (x : Bool) (hC : Cb w pa (phC A 7 2 false) s) : Calls Try.prog 20 #[.bool x, .int .i64 1, .pointer (some ⟨pa, 0, none⟩)] w fun e w' => e = .returned (.int .u8 0) ∧ (∃ B s', Cb w' pa B s' ∧ Hid (B.ph = (if x then 0 else 1) ∧ B.cf = zeC)) ∧ Wr pa w w' := by
  have k := run_any w pa _ s 1 x hC (ok_run1 (bt_ph h (ph := 7) (by decide) (by decide) (by omega))) (by omega)
  cases x
  · have e : ruC (phC A 7 2 false) false 1 = (begC (phC A 7 2 false) (A.has && !holdC A), 0) := rfl
    rw [e, h.has] at k
    exact k.mono fun e w' ⟨a, ⟨s', b⟩, c⟩ => ⟨a, ⟨_, s', b, hid ⟨rfl, h.cf⟩⟩, c⟩
  · have e : ruC (phC A 7 2 false) true 1 = (phC A (if holdC A then 8 else 0) 0 false, 0) := rfl
    have hh : holdC A = false := by unfold holdC; rw [h.sd]; rfl
    rw [e, hh] at k
    exact k.mono fun e w' ⟨a, ⟨s', b⟩, c⟩ => ⟨a, ⟨_, s', b, hid ⟨rfl, h.cf⟩⟩, c⟩
end

/-- The cells of counters that are noughts. -/
theorem cf_cells {w : World} {g : Nat} {c : Ct} {s : Sl} (h : Cb w g c s) (hz : c.cf = zeC) :
    w.cell? ⟨g, 2, none⟩ = some (.int .i64 0) ∧ w.cell? ⟨g, 3, none⟩ = some (.int .i64 0) ∧ w.cell? ⟨g, 4, none⟩ = some (.bool false) ∧ w.cell? ⟨g, 5, none⟩ = some (.int .i64 0) ∧ w.cell? ⟨g, 6, none⟩ = some (.int .i64 0) :=
  ⟨(bxC h.box 2).trans (by show some (Value.int .i64 c.cf.t) = _; rw [hz]; rfl), (bxC h.box 3).trans (by show some (Value.int .i64 c.cf.r) = _; rw [hz]; rfl),
   (bxC h.box 4).trans (by show some (Value.bool c.cf.o) = _; rw [hz]; rfl), (bxC h.box 5).trans (by show some (Value.int .i64 c.cf.n) = _; rw [hz]; rfl),
   (bxC h.box 6).trans (by show some (Value.int .i64 c.cf.m) = _; rw [hz]; rfl)⟩

set_option maxRecDepth 100000 in
set_option maxHeartbeats 4000000 in
theorem ctlOverload_wrong (w : World) (id : Nat) (ext rem : Bool) (dlc : Nat) (a : Option Addr) (n c : Nat) (v1 v2 : Value) (hi : id < 4294967296) (hd : dlc < 256) (hr : riF id ext rem dlc n = false) :
    Calls Try.prog 8 #[.agg #[.int .u32 (id : Int), .bool ext, .bool rem, .int .u8 (dlc : Int), .slice a n c], v1, v2] w fun e w' => e = .returned (.bool true) ∧ Below w.heap.size w w' := by
  obtain ⟨w0, hw0, hbx, _, _, _, _, _, gg0⟩ := boxed w 25 (.int .u32 (id : Int)) (.bool ext) (.bool rem) (.int .u8 (dlc : Int)) (.slice a n c)
  have hW := wire_wrong w0 id ext rem dlc a n c hi hd hr
  go_enter Try.func8, Try.ntmps8
  go_wp2_with (first
    | (go_at_call 10; rw [hw0.out]; (with_reducible refine hW.mono ?_); rintro e w1 ⟨rfl, g1⟩)
    | (go_at_call 12; refine (awake8_any w1).mono ?_; rintro e w3 ⟨rfl, g3⟩))
  go_ret
  exact ⟨rfl, bstep (bstep gg0 g1) g3⟩

set_option maxRecDepth 100000 in
set_option maxHeartbeats 8000000 in
theorem ctlOverload_right (w : World) (id : Nat) (ext rem : Bool) (dlc : Nat) (a : Option Addr) (n c : Nat) (l : List UInt8) (a2 : Option Addr) (n2 c2 : Nat) (l2 : List Bool) (st : Bool) (hi : id < 4294967296) (hd : dlc < 256) (h : RL bv w a n c l) (h2 : RL .bool w a2 n2 c2 l2) (m2 : n2 ≤ 9223372036854775807) (hr : riF id ext rem dlc n = true) :
    Calls Try.prog 8 #[.agg #[.int .u32 (id : Int), .bool ext, .bool rem, .int .u8 (dlc : Int), .slice a n c], .slice a2 n2 c2, .bool st] w fun e w' => e = .returned (.bool true) ∧ Below w.heap.size w w' := by
  obtain ⟨w0, hw0, hbx, _, _, _, _, _, gg0⟩ := boxed w 25 (.int .u32 (id : Int)) (.bool ext) (.bool rem) (.int .u8 (dlc : Int)) (.slice a n c)
  have h0 := h.below gg0
  have hg : Good ⟨id, ext, rem, dlc, l⟩ := (good_iff ⟨id, ext, rem, dlc, l⟩ n h.len).1 hr
  have hW := wire_any w0 id ext rem dlc a n c l hi hd h0 hr
  obtain ⟨F, hF⟩ : ∃ F : Fr, F = ⟨id, ext, rem, dlc, l⟩ := ⟨_, rfl⟩
  rw [← hF] at hg hW
  have hP1 := P_pos F
  have hP2 := P_top hg
  have hwl := wiL_length F
  have hal : (ackL F).length = (putL (boL F)).length + 10 := by unfold ackL; rw [List.length_set, hwl]
  have tOk := fun (i : Nat) (c : Ct) hi' hh => ts_ok hg (i := i) (c := c) hi' hh
  have tBit := fun (i : Nat) (c : Ct) (x y : Bool) hi' hh => ts_bit hg (i := i) (c := c) hi' hh (x := x) (y := y)
  have tStep := fun (i : Nat) (c : Ct) (x : Bool) hi' hh => ts_step hg (i := i) (c := c) hi' hh (x := x)
  have tLast := fun (c : Ct) (x : Bool) hh => ts_last hg (c := c) hh (x := x)
  obtain ⟨P, hP⟩ : ∃ P, P = (putL (boL F)).length := ⟨_, rfl⟩
  simp only [← hP] at hW hP1 hP2 hwl hal tOk tBit tStep tLast
  obtain ⟨L, hL⟩ : ∃ L, L = ackL F := ⟨_, rfl⟩
  obtain ⟨W, hWe⟩ : ∃ W, W = wiL F := ⟨_, rfl⟩
  simp only [← hL, ← hWe] at hW hwl hal tOk tBit tStep tLast
  obtain ⟨N, hN⟩ : ∃ N, N = P + 10 := ⟨_, rfl⟩
  rw [← hN] at hW hwl hal
  have hN160 : N ≤ 160 := by omega
  have HK := hid hN
  have HT := hid (And.intro tOk (And.intro tBit (And.intro tStep tLast)))
  have HLn := hid (And.intro hwl hal)
  clear tOk tBit tStep tLast hwl hal hP hL hWe hN hF hg hr hP1 hP2
  go_enter Try.func8, Try.ntmps8
  go_wp2_with (first
    | (go_at_call 10; rw [hw0.out]; (with_reducible refine hW.mono ?_); rintro e w1 ⟨a1, c1, rfl, ho1, g1⟩; have hz1 := heap_alloc_new w1 (.cells ctZ 37)))
  have gg1 := bstep gg0 g1
  have hrw := ho1.rl
  have hrs := h2.below gg1
  have C0 : Cb (w1.alloc (.cells ctZ 37)) w1.heap.size c0 sl0 := ⟨hz1, CtO.zero _ _, nbs0 _⟩
  have HS := hid (show TS L P 0 c0 from .inl ⟨rfl, rfl⟩)
  clear hz1 ho1 g1 hW hw0 hbx h0 gg0 h h2
  go_loopg [25] N (fun gn idx wr => ∃ (i : Nat) (cc : Ct) (s : Sl), i ≤ N ∧ gn = N - i ∧ idx = .int .i64 (i : Int) ∧ Cb wr w1.heap.size cc s ∧ Below w1.heap.size w1 wr ∧ Hid (i < N → TS L P i cc) ∧
    Hid (i = N → ∃ A, cc = phC A 7 0 false ∧ Bt A))
  case atStart => exact ⟨0, c0, sl0, by omega, by omega, rfl, C0, bnew0 _ _, hid (fun _ => HS.out), hid (fun e => absurd e (by have := HK.out; omega))⟩
  case round =>
    clear C0 HS
    obtain ⟨i, cc, s, hik, rfl, rfl, hC, hbel, HS, HE⟩ := hrel
    by_cases hlt : i < N
    · have hts := HS.out hlt
      clear HS HE
      have hiP : i < P + 10 := by have := HK.out; omega
      have hok := HT.out.1 i cc hiP hts
      obtain ⟨bb, off, yb, hbb, hyb, hck⟩ := (hrw.below hbel).at (k := i) hlt
      obtain ⟨x, hx⟩ : ∃ x, L[i]? = some x := ⟨L[i]'(by rw [HLn.out.2]; omega), by simp⟩
      have HX := hid (HT.out.2.1 i cc x yb hiP hts hx hyb)
      have hD := fun (w2 : World) (h1 : CtR w2 cc s) => drive_any w2 cc s h1 hok.ph (fun e1 e2 => (hok.sn e1 e2).pos)
      have hS := fun (w2 : World) (h1 : CtR w2 cc s) => step_any w2 cc s x h1 hok
      have HN1 : Hid (i + 1 < N → TS L P (i + 1) (stC cc x).1) := fun e => (HT.out.2.2.1 i cc x (by have := HK.out; omega) hts hx).1
      have HN2 : Hid (i + 1 = N → ∃ A, (stC cc x).1 = phC A 7 0 false ∧ Bt A) := fun e => by
        have hi9 : i = P + 9 := by have := HK.out; omega
        rw [hi9] at hts hx
        exact HT.out.2.2.2 cc x hts hx
      generalize stC cc x = r at hS HN1 HN2
      generalize dvC cc = dv at hD HX
      have hC1 := hC.box
      have hcr := hC.r
      have z4 := hC.lt
      clear hts hx hyb hok hiP
      subst hbb
      go_upto_region 8 with fail
      have hcD : Cb wr.drew w1.heap.size cc s := hC.drew
      have hbD := hcD.box
      have hlD : Below w1.heap.size w1 wr.drew := below_drew1 hbel
      cases yb
      · obtain rfl : x = false := by rw [← HX.out]; rfl
        refine Rest.begin (S := fun w' => w'.heap[w1.heap.size]? = some (.cells (ctA cc s) 37 (0, 0))) (X := [6]) (by kernel_rfl) ?_
        change Rest _ _ _ _ _ _ _ _ _ wr.drew
        refine Rest.takeS (i := 0) (v := .agg (ctA cc s)) rfl (by kernel_rfl) (by kernel_rfl) (by kernel_rfl) (by kernel_rfl) (fun _ _ _ h => h) hbD (yields_loadR rowC (by simp [Region.wanted]) _ rfl w1.heap.size (by simp [Act.eval]) _ rfl (fun w h => ⟨_, _, h⟩)) ?_
        refine Rest.take (i := 1) (v := .bool false) rfl (by kernel_rfl) (by kernel_rfl) (by kernel_rfl) (by kernel_rfl) (fun _ _ _ h => h) (.inl hbD) (Or.inl ⟨by simp [Region.wanted, yielded, Act.put], ?_⟩) ?_
        · intro w; go_simp
        refine Rest.take (i := 2) (v := .bool false) rfl (by kernel_rfl) (by kernel_rfl) (by kernel_rfl) (by kernel_rfl) (fun _ _ _ h => h) (.inl hbD) (Or.inl ⟨by simp [Region.wanted, yielded, Act.put], ?_⟩) ?_
        · intro w; go_simp
        refine Rest.take (i := 3) (v := undef) rfl (by kernel_rfl) (by kernel_rfl) (by kernel_rfl) (by kernel_rfl) (fun _ _ _ h => h) (.inl hbD) (Or.inr ⟨by simp [Region.wanted, yielded, Act.put], rfl⟩) ?_
        refine Rest.take (i := 4) (v := undef) rfl (by kernel_rfl) (by kernel_rfl) (by kernel_rfl) (by kernel_rfl) (fun _ _ _ h => h) (.inl hbD) (Or.inr ⟨by simp [Region.wanted, yielded, Act.put], rfl⟩) ?_
        refine Rest.take (i := 5) (v := .bool false) rfl (by kernel_rfl) (by kernel_rfl) (by kernel_rfl) (by kernel_rfl) (fun _ _ _ h => h) (.inl hbD) (Or.inl ⟨by simp [Region.wanted, yielded, Act.put], ?_⟩) ?_
        · intro w; go_simp
        refine Rest.one (i := 6) (by kernel_rfl) rfl (fun K hK => ?_)
        refine draw_callF 15 plain_step (by simp [Region.wanted]) _ _ _ rfl (by simp [Act.eval]) #[.agg (ctA cc s), .bool false] (by simp [Act.eval, Act.put]) _ (hS wr.drew hcD.r) ?_
        rintro e w5 ⟨s5, a5, n5, rfl, o5, y5, g5⟩
        refine ⟨_, rfl, ?_⟩
        refine hK _ _ ⟨.inr (thru_of (by kernel_rfl)), Rest.of_any _ _ _ _ (thru_of (by kernel_rfl)) ?_⟩; clear hK K
        have hb5 := (hcD.below g5).box
        have z5 := hcD.lt
        refine wpAny_take (i := 7) (v := .tuple #[.agg (ctA r.1 s5), .agg (hapA r.2 a5 n5)]) rfl (by kernel_rfl) (by kernel_rfl) (by kernel_rfl) (fun _ _ _ h => h) (Or.inl ⟨by simp [Region.wanted], ?_⟩) ?_
        · intro w; go_simp
        refine wpAny_take (i := 8) (v := .agg (ctA r.1 s5)) rfl (by kernel_rfl) (by kernel_rfl) (by kernel_rfl) (fun _ _ _ h => h) (Or.inl ⟨by simp [Region.wanted], ?_⟩) ?_
        · intro w; go_simp
        refine wpAny_take (i := 9) (v := .agg (hapA r.2 a5 n5)) rfl (by kernel_rfl) (by kernel_rfl) (by kernel_rfl) (fun _ _ _ h => h) (Or.inl ⟨by simp [Region.wanted], ?_⟩) ?_
        · intro w; go_simp
        refine wpAny_ready (rs := [10]) (by kernel_rfl) (by simp) ?_
        refine AllReady.cons rfl (fun K hK => ?_) AllReady.nil
        (with_reducible refine draw_storeR rowC ?zgd ?zx ?zy ?zo w1.heap.size (ctA r.1 s5) ?zhx ?zhy (w := w5) hb5 ?zn ?zold (ct_ones _ _) ?zh)
        case zo => exact rfl
        case zgd => exact rfl
        case zhx => first | (simp [Act.eval]; done) | simp [Act.eval, Act.put]
        case zhy => first | (simp [Act.eval]; done) | simp [Act.eval, Act.put]
        case zn => rfl
        case zold => rfl
        refine hK _ _ ?_; clear hK K
        refine wpAny_done (by kernel_rfl) ?_ _
        have C8 := Cb.put hb5 o5 (o5.nbs z5)
        have b8 := below_setRow (bstep hlD g5) (Nat.le_refl _) (ctA r.1 s5)
        clear hD hS hb5 o5 y5
        go_wp2
        go_roundg (N - (i + 1))
        case measure => go_light; omega
        case rel => go_light; exact ⟨i + 1, r.1, s5, by omega, rfl, by go_num, C8, b8, HN1, HN2⟩
      · obtain rfl : dv = x := by rw [← HX.out]; rfl
        refine Rest.begin (S := fun w' => w'.heap[w1.heap.size]? = some (.cells (ctA cc s) 37 (0, 0))) (X := [4, 6]) (by kernel_rfl) ?_
        change Rest _ _ _ _ _ _ _ _ _ wr.drew
        refine Rest.takeS (i := 0) (v := .agg (ctA cc s)) rfl (by kernel_rfl) (by kernel_rfl) (by kernel_rfl) (by kernel_rfl) (fun _ _ _ h => h) hbD (yields_loadR rowC (by simp [Region.wanted, yielded, Act.put]) _ rfl w1.heap.size (by simp [Act.eval, Act.put]) _ rfl (fun w h => ⟨_, _, h⟩)) ?_
        refine Rest.take (i := 1) (v := .bool true) rfl (by kernel_rfl) (by kernel_rfl) (by kernel_rfl) (by kernel_rfl) (fun _ _ _ h => h) (.inl hbD) (Or.inl ⟨by simp [Region.wanted, yielded, Act.put], ?_⟩) ?_
        · intro w; go_simp
        refine Rest.take (i := 2) (v := .bool true) rfl (by kernel_rfl) (by kernel_rfl) (by kernel_rfl) (by kernel_rfl) (fun _ _ _ h => h) (.inl hbD) (Or.inl ⟨by simp [Region.wanted, yielded, Act.put], ?_⟩) ?_
        · intro w; go_simp
        refine Rest.takeS (i := 3) (v := .agg (ctA cc s)) rfl (by kernel_rfl) (by kernel_rfl) (by kernel_rfl) (by kernel_rfl) (fun _ _ _ h => h) hbD (yields_loadR rowC (by simp [Region.wanted, yielded, Act.put]) _ rfl w1.heap.size (by simp [Act.eval, Act.put]) _ rfl (fun w h => ⟨_, _, h⟩)) ?_
        refine Rest.one (i := 4) (by kernel_rfl) rfl (fun K hK => ?_)
        refine draw_callF 13 plain_drive (by simp [Region.wanted, yielded, Act.put]) _ _ _ rfl (by simp [Act.eval]) #[.agg (ctA cc s)] (by simp [Act.eval, Act.put]) _ (hD wr.drew hcD.r) ?_
        rintro e w4 ⟨rfl, g4⟩
        refine ⟨_, rfl, ?_⟩
        have hc4 := hcD.below g4
        have hb4 := hc4.box
        refine hK _ _ ⟨.inl hb4, ?_⟩; clear hK K
        refine Rest.take (i := 5) (v := .bool dv) rfl (by kernel_rfl) (by kernel_rfl) (by kernel_rfl) (by kernel_rfl) (fun _ _ _ h => h) (.inl hb4) (Or.inl ⟨by simp [Region.wanted, yielded, Act.put], ?_⟩) ?_
        · intro w; go_simp
        refine Rest.one (i := 6) (by kernel_rfl) rfl (fun K hK => ?_)
        refine draw_callF 15 plain_step (by simp [Region.wanted]) _ _ _ rfl (by simp [Act.eval]) #[.agg (ctA cc s), .bool dv] (by simp [Act.eval, Act.put]) _ (hS w4 hc4.r) ?_
        rintro e w5 ⟨s5, a5, n5, rfl, o5, y5, g5⟩
        refine ⟨_, rfl, ?_⟩
        refine hK _ _ ⟨.inr (thru_of (by kernel_rfl)), Rest.of_any _ _ _ _ (thru_of (by kernel_rfl)) ?_⟩; clear hK K
        have hb5 := (hc4.below g5).box
        have z5 := hc4.lt
        refine wpAny_take (i := 7) (v := .tuple #[.agg (ctA r.1 s5), .agg (hapA r.2 a5 n5)]) rfl (by kernel_rfl) (by kernel_rfl) (by kernel_rfl) (fun _ _ _ h => h) (Or.inl ⟨by simp [Region.wanted], ?_⟩) ?_
        · intro w; go_simp
        refine wpAny_take (i := 8) (v := .agg (ctA r.1 s5)) rfl (by kernel_rfl) (by kernel_rfl) (by kernel_rfl) (fun _ _ _ h => h) (Or.inl ⟨by simp [Region.wanted], ?_⟩) ?_
        · intro w; go_simp
        refine wpAny_take (i := 9) (v := .agg (hapA r.2 a5 n5)) rfl (by kernel_rfl) (by kernel_rfl) (by kernel_rfl) (fun _ _ _ h => h) (Or.inl ⟨by simp [Region.wanted], ?_⟩) ?_
        · intro w; go_simp
        refine wpAny_ready (rs := [10]) (by kernel_rfl) (by simp) ?_
        refine AllReady.cons rfl (fun K hK => ?_) AllReady.nil
        (with_reducible refine draw_storeR rowC ?vzgd ?vzx ?vzy ?vzo w1.heap.size (ctA r.1 s5) ?vzhx ?vzhy (w := w5) hb5 ?vzn ?vzold (ct_ones _ _) ?vzh)
        case vzo => exact rfl
        case vzgd => exact rfl
        case vzhx => first | (simp [Act.eval]; done) | simp [Act.eval, Act.put]
        case vzhy => first | (simp [Act.eval]; done) | simp [Act.eval, Act.put]
        case vzn => rfl
        case vzold => rfl
        refine hK _ _ ?_; clear hK K
        refine wpAny_done (by kernel_rfl) ?_ _
        have C8 := Cb.put hb5 o5 (o5.nbs z5)
        have b8 := below_setRow (bstep (bstep hlD g4) g5) (Nat.le_refl _) (ctA r.1 s5)
        clear hD hS hb5 o5 y5
        go_wp2
        go_roundg (N - (i + 1))
        case measure => go_light; omega
        case rel => go_light; exact ⟨i + 1, r.1, s5, by omega, rfl, by go_num, C8, b8, HN1, HN2⟩
    · obtain rfl : i = N := by omega
      obtain ⟨A, rfl, hA⟩ := HE.out rfl
      have HA := hid hA
      clear HS HE HT hrw hA
      obtain ⟨m, hm⟩ : ∃ m, m = min n2 20 := ⟨_, rfl⟩
      have hmin : ∀ (ts : Array TypeId) (t : TypeId) (w' : World), (Builtin.min_ ts t #[.int .i64 (n2 : Int), .int .i64 20]).run Try.prog w' = .ok (.int .i64 (m : Int)) w' := fun ts t w' => by
        rw [run_min_int2]; congr 2; split <;> omega
      have hm20 : m ≤ 20 := by omega
      have hmn : m ≤ n2 := by omega
      clear hm
      obtain ⟨a3, hcA, hcB, hr3⟩ := run_cutTo tB hrs .i64 m hmn
      go_wp2
      go_loopg [47] m (fun gn idx wr2 => ∃ (k : Nat) (s' : Sl), k ≤ m ∧ gn = m - k ∧ idx = .int .i64 (k : Int) ∧ Cb wr2 w1.heap.size (phC A 7 0 false) s' ∧ Below w1.heap.size w1 wr2)
      case atStart => exact ⟨0, s, by omega, by omega, rfl, hC, hbel⟩
      case round =>
        clear hC hbel hmin hcA hcB
        obtain ⟨k, s', hkm, rfl, rfl, hC, hbel⟩ := hrel
        have z1 := hC.lt
        by_cases hlt : k < m
        · obtain ⟨bb, off, yb, hbb, hyb, hck⟩ := (hr3.below hbel).at (k := k) hlt
          subst hbb
          have q0 : wr.cell? ⟨w1.heap.size, 0, none⟩ = some (.int .u8 7) := (bxC hC.box 0).trans rfl
          clear hyb
          go_upto_region 14 with fail
          go_cut [71] (fun s71 wx => s71 = .bool false ∧ ∃ s', Cb wx w1.heap.size (flSt A 4 false 0) s' ∧ Below w1.heap.size w1 wx)
          case first =>
            cases yb
            · go_wp2_with (go_at_call 20; (with_reducible refine (rn_dom HA.out _ _ _ 0 (by omega) hC).mono ?_); rintro e w5 ⟨rfl, ⟨s5, hC5⟩, g5⟩; have q5 : w5.cell? ⟨w1.heap.size, 0, none⟩ = some (.int .u8 4) := (bxC hC5.box 0).trans rfl)
              go_meet
              exact ⟨rfl, s5, hC5, g5.below hbel (Nat.le_refl _) z1⟩
            · go_wp2_with (first
                | (go_at_call 20; (with_reducible refine (rn_rec HA.out _ _ _ hC).mono ?_); rintro e w4 ⟨rfl, ⟨s4, hC4⟩, g4⟩; have hb4 := g4.below hbel (Nat.le_refl _) z1; have z4 := hC4.lt)
                | (go_at_call 20; (with_reducible refine (rn_dom HA.out _ _ _ 1 (by omega) hC4).mono ?_); rintro e w5 ⟨rfl, ⟨s5, hC5⟩, g5⟩; have q5 : w5.cell? ⟨w1.heap.size, 0, none⟩ = some (.int .u8 4) := (bxC hC5.box 0).trans rfl))
              go_meet
              exact ⟨rfl, s5, hC5, g5.below hb4 (Nat.le_refl _) z4⟩
          case rest =>
          clear hC hbel q0 hck z1
          obtain ⟨rfl, s2, hC, hbel⟩ := hcut
          have z1 := hC.lt
          go_upto_region 16 with fail
          go_cut [90] (fun s90 wx => s90 = .bool false ∧ ∃ s', Cb wx w1.heap.size (phC A 7 0 false) s' ∧ Below w1.heap.size w1 wx)
          case first =>
            go_wp2_with (first
              | (go_at_call 20; (with_reducible refine (rn_six HA.out _ _ _ hC).mono ?_); rintro e w4 ⟨rfl, ⟨s4, hC4⟩, g4⟩; have hb4 := g4.below hbel (Nat.le_refl _) z1; have z4 := hC4.lt)
              | (go_at_call 20; (with_reducible refine (rn_eight HA.out _ _ _ hC4).mono ?_); rintro e w5 ⟨rfl, ⟨s5, hC5⟩, g5⟩; have q5 : w5.cell? ⟨w1.heap.size, 0, none⟩ = some (.int .u8 7) := (bxC hC5.box 0).trans rfl; obtain ⟨x2, x3, x4, x5, x6⟩ := cf_cells hC5 HA.out.cf))
            go_meet
            exact ⟨rfl, s5, hC5, g5.below hb4 (Nat.le_refl _) z4⟩
          case rest =>
          clear hC hbel z1
          obtain ⟨rfl, s3, hC, hbel⟩ := hcut
          go_wp2
          go_roundg (m - (k + 1))
          case measure => go_light; omega
          case rel => go_light; exact ⟨k + 1, s3, by omega, rfl, by go_num, hC, hbel⟩
        · obtain rfl : k = m := by omega
          clear hlt hr3
          cases st
          · go_wp2_with (first
              | (go_at_call 20; (with_reducible refine (rn_two HA.out _ _ _ hC).mono ?_); rintro e w4 ⟨rfl, ⟨s4, hC4⟩, g4⟩; have hb4 := g4.below hbel (Nat.le_refl _) z1; have z4 := hC4.lt)
              | (go_at_call 20; (with_reducible refine (rn_third HA.out _ _ _ true hC4).mono ?_); rintro e w5 ⟨rfl, ⟨B, s5, hC5, HB⟩, g5⟩; have hb5 := g5.below hb4 (Nat.le_refl _) z4; have q5 : w5.cell? ⟨w1.heap.size, 0, none⟩ = some (.int .u8 0) := (bxC hC5.box 0).trans (by show some (Value.int .u8 (B.ph : Int)) = _; rw [HB.out.1]; rfl); obtain ⟨x2, x3, x4, x5, x6⟩ := cf_cells hC5 HB.out.2)
              | (go_at_call 12; (with_reducible refine (awake8_any _).mono ?_); rintro e w9 ⟨rfl, g9⟩))
            go_ret
            exact ⟨rfl, bstep (bstep gg1 hb5) g9⟩
          · go_wp2_with (first
              | (go_at_call 20; (with_reducible refine (rn_two HA.out _ _ _ hC).mono ?_); rintro e w4 ⟨rfl, ⟨s4, hC4⟩, g4⟩; have hb4 := g4.below hbel (Nat.le_refl _) z1; have z4 := hC4.lt)
              | (go_at_call 20; (with_reducible refine (rn_third HA.out _ _ _ false hC4).mono ?_); rintro e w5 ⟨rfl, ⟨B, s5, hC5, HB⟩, g5⟩; have hb5 := g5.below hb4 (Nat.le_refl _) z4; have q5 : w5.cell? ⟨w1.heap.size, 0, none⟩ = some (.int .u8 1) := (bxC hC5.box 0).trans (by show some (Value.int .u8 (B.ph : Int)) = _; rw [HB.out.1]; rfl); obtain ⟨x2, x3, x4, x5, x6⟩ := cf_cells hC5 HB.out.2)
              | (go_at_call 12; (with_reducible refine (awake8_any _).mono ?_); rintro e w9 ⟨rfl, g9⟩))
            go_ret
            exact ⟨rfl, bstep (bstep gg1 hb5) g9⟩

theorem ctlOverload_walk (w : World) (id : Nat) (ext rem : Bool) (dlc : Nat) (a : Option Addr) (n c : Nat) (l : List UInt8) (a2 : Option Addr) (n2 c2 : Nat) (l2 : List Bool) (st : Bool) (hi : id < 4294967296) (hd : dlc < 256) (h : RL bv w a n c l) (h2 : RL .bool w a2 n2 c2 l2) (m1 : n ≤ 9223372036854775807) (m2 : n2 ≤ 9223372036854775807) :
    Calls Try.prog 8 #[.agg #[.int .u32 (id : Int), .bool ext, .bool rem, .int .u8 (dlc : Int), .slice a n c], .slice a2 n2 c2, .bool st] w fun e w' => e = .returned (.bool true) ∧ Below w.heap.size w w' := by
  cases hr : riF id ext rem dlc n
  · exact ctlOverload_wrong w id ext rem dlc a n c _ _ hi hd hr
  · exact ctlOverload_right w id ext rem dlc a n c l a2 n2 c2 l2 st hi hd h h2 m2 hr
end Go.Proofs.Ytaagfaidjihjcaa
