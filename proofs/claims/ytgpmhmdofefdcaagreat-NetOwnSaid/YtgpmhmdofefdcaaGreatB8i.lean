/-
  Contracts of a state's methods: what is waited for behind a flag.
  Contracts of a state's methods: the bits between frames.
-/
import Derived.Test.YtgpmhmdofefdcaaGreatB8g
namespace Go.Proofs.YtgpmhmdofefdcaaGreat
open Go.RowKit Go.Sort
set_option linter.unusedVariables false

theorem wait_none {c : Ct} (h : waitE c = 0) : waitC c false = ({ c with n := c.n + 1 }, noH) := by
  unfold waitC
  rw [h, if_neg (by decide), if_neg (fun k => k.2 rfl)]
  rfl

set_option maxHeartbeats 4000000 in
/-- PhaseWait. -/
theorem wait_st (B : Nat) (w : World) (g : Nat) (c : Ct) (s : Sl) (x : Bool) (r : Ct × Hp) (hr : r = waitC c x) (h : StB B w g c s) (hmo : moC c.cf ≤ 1) (hn : c.n ≤ 1000000000) :
    Calls Tryz.prog 60 #[.pointer (some ⟨g, 0, none⟩), .bool x] w (Told B w g s r) := by
  have m0 := Mb.start h
  cases x
  · have q1 := m0.st.q1
    have q24 := m0.st.q24
    have q14 := m0.st.q14
    have f := m0.st.fz
    by_cases h0 : c.n = 0
    · have m1 := m0.put 1 (.int .i64 1) { c with n := c.n + 1 } (by rw [h0]; rfl) rfl rfl rfl
      rw [show (c.n : Int) = 0 by omega] at q1
      by_cases h1 : c.err = true ∧ c.sender = false
      · obtain ⟨h2, h3⟩ := h1
        have hC : ∀ w1, StB B w1 g { c with n := c.n + 1 } s → Calls Tryz.prog 79 #[.pointer (some ⟨g, 0, none⟩), .int .u8 2] w1 fun e w' => e = .returned (.tuple #[]) ∧ Left B w1 w' g { { c with n := c.n + 1 } with cf := evC c.cf 2 } s s := fun w1 k => count_st B w1 g { c with n := c.n + 1 } s 2 (by omega) k
        have hE : waitE c = 2 := by unfold waitE; rw [if_pos ⟨by omega, h2, h3⟩]
        have H1 := hid (show r.1 = { { c with n := c.n + 1 } with cf := evC c.cf 2 } by
          rw [hr]; unfold waitC; rw [hE, if_neg (by decide), if_neg (fun k => mo_first hmo k.1)]; rfl)
        have H2 := hid (show r.2 = (0, zeroFr) by rw [hr]; unfold waitC; rw [hE, if_neg (by decide), if_neg (fun k => mo_first hmo k.1)]; rfl)
        have H0 := hid (show ((c.n + 1 : Nat) : Int) = 1 by omega)
        rw [h2] at q24
        rw [h3] at q14
        clear hr h hmo h2 h3 hE h0 hn
        go_enter Tryz.func60, Tryz.ntmps60
        go_wp2_with (go_at_call 79; (with_reducible refine (hC _ m1.st).mono ?_); rintro e w2 ⟨rfl, l2⟩; have m2 := m1.left l2; clear q1; have q1 : w2.cell? ⟨g, 1, none⟩ = some (.int .i64 1) := (by rw [← H0.out]; exact m2.st.q1); obtain ⟨p0, p1, p2, p3, p4, p5⟩ := m2.hps; have fp := m2.hpf)
        exact bodyPost_ret (v := .agg (hapA (0, zeroFr) none 0)) (by simp [results, Tryz.results60, go_sem, p0, p1, p2, p3, p4, p5]; rfl) rfl (m2.six 0 H1.out H2.out _ _ _ _ _ _)
      · have hE : waitE c = 0 := by unfold waitE; rw [if_neg (fun k => h1 k.2), if_neg (by omega)]
        have H1 := hid (show r.1 = { c with n := c.n + 1 } by rw [hr, wait_none hE])
        have H2 := hid (show r.2 = (0, zeroFr) by rw [hr, wait_none hE]; rfl)
        obtain ⟨p0, p1, p2, p3, p4, p5⟩ := m1.hps
        have fp := m1.hpf
        cases h2 : c.err
        · rw [h2] at q24
          clear hr h hmo hE h0 hn h1 h2
          go_enter Tryz.func60, Tryz.ntmps60
          go_wp2
          exact bodyPost_ret (v := .agg (hapA (0, zeroFr) none 0)) (by simp [results, Tryz.results60, go_sem, p0, p1, p2, p3, p4, p5]; rfl) rfl (m1.six 0 H1.out H2.out _ _ _ _ _ _)
        · have h3 : c.sender = true := by cases h3 : c.sender <;> simp_all
          rw [h2] at q24
          rw [h3] at q14
          clear hr h hmo hE h0 hn h1 h2 h3
          go_enter Tryz.func60, Tryz.ntmps60
          go_wp2
          exact bodyPost_ret (v := .agg (hapA (0, zeroFr) none 0)) (by simp [results, Tryz.results60, go_sem, p0, p1, p2, p3, p4, p5]; rfl) rfl (m1.six 0 H1.out H2.out _ _ _ _ _ _)
    · have m1 := m0.put 1 (.int .i64 ((c.n : Int) + 1)) { c with n := c.n + 1 } rfl rfl rfl rfl
      have i0 : ¬ (c.n : Int) = 0 := by omega
      by_cases h8 : (c.n + 1) % 8 = 0
      · obtain ⟨k, hk⟩ : ∃ k, k = if c.sender then 7 else 4 := ⟨_, rfl⟩
        have hE : waitE c = k := by unfold waitE; rw [if_neg (fun k => by omega), if_pos h8, hk]
        have hI : ∀ w1, StB B w1 g { c with n := c.n + 1 } s → Calls Tryz.prog 76 #[.pointer (some ⟨g, 0, none⟩), .int .u8 7, .int .u8 4] w1 fun e w' => e = .returned (.int .u8 (k : Int)) ∧ Below w1.heap.size w1 w' := fun w1 h1 => by rw [hk]; exact either_any B w1 g { c with n := c.n + 1 } s 7 4 h1
        have hkb : k = 7 ∨ k = 4 := by rw [hk]; split <;> simp
        have i8 : ((c.n : Int) + 1) % 8 = 0 := by omega
        clear hk
        have hc : cntC c k = { c with cf := evC c.cf k } := by unfold cntC; rw [if_neg (by omega)]
        by_cases hm : moC (evC c.cf k) = 2
        · have hG := fun (w1 : World) (h1 : StB B w1 g { c with n := c.n + 1 } s) => goesOff_yes B w1 g { c with n := c.n + 1 } s k (by omega) h1 hm
          have hR : waitC c false = offC { c with cf := evC c.cf k } := by unfold waitC; rw [hE, hc, if_neg (by decide), if_pos ⟨hm, by omega⟩]
          have H1 := hid (show r.1 = { newC { { c with n := c.n + 1 } with cf := evC c.cf k } 9 with sender := false } by rw [hr, hR]; rfl)
          have H2 := hid (show r.2 = (10, zeroFr) by rw [hr, hR]; rfl)
          clear hr h hmo hE h0 hR hc hkb hm h8
          go_enter Tryz.func60, Tryz.ntmps60
          go_wp2_with (first
            | (go_at_call 76; (with_reducible refine (hI _ m1.st).mono ?_); rintro e w2 ⟨rfl, g2⟩; have m2 := m1.call g2)
            | (go_at_call 75; (with_reducible refine (hG _ m2.st).mono ?_); rintro e w3 ⟨rfl, l3⟩; have m3 := m2.left l3; obtain ⟨p0, p1, p2, p3, p4, p5⟩ := m3.hps; have fp := m3.hpf))
          exact bodyPost_ret (v := .agg (hapA (10, zeroFr) none 0)) (by simp [results, Tryz.results60, go_sem, p0, p1, p2, p3, p4, p5]; rfl) rfl (m3.six 10 H1.out H2.out _ _ _ _ _ _)
        · have hG := fun (w1 : World) (h1 : StB B w1 g { c with n := c.n + 1 } s) => goesOff_no B w1 g { c with n := c.n + 1 } s k (by omega) h1 hm
          have hR : waitC c false = ({ { c with cf := evC c.cf k } with n := c.n + 1 }, noH) := by unfold waitC; rw [hE, hc, if_neg (by decide), if_neg (fun k => hm k.1)]
          have H1 := hid (show r.1 = { { c with n := c.n + 1 } with cf := evC c.cf k } by rw [hr, hR])
          have H2 := hid (show r.2 = (0, zeroFr) by rw [hr, hR]; rfl)
          clear hr h hmo hE h0 hR hc hkb hm h8
          go_enter Tryz.func60, Tryz.ntmps60
          go_wp2_with (first
            | (go_at_call 76; (with_reducible refine (hI _ m1.st).mono ?_); rintro e w2 ⟨rfl, g2⟩; have m2 := m1.call g2)
            | (go_at_call 75; (with_reducible refine (hG _ m2.st).mono ?_); rintro e w3 ⟨rfl, l3⟩; have m3 := m2.left l3; obtain ⟨p0, p1, p2, p3, p4, p5⟩ := m3.hps; have fp := m3.hpf))
          exact bodyPost_ret (v := .agg (hapA (0, zeroFr) none 0)) (by simp [results, Tryz.results60, go_sem, p0, p1, p2, p3, p4, p5]; rfl) rfl (m3.six 0 H1.out H2.out _ _ _ _ _ _)
      · have hE : waitE c = 0 := by unfold waitE; rw [if_neg (fun k => by omega), if_neg h8]
        have H1 := hid (show r.1 = { c with n := c.n + 1 } by rw [hr, wait_none hE])
        have H2 := hid (show r.2 = (0, zeroFr) by rw [hr, wait_none hE]; rfl)
        have i8 : ¬ ((c.n : Int) + 1) % 8 = 0 := by omega
        obtain ⟨p0, p1, p2, p3, p4, p5⟩ := m1.hps
        have fp := m1.hpf
        clear hr h hmo hE h0 h8
        go_enter Tryz.func60, Tryz.ntmps60
        go_wp2
        exact bodyPost_ret (v := .agg (hapA (0, zeroFr) none 0)) (by simp [results, Tryz.results60, go_sem, p0, p1, p2, p3, p4, p5]; rfl) rfl (m1.six 0 H1.out H2.out _ _ _ _ _ _)
  · have hE : ∀ w1, StB B w1 g c s → Calls Tryz.prog 78 #[.pointer (some ⟨g, 0, none⟩), .int .u8 6] w1 fun e w' => e = .returned (.tuple #[]) ∧ Left B w1 w' g (newC c 6) s s.new := fun w1 k => enter_any B w1 g c s 6 k
    have H1 := hid (show r.1 = { newC c 6 with n := 1 } by rw [hr]; rfl)
    have H2 := hid (show r.2 = (0, zeroFr) by rw [hr]; rfl)
    clear hr h hmo hn
    go_enter Tryz.func60, Tryz.ntmps60
    go_wp2_with (go_at_call 78; (with_reducible refine (hE _ m0.st).mono ?_); rintro e w2 ⟨rfl, l2⟩; have m2 := m0.left l2; have m3 := m2.put 1 (.int .i64 1) { newC c 6 with n := 1 } rfl rfl rfl rfl; have q1 := m2.st.q1; have f := m2.st.fz; obtain ⟨p0, p1, p2, p3, p4, p5⟩ := m3.hps; have fp := m3.hpf)
    exact bodyPost_ret (v := .agg (hapA (0, zeroFr) none 0)) (by simp [results, Tryz.results60, go_sem, p0, p1, p2, p3, p4, p5]; rfl) rfl (m3.six 0 H1.out H2.out _ _ _ _ _ _)


end Go.Proofs.YtgpmhmdofefdcaaGreat

namespace Go.Proofs.YtgpmhmdofefdcaaGreat
open Go.RowKit Go.Sort
set_option linter.unusedVariables false

set_option maxHeartbeats 2000000 in
theorem between_true_z_false_any (B : Nat) (w : World) (g : Nat) (c : Ct) (s : Sl) (r : Ct × Hp) (hr : r = interC c true) (h : StB B w g c s) (hsd : c.sender = false) (hn : c.n ≤ 1000000000) (hg : c.has = true → Good c.give) :
    Calls Tryz.prog 62 #[.pointer (some ⟨g, 0, none⟩), .bool true] w (Told B w g s r) := by
  have m0 := Mb.start h
  have hH : holdC c = false := by unfold holdC; rw [hsd]; simp
  have q14 := m0.st.q14
  rw [hsd] at q14
  have q7 := m0.st.q7
  have q1 := m0.st.q1
  have hO' : ∀ w1, StB B w1 g c s → Calls Tryz.prog 77 #[.pointer (some ⟨g, 0, none⟩), .int .i64 3, .int .u8 0] w1 fun e w' => e = .returned (.tuple #[]) ∧ ∃ s', Left B w1 w' g r.1 s s' := fun w1 k => oneMore_any B w1 g c s 3 0 r.1 (by rw [hr]; unfold interC; rw [if_pos rfl, hH]; rfl) k hn
  have HZ := hid (show r.2 = (0, zeroFr) by rw [hr]; rfl)
  clear hH hr hsd h hg
  go_enter Tryz.func62, Tryz.ntmps62
  go_wp2_with (first
    | (go_at_call 77; (with_reducible refine (hO' _ m0.st).mono ?_); rintro e w2 ⟨rfl, s2, l2⟩; have m2 := m0.left l2; obtain ⟨p0, p1, p2, p3, p4, p5⟩ := m2.hps; have fp := m2.hpf)
    | (go_at_call 80; (with_reducible refine (hV' _ m0.st).mono ?_); rintro e w4 ⟨s4, a4, n4, rfl, l4, o4, b4⟩; have m4 := m0.left l4; obtain ⟨p0, p1, p2, p3, p4, p5⟩ := m4.hps; have fp := m4.hpf)
    | (go_at_call 71; (with_reducible refine (hG' _ m0.st).mono ?_); rintro e w2 ⟨rfl, s2, l2⟩; have m2 := m0.left l2; obtain ⟨p0, p1, p2, p3, p4, p5⟩ := m2.hps; have fp := m2.hpf))
  exact bodyPost_ret (v := .agg (hapA (0, zeroFr) none 0)) (by simp [results, Tryz.results62, go_sem, p0, p1, p2, p3, p4, p5]; rfl) rfl (m2.six 0 rfl HZ.out _ _ _ _ _ _)

set_option maxHeartbeats 2000000 in
theorem between_true_z_true_false (B : Nat) (w : World) (g : Nat) (c : Ct) (s : Sl) (r : Ct × Hp) (hr : r = interC c true) (h : StB B w g c s) (hsd : c.sender = true) (hmo : moC c.cf ≠ 1) (hn : c.n ≤ 1000000000) (hg : c.has = true → Good c.give) :
    Calls Tryz.prog 62 #[.pointer (some ⟨g, 0, none⟩), .bool true] w (Told B w g s r) := by
  have m0 := Mb.start h
  have hH : holdC c = false := by unfold holdC; rw [hsd]; simp [hmo]
  have q14 := m0.st.q14
  rw [hsd] at q14
  have q7 := m0.st.q7
  have q1 := m0.st.q1
  have hM' := mode_st B _ g c s m0.st
  have hmq : ¬ (moC c.cf : Int) = 1 := by omega
  generalize moC c.cf = md at hM' hmq
  have hO' : ∀ w1, StB B w1 g c s → Calls Tryz.prog 77 #[.pointer (some ⟨g, 0, none⟩), .int .i64 3, .int .u8 0] w1 fun e w' => e = .returned (.tuple #[]) ∧ ∃ s', Left B w1 w' g r.1 s s' := fun w1 k => oneMore_any B w1 g c s 3 0 r.1 (by rw [hr]; unfold interC; rw [if_pos rfl, hH]; rfl) k hn
  have HZ := hid (show r.2 = (0, zeroFr) by rw [hr]; rfl)
  clear hH hr hsd h hg hmo
  go_enter Tryz.func62, Tryz.ntmps62
  go_wp2_with (first
    | (go_at_call 81; (with_reducible refine hM'.mono ?_); rintro e w1 ⟨rfl, g1⟩; have m1 := m0.call g1; clear q7 q1; have q7 := m1.st.q7; have q1 := m1.st.q1)
    | (go_at_call 77; (with_reducible refine (hO' _ m1.st).mono ?_); rintro e w2 ⟨rfl, s2, l2⟩; have m2 := m1.left l2; obtain ⟨p0, p1, p2, p3, p4, p5⟩ := m2.hps; have fp := m2.hpf)
    | (go_at_call 80; (with_reducible refine (hV' _ m1.st).mono ?_); rintro e w4 ⟨s4, a4, n4, rfl, l4, o4, b4⟩; have m4 := m1.left l4; obtain ⟨p0, p1, p2, p3, p4, p5⟩ := m4.hps; have fp := m4.hpf)
    | (go_at_call 71; (with_reducible refine (hG' _ m1.st).mono ?_); rintro e w2 ⟨rfl, s2, l2⟩; have m2 := m1.left l2; obtain ⟨p0, p1, p2, p3, p4, p5⟩ := m2.hps; have fp := m2.hpf))
  exact bodyPost_ret (v := .agg (hapA (0, zeroFr) none 0)) (by simp [results, Tryz.results62, go_sem, p0, p1, p2, p3, p4, p5]; rfl) rfl (m2.six 0 rfl HZ.out _ _ _ _ _ _)

set_option maxHeartbeats 2000000 in
theorem between_true_z_true_true (B : Nat) (w : World) (g : Nat) (c : Ct) (s : Sl) (r : Ct × Hp) (hr : r = interC c true) (h : StB B w g c s) (hsd : c.sender = true) (hmo : moC c.cf = 1) (hn : c.n ≤ 1000000000) (hg : c.has = true → Good c.give) :
    Calls Tryz.prog 62 #[.pointer (some ⟨g, 0, none⟩), .bool true] w (Told B w g s r) := by
  have m0 := Mb.start h
  have hH : holdC c = true := by unfold holdC; rw [hsd]; simp [hmo]
  have q14 := m0.st.q14
  rw [hsd] at q14
  have q7 := m0.st.q7
  have q1 := m0.st.q1
  have hM' := mode_st B _ g c s m0.st
  rw [hmo] at hM'
  have hO' : ∀ w1, StB B w1 g c s → Calls Tryz.prog 77 #[.pointer (some ⟨g, 0, none⟩), .int .i64 3, .int .u8 8] w1 fun e w' => e = .returned (.tuple #[]) ∧ ∃ s', Left B w1 w' g r.1 s s' := fun w1 k => oneMore_any B w1 g c s 3 8 r.1 (by rw [hr]; unfold interC; rw [if_pos rfl, hH]; rfl) k hn
  have HZ := hid (show r.2 = (0, zeroFr) by rw [hr]; rfl)
  clear hH hr hsd h hg hmo
  go_enter Tryz.func62, Tryz.ntmps62
  go_wp2_with (first
    | (go_at_call 81; (with_reducible refine hM'.mono ?_); rintro e w1 ⟨rfl, g1⟩; have m1 := m0.call g1; clear q7 q1; have q7 := m1.st.q7; have q1 := m1.st.q1)
    | (go_at_call 77; (with_reducible refine (hO' _ m1.st).mono ?_); rintro e w2 ⟨rfl, s2, l2⟩; have m2 := m1.left l2; obtain ⟨p0, p1, p2, p3, p4, p5⟩ := m2.hps; have fp := m2.hpf)
    | (go_at_call 80; (with_reducible refine (hV' _ m1.st).mono ?_); rintro e w4 ⟨s4, a4, n4, rfl, l4, o4, b4⟩; have m4 := m1.left l4; obtain ⟨p0, p1, p2, p3, p4, p5⟩ := m4.hps; have fp := m4.hpf)
    | (go_at_call 71; (with_reducible refine (hG' _ m1.st).mono ?_); rintro e w2 ⟨rfl, s2, l2⟩; have m2 := m1.left l2; obtain ⟨p0, p1, p2, p3, p4, p5⟩ := m2.hps; have fp := m2.hpf))
  exact bodyPost_ret (v := .agg (hapA (0, zeroFr) none 0)) (by simp [results, Tryz.results62, go_sem, p0, p1, p2, p3, p4, p5]; rfl) rfl (m2.six 0 rfl HZ.out _ _ _ _ _ _)

set_option maxHeartbeats 2000000 in
theorem between_false_l_false_any (B : Nat) (w : World) (g : Nat) (c : Ct) (s : Sl) (r : Ct × Hp) (hr : r = interC c false) (h : StB B w g c s) (hsd : c.sender = false) (hn2 : c.n < 2) (hn : c.n ≤ 1000000000) (hg : c.has = true → Good c.give) :
    Calls Tryz.prog 62 #[.pointer (some ⟨g, 0, none⟩), .bool false] w (Told B w g s r) := by
  have m0 := Mb.start h
  have hH : holdC c = false := by unfold holdC; rw [hsd]; simp
  have q14 := m0.st.q14
  rw [hsd] at q14
  have q7 := m0.st.q7
  have q1 := m0.st.q1
  have hV' : ∀ w1, StB B w1 g c s → Calls Tryz.prog 80 #[.pointer (some ⟨g, 0, none⟩)] w1 (Told B w1 g s r) := fun w1 k => by
    have : r = overC c := by rw [hr]; unfold interC; rw [if_neg (by decide), if_pos (by omega)]
    rw [this]; exact overload_st B w1 g c s k
  have i2 : (c.n : Int) < 2 := by omega
  clear hH hr hsd h hg hn2
  go_enter Tryz.func62, Tryz.ntmps62
  go_wp2_with (first
    | (go_at_call 77; (with_reducible refine (hO' _ m0.st).mono ?_); rintro e w2 ⟨rfl, s2, l2⟩; have m2 := m0.left l2; obtain ⟨p0, p1, p2, p3, p4, p5⟩ := m2.hps; have fp := m2.hpf)
    | (go_at_call 80; (with_reducible refine (hV' _ m0.st).mono ?_); rintro e w4 ⟨s4, a4, n4, rfl, l4, o4, b4⟩; have m4 := m0.left l4; obtain ⟨p0, p1, p2, p3, p4, p5⟩ := m4.hps; have fp := m4.hpf)
    | (go_at_call 71; (with_reducible refine (hG' _ m0.st).mono ?_); rintro e w2 ⟨rfl, s2, l2⟩; have m2 := m0.left l2; obtain ⟨p0, p1, p2, p3, p4, p5⟩ := m2.hps; have fp := m2.hpf))
  exact bodyPost_ret (v := .agg (hapA r.2 a4 n4)) (by simp [results, Tryz.results62, go_sem, p0, p1, p2, p3, p4, p5]; rfl) rfl (m0.told l4 o4 b4 _ _ _ _ _ _)

set_option maxHeartbeats 2000000 in
theorem between_false_l_true_false (B : Nat) (w : World) (g : Nat) (c : Ct) (s : Sl) (r : Ct × Hp) (hr : r = interC c false) (h : StB B w g c s) (hsd : c.sender = true) (hn2 : c.n < 2) (hmo : moC c.cf ≠ 1) (hn : c.n ≤ 1000000000) (hg : c.has = true → Good c.give) :
    Calls Tryz.prog 62 #[.pointer (some ⟨g, 0, none⟩), .bool false] w (Told B w g s r) := by
  have m0 := Mb.start h
  have hH : holdC c = false := by unfold holdC; rw [hsd]; simp [hmo]
  have q14 := m0.st.q14
  rw [hsd] at q14
  have q7 := m0.st.q7
  have q1 := m0.st.q1
  have hM' := mode_st B _ g c s m0.st
  have hmq : ¬ (moC c.cf : Int) = 1 := by omega
  generalize moC c.cf = md at hM' hmq
  have hV' : ∀ w1, StB B w1 g c s → Calls Tryz.prog 80 #[.pointer (some ⟨g, 0, none⟩)] w1 (Told B w1 g s r) := fun w1 k => by
    have : r = overC c := by rw [hr]; unfold interC; rw [if_neg (by decide), if_pos (by omega)]
    rw [this]; exact overload_st B w1 g c s k
  have i2 : (c.n : Int) < 2 := by omega
  clear hH hr hsd h hg hn2 hmo
  go_enter Tryz.func62, Tryz.ntmps62
  go_wp2_with (first
    | (go_at_call 81; (with_reducible refine hM'.mono ?_); rintro e w1 ⟨rfl, g1⟩; have m1 := m0.call g1; clear q7 q1; have q7 := m1.st.q7; have q1 := m1.st.q1)
    | (go_at_call 77; (with_reducible refine (hO' _ m1.st).mono ?_); rintro e w2 ⟨rfl, s2, l2⟩; have m2 := m1.left l2; obtain ⟨p0, p1, p2, p3, p4, p5⟩ := m2.hps; have fp := m2.hpf)
    | (go_at_call 80; (with_reducible refine (hV' _ m1.st).mono ?_); rintro e w4 ⟨s4, a4, n4, rfl, l4, o4, b4⟩; have m4 := m1.left l4; obtain ⟨p0, p1, p2, p3, p4, p5⟩ := m4.hps; have fp := m4.hpf)
    | (go_at_call 71; (with_reducible refine (hG' _ m1.st).mono ?_); rintro e w2 ⟨rfl, s2, l2⟩; have m2 := m1.left l2; obtain ⟨p0, p1, p2, p3, p4, p5⟩ := m2.hps; have fp := m2.hpf))
  exact bodyPost_ret (v := .agg (hapA r.2 a4 n4)) (by simp [results, Tryz.results62, go_sem, p0, p1, p2, p3, p4, p5]; rfl) rfl (m1.told l4 o4 b4 _ _ _ _ _ _)

set_option maxHeartbeats 2000000 in
theorem between_false_l_true_true (B : Nat) (w : World) (g : Nat) (c : Ct) (s : Sl) (r : Ct × Hp) (hr : r = interC c false) (h : StB B w g c s) (hsd : c.sender = true) (hn2 : c.n < 2) (hmo : moC c.cf = 1) (hn : c.n ≤ 1000000000) (hg : c.has = true → Good c.give) :
    Calls Tryz.prog 62 #[.pointer (some ⟨g, 0, none⟩), .bool false] w (Told B w g s r) := by
  have m0 := Mb.start h
  have hH : holdC c = true := by unfold holdC; rw [hsd]; simp [hmo]
  have q14 := m0.st.q14
  rw [hsd] at q14
  have q7 := m0.st.q7
  have q1 := m0.st.q1
  have hM' := mode_st B _ g c s m0.st
  rw [hmo] at hM'
  have hV' : ∀ w1, StB B w1 g c s → Calls Tryz.prog 80 #[.pointer (some ⟨g, 0, none⟩)] w1 (Told B w1 g s r) := fun w1 k => by
    have : r = overC c := by rw [hr]; unfold interC; rw [if_neg (by decide), if_pos (by omega)]
    rw [this]; exact overload_st B w1 g c s k
  have i2 : (c.n : Int) < 2 := by omega
  clear hH hr hsd h hg hn2 hmo
  go_enter Tryz.func62, Tryz.ntmps62
  go_wp2_with (first
    | (go_at_call 81; (with_reducible refine hM'.mono ?_); rintro e w1 ⟨rfl, g1⟩; have m1 := m0.call g1; clear q7 q1; have q7 := m1.st.q7; have q1 := m1.st.q1)
    | (go_at_call 77; (with_reducible refine (hO' _ m1.st).mono ?_); rintro e w2 ⟨rfl, s2, l2⟩; have m2 := m1.left l2; obtain ⟨p0, p1, p2, p3, p4, p5⟩ := m2.hps; have fp := m2.hpf)
    | (go_at_call 80; (with_reducible refine (hV' _ m1.st).mono ?_); rintro e w4 ⟨s4, a4, n4, rfl, l4, o4, b4⟩; have m4 := m1.left l4; obtain ⟨p0, p1, p2, p3, p4, p5⟩ := m4.hps; have fp := m4.hpf)
    | (go_at_call 71; (with_reducible refine (hG' _ m1.st).mono ?_); rintro e w2 ⟨rfl, s2, l2⟩; have m2 := m1.left l2; obtain ⟨p0, p1, p2, p3, p4, p5⟩ := m2.hps; have fp := m2.hpf))
  exact bodyPost_ret (v := .agg (hapA r.2 a4 n4)) (by simp [results, Tryz.results62, go_sem, p0, p1, p2, p3, p4, p5]; rfl) rfl (m1.told l4 o4 b4 _ _ _ _ _ _)

set_option maxHeartbeats 2000000 in
theorem between_false_g_false_any (B : Nat) (w : World) (g : Nat) (c : Ct) (s : Sl) (r : Ct × Hp) (hr : r = interC c false) (h : StB B w g c s) (hsd : c.sender = false) (hn2 : ¬ c.n < 2) (hn : c.n ≤ 1000000000) (hg : c.has = true → Good c.give) :
    Calls Tryz.prog 62 #[.pointer (some ⟨g, 0, none⟩), .bool false] w (Told B w g s r) := by
  have m0 := Mb.start h
  have hH : holdC c = false := by unfold holdC; rw [hsd]; simp
  have q14 := m0.st.q14
  rw [hsd] at q14
  have q7 := m0.st.q7
  have q1 := m0.st.q1
  have hr1 : r = (begC c c.has, noH) := by rw [hr]; unfold interC; rw [if_neg (by decide), if_neg (by omega), hH]; simp
  have hG' : ∀ w1, StB B w1 g c s → Calls Tryz.prog 71 #[.pointer (some ⟨g, 0, none⟩), .bool c.has] w1 fun e w' => e = .returned (.tuple #[]) ∧ ∃ s', Left B w1 w' g r.1 s s' := fun w1 k => by
    rw [hr1]; exact begin_any B w1 g c s _ k hg
  have HZ := hid (show r.2 = (0, zeroFr) by rw [hr1]; rfl)
  have i2 : ¬ (c.n : Int) < 2 := by omega
  cases hh : c.has
  all_goals
    rw [hh] at q7 hG'
    have HH := hid hh
    clear hH hr hsd h hg hr1 hn2 hh
    go_enter Tryz.func62, Tryz.ntmps62
    go_wp2_with (first
      | (go_at_call 77; (with_reducible refine (hO' _ m0.st).mono ?_); rintro e w2 ⟨rfl, s2, l2⟩; have m2 := m0.left l2; obtain ⟨p0, p1, p2, p3, p4, p5⟩ := m2.hps; have fp := m2.hpf)
      | (go_at_call 80; (with_reducible refine (hV' _ m0.st).mono ?_); rintro e w4 ⟨s4, a4, n4, rfl, l4, o4, b4⟩; have m4 := m0.left l4; obtain ⟨p0, p1, p2, p3, p4, p5⟩ := m4.hps; have fp := m4.hpf)
      | (go_at_call 71; (with_reducible refine (hG' _ m0.st).mono ?_); rintro e w2 ⟨rfl, s2, l2⟩; have m2 := m0.left l2; obtain ⟨p0, p1, p2, p3, p4, p5⟩ := m2.hps; have fp := m2.hpf))
    exact bodyPost_ret (v := .agg (hapA (0, zeroFr) none 0)) (by simp [results, Tryz.results62, go_sem, p0, p1, p2, p3, p4, p5]; rfl) rfl (m2.six 0 rfl HZ.out _ _ _ _ _ _)

set_option maxHeartbeats 2000000 in
theorem between_false_g_true_false (B : Nat) (w : World) (g : Nat) (c : Ct) (s : Sl) (r : Ct × Hp) (hr : r = interC c false) (h : StB B w g c s) (hsd : c.sender = true) (hn2 : ¬ c.n < 2) (hmo : moC c.cf ≠ 1) (hn : c.n ≤ 1000000000) (hg : c.has = true → Good c.give) :
    Calls Tryz.prog 62 #[.pointer (some ⟨g, 0, none⟩), .bool false] w (Told B w g s r) := by
  have m0 := Mb.start h
  have hH : holdC c = false := by unfold holdC; rw [hsd]; simp [hmo]
  have q14 := m0.st.q14
  rw [hsd] at q14
  have q7 := m0.st.q7
  have q1 := m0.st.q1
  have hM' := mode_st B _ g c s m0.st
  have hmq : ¬ (moC c.cf : Int) = 1 := by omega
  generalize moC c.cf = md at hM' hmq
  have hr1 : r = (begC c c.has, noH) := by rw [hr]; unfold interC; rw [if_neg (by decide), if_neg (by omega), hH]; simp
  have hG' : ∀ w1, StB B w1 g c s → Calls Tryz.prog 71 #[.pointer (some ⟨g, 0, none⟩), .bool c.has] w1 fun e w' => e = .returned (.tuple #[]) ∧ ∃ s', Left B w1 w' g r.1 s s' := fun w1 k => by
    rw [hr1]; exact begin_any B w1 g c s _ k hg
  have HZ := hid (show r.2 = (0, zeroFr) by rw [hr1]; rfl)
  have i2 : ¬ (c.n : Int) < 2 := by omega
  cases hh : c.has
  all_goals
    rw [hh] at q7 hG'
    have HH := hid hh
    clear hH hr hsd h hg hr1 hn2 hmo hh
    go_enter Tryz.func62, Tryz.ntmps62
    go_wp2_with (first
      | (go_at_call 81; (with_reducible refine hM'.mono ?_); rintro e w1 ⟨rfl, g1⟩; have m1 := m0.call g1; clear q7 q1; have q7 := (by have k := m1.st.q7; rw [HH.out] at k; exact k); have q1 := m1.st.q1)
      | (go_at_call 77; (with_reducible refine (hO' _ m1.st).mono ?_); rintro e w2 ⟨rfl, s2, l2⟩; have m2 := m1.left l2; obtain ⟨p0, p1, p2, p3, p4, p5⟩ := m2.hps; have fp := m2.hpf)
      | (go_at_call 80; (with_reducible refine (hV' _ m1.st).mono ?_); rintro e w4 ⟨s4, a4, n4, rfl, l4, o4, b4⟩; have m4 := m1.left l4; obtain ⟨p0, p1, p2, p3, p4, p5⟩ := m4.hps; have fp := m4.hpf)
      | (go_at_call 71; (with_reducible refine (hG' _ m1.st).mono ?_); rintro e w2 ⟨rfl, s2, l2⟩; have m2 := m1.left l2; obtain ⟨p0, p1, p2, p3, p4, p5⟩ := m2.hps; have fp := m2.hpf))
    exact bodyPost_ret (v := .agg (hapA (0, zeroFr) none 0)) (by simp [results, Tryz.results62, go_sem, p0, p1, p2, p3, p4, p5]; rfl) rfl (m2.six 0 rfl HZ.out _ _ _ _ _ _)

set_option maxHeartbeats 2000000 in
theorem between_false_g_true_true (B : Nat) (w : World) (g : Nat) (c : Ct) (s : Sl) (r : Ct × Hp) (hr : r = interC c false) (h : StB B w g c s) (hsd : c.sender = true) (hn2 : ¬ c.n < 2) (hmo : moC c.cf = 1) (hn : c.n ≤ 1000000000) (hg : c.has = true → Good c.give) :
    Calls Tryz.prog 62 #[.pointer (some ⟨g, 0, none⟩), .bool false] w (Told B w g s r) := by
  have m0 := Mb.start h
  have hH : holdC c = true := by unfold holdC; rw [hsd]; simp [hmo]
  have q14 := m0.st.q14
  rw [hsd] at q14
  have q7 := m0.st.q7
  have q1 := m0.st.q1
  have hM' := mode_st B _ g c s m0.st
  rw [hmo] at hM'
  have hr1 : r = (begC c false, noH) := by rw [hr]; unfold interC; rw [if_neg (by decide), if_neg (by omega), hH]; simp
  have hG' : ∀ w1, StB B w1 g c s → Calls Tryz.prog 71 #[.pointer (some ⟨g, 0, none⟩), .bool false] w1 fun e w' => e = .returned (.tuple #[]) ∧ ∃ s', Left B w1 w' g r.1 s s' := fun w1 k => by
    rw [hr1]; exact begin_any B w1 g c s _ k (fun e => by cases e)
  have HZ := hid (show r.2 = (0, zeroFr) by rw [hr1]; rfl)
  have i2 : ¬ (c.n : Int) < 2 := by omega
  clear hH hr hsd h hg hr1 hn2 hmo
  go_enter Tryz.func62, Tryz.ntmps62
  go_wp2_with (first
    | (go_at_call 81; (with_reducible refine hM'.mono ?_); rintro e w1 ⟨rfl, g1⟩; have m1 := m0.call g1; clear q7 q1; have q7 := m1.st.q7; have q1 := m1.st.q1)
    | (go_at_call 77; (with_reducible refine (hO' _ m1.st).mono ?_); rintro e w2 ⟨rfl, s2, l2⟩; have m2 := m1.left l2; obtain ⟨p0, p1, p2, p3, p4, p5⟩ := m2.hps; have fp := m2.hpf)
    | (go_at_call 80; (with_reducible refine (hV' _ m1.st).mono ?_); rintro e w4 ⟨s4, a4, n4, rfl, l4, o4, b4⟩; have m4 := m1.left l4; obtain ⟨p0, p1, p2, p3, p4, p5⟩ := m4.hps; have fp := m4.hpf)
    | (go_at_call 71; (with_reducible refine (hG' _ m1.st).mono ?_); rintro e w2 ⟨rfl, s2, l2⟩; have m2 := m1.left l2; obtain ⟨p0, p1, p2, p3, p4, p5⟩ := m2.hps; have fp := m2.hpf))
  all_goals exact bodyPost_ret (v := .agg (hapA (0, zeroFr) none 0)) (by simp [results, Tryz.results62, go_sem, p0, p1, p2, p3, p4, p5]; rfl) rfl (m2.six 0 rfl HZ.out _ _ _ _ _ _)

/-- PhaseInter. -/
theorem between_st (B : Nat) (w : World) (g : Nat) (c : Ct) (s : Sl) (x : Bool) (r : Ct × Hp) (hr : r = interC c x) (h : StB B w g c s) (hn : c.n ≤ 1000000000) (hg : c.has = true → Good c.give) :
    Calls Tryz.prog 62 #[.pointer (some ⟨g, 0, none⟩), .bool x] w (Told B w g s r) := by
  cases x
  · by_cases hn2 : c.n < 2
    · cases hs : c.sender
      · exact between_false_l_false_any B w g c s r hr h hs hn2 hn hg
      · by_cases hmo : moC c.cf = 1
        · exact between_false_l_true_true B w g c s r hr h hs hn2 hmo hn hg
        · exact between_false_l_true_false B w g c s r hr h hs hn2 hmo hn hg
    · cases hs : c.sender
      · exact between_false_g_false_any B w g c s r hr h hs hn2 hn hg
      · by_cases hmo : moC c.cf = 1
        · exact between_false_g_true_true B w g c s r hr h hs hn2 hmo hn hg
        · exact between_false_g_true_false B w g c s r hr h hs hn2 hmo hn hg
  · cases hs : c.sender
    · exact between_true_z_false_any B w g c s r hr h hs hn hg
    · by_cases hmo : moC c.cf = 1
      · exact between_true_z_true_true B w g c s r hr h hs hmo hn hg
      · exact between_true_z_true_false B w g c s r hr h hs hmo hn hg
end Go.Proofs.YtgpmhmdofefdcaaGreat
