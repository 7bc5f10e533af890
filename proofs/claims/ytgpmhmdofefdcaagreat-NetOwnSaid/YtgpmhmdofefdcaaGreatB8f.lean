/-
  Contracts of a state's methods: what is done with a bit in each phase, but in a frame.
  Contracts of a state's methods: a flag, a weak flag.
-/
import Derived.Test.YtgpmhmdofefdcaaGreatB8d
namespace Go.Proofs.YtgpmhmdofefdcaaGreat
open Go.RowKit Go.Sort
set_option linter.unusedVariables false

theorem begin_any (B : Nat) (w : World) (g : Nat) (c : Ct) (s : Sl) (q : Bool) (h : StB B w g c s) (hg : q = true → Good c.give) :
    Calls Tryz.prog 71 #[.pointer (some ⟨g, 0, none⟩), .bool q] w fun e w' => e = .returned (.tuple #[]) ∧ ∃ s', Left B w w' g (begC c q) s s' := by
  cases q
  · exact begin_not B w g c s h
  · exact begin_snd B w g c s h (hg rfl)

theorem mo_right {c : Cf} (h : moC c ≤ 1) : riC c = true ∧ c.o = false := by
  unfold moC at h
  by_cases hc : (c.o || !riC c) = true
  · rw [if_pos hc] at h; omega
  · simp at hc; exact ⟨hc.2, hc.1⟩

theorem mo_first {c : Cf} (h : moC c ≤ 1) : moC (evC c 2) ≠ 2 := by
  obtain ⟨h1, h2⟩ := mo_right h
  obtain ⟨t, r, o, n, m⟩ := c
  dsimp only at h2
  subst h2
  intro e
  have := (mo_of_right (ri_ev h1 2)).1 e
  rw [ev_goes h1 (by omega)] at this
  simp at this

set_option maxHeartbeats 2000000 in
/-- PhaseIdle. -/
theorem idle_st (B : Nat) (w : World) (g : Nat) (c : Ct) (s : Sl) (x : Bool) (r : Ct × Hp) (hr : r = idleC c x) (h : StB B w g c s) (hmo : moC c.cf ≤ 1) (hg : c.has = true → Good c.give) :
    Calls Tryz.prog 56 #[.pointer (some ⟨g, 0, none⟩), .bool x] w (Told B w g s r) := by
  have m0 := Mb.start h
  have q7 := m0.st.q7
  have q14 := m0.st.q14
  have f := m0.st.fz
  cases x
  · have h1 : r.1 = begC c c.has := by rw [hr]; rfl
    have h2 : r.2 = (0, zeroFr) := by rw [hr]; rfl
    have hB := fun (w1 : World) (k : StB B w1 g c s) => begin_any B w1 g c s c.has k hg
    have H1 := hid h1; have H2 := hid h2
    clear hr h1 h2 h hg hmo
    go_enter Tryz.func56, Tryz.ntmps56
    go_wp2_with (go_at_call 71; (with_reducible refine (hB _ m0.st).mono ?_); rintro e w1 ⟨rfl, s1, l1⟩; have m1 := m0.left l1; obtain ⟨p0, p1, p2, p3, p4, p5⟩ := m1.hps; have fp := m1.hpf)
    exact bodyPost_ret (v := .agg (hapA (0, zeroFr) none 0)) (by simp [results, Tryz.results56, go_sem, p0, p1, p2, p3, p4, p5]; rfl) rfl (m1.six 0 H1.out H2.out _ _ _ _ _ _)
  · cases hh : c.has
    · have h1 : r.1 = c := by rw [hr]; simp [idleC, hh]
      have h2 : r.2 = (0, zeroFr) := by rw [hr]; simp [idleC, hh, noH]
      have H1 := hid h1; have H2 := hid h2
      rw [hh] at q7
      clear hr h1 h2 h hg hmo hh
      obtain ⟨p0, p1, p2, p3, p4, p5⟩ := m0.hps; have fp := m0.hpf
      go_enter Tryz.func56, Tryz.ntmps56
      go_wp2
      exact bodyPost_ret (v := .agg (hapA (0, zeroFr) none 0)) (by simp [results, Tryz.results56, go_sem, p0, p1, p2, p3, p4, p5]; rfl) rfl (m0.now 0 H1.out H2.out)
    · have hF := fun (w1 : World) (k : StB B w1 g { c with sender := true } s) => fail_st B w1 g { c with sender := true } s 4 r (by rw [hr]; simp [idleC, hh]) k hmo
      have m1 := m0.put 14 (.bool true) { c with sender := true } rfl rfl rfl rfl
      rw [hh] at q7
      clear hr h hg hmo hh
      go_enter Tryz.func56, Tryz.ntmps56
      go_wp2_with (go_at_call 72; (refine (hF _ m1.st).mono ?_); rintro e w4 ⟨s4, a4, n4, rfl, l4, o4, b4⟩; have m4 := m1.left l4; obtain ⟨p0, p1, p2, p3, p4, p5⟩ := m4.hps; have fp := m4.hpf)
      exact bodyPost_ret (v := .agg (hapA r.2 a4 n4)) (by simp [results, Tryz.results56, go_sem, p0, p1, p2, p3, p4, p5]; rfl) rfl (m1.told l4 o4 b4 _ _ _ _ _ _)

set_option maxHeartbeats 2000000 in
/-- PhaseDelim. -/
theorem delimit_st (B : Nat) (w : World) (g : Nat) (c : Ct) (s : Sl) (x : Bool) (r : Ct × Hp) (hr : r = delimC c x) (h : StB B w g c s) (hmo : moC c.cf ≤ 1) (hn : c.n < 8) :
    Calls Tryz.prog 61 #[.pointer (some ⟨g, 0, none⟩), .bool x] w (Told B w g s r) := by
  have m0 := Mb.start h
  cases x
  · by_cases h8 : c.n + 1 < 8
    · have hF := fun (w1 : World) (k : StB B w1 g c s) => fail_st B w1 g c s 6 r (by rw [hr]; simp [delimC, h8]) k hmo
      have q1 := m0.st.q1
      have hq : ¬ (c.n : Int) = 7 := by omega
      clear hr h hmo h8 hn
      go_enter Tryz.func61, Tryz.ntmps61
      go_wp2_with (go_at_call 72; (refine (hF _ m0.st).mono ?_); rintro e w4 ⟨s4, a4, n4, rfl, l4, o4, b4⟩; have m4 := m0.left l4; obtain ⟨p0, p1, p2, p3, p4, p5⟩ := m4.hps; have fp := m4.hpf)
      exact bodyPost_ret (v := .agg (hapA r.2 a4 n4)) (by simp [results, Tryz.results61, go_sem, p0, p1, p2, p3, p4, p5]; rfl) rfl (m0.told l4 o4 b4 _ _ _ _ _ _)
    · have hF := fun (w1 : World) (k : StB B w1 g c s) => (show overC c = r by rw [hr]; simp [delimC, h8]) ▸ overload_st B w1 g c s k
      have q1 := m0.st.q1
      rw [show (c.n : Int) = 7 by omega] at q1
      clear hr h hmo h8 hn
      go_enter Tryz.func61, Tryz.ntmps61
      go_wp2_with (go_at_call 80; (with_reducible refine (hF _ m0.st).mono ?_); rintro e w4 ⟨s4, a4, n4, rfl, l4, o4, b4⟩; have m4 := m0.left l4; obtain ⟨p0, p1, p2, p3, p4, p5⟩ := m4.hps; have fp := m4.hpf)
      exact bodyPost_ret (v := .agg (hapA r.2 a4 n4)) (by simp [results, Tryz.results61, go_sem, p0, p1, p2, p3, p4, p5]; rfl) rfl (m0.told l4 o4 b4 _ _ _ _ _ _)
  · by_cases h8 : c.n + 1 = 8
    · have hO : ∀ w1, StB B w1 g c s → Calls Tryz.prog 77 #[.pointer (some ⟨g, 0, none⟩), .int .i64 8, .int .u8 7] w1 fun e w' => e = .returned (.tuple #[]) ∧ Left B w1 w' g (newC c 7) s s.new := fun w1 k => oneMore_end B w1 g c s 8 7 k (by omega) (by omega)
      have H1 := hid (show r.1 = newC c 7 by rw [hr]; simp [delimC, h8])
      have H2 := hid (show r.2 = (0, zeroFr) by rw [hr]; rfl)
      clear hr h hmo h8 hn
      go_enter Tryz.func61, Tryz.ntmps61
      go_wp2_with (go_at_call 77; (with_reducible refine (hO _ m0.st).mono ?_); rintro e w1 ⟨rfl, l1⟩; have m1 := m0.left l1; obtain ⟨p0, p1, p2, p3, p4, p5⟩ := m1.hps; have fp := m1.hpf)
      exact bodyPost_ret (v := .agg (hapA (0, zeroFr) none 0)) (by simp [results, Tryz.results61, go_sem, p0, p1, p2, p3, p4, p5]; rfl) rfl (m1.six 0 H1.out H2.out _ _ _ _ _ _)
    · have hO : ∀ w1, StB B w1 g c s → Calls Tryz.prog 77 #[.pointer (some ⟨g, 0, none⟩), .int .i64 8, .int .u8 7] w1 fun e w' => e = .returned (.tuple #[]) ∧ Left B w1 w' g { c with n := c.n + 1 } s s := fun w1 k => oneMore_on B w1 g c s 8 7 k (by omega) (by omega)
      have H1 := hid (show r.1 = { c with n := c.n + 1 } by rw [hr]; simp [delimC, h8])
      have H2 := hid (show r.2 = (0, zeroFr) by rw [hr]; rfl)
      clear hr h hmo h8 hn
      go_enter Tryz.func61, Tryz.ntmps61
      go_wp2_with (go_at_call 77; (with_reducible refine (hO _ m0.st).mono ?_); rintro e w1 ⟨rfl, l1⟩; have m1 := m0.left l1; obtain ⟨p0, p1, p2, p3, p4, p5⟩ := m1.hps; have fp := m1.hpf)
      exact bodyPost_ret (v := .agg (hapA (0, zeroFr) none 0)) (by simp [results, Tryz.results61, go_sem, p0, p1, p2, p3, p4, p5]; rfl) rfl (m1.six 0 H1.out H2.out _ _ _ _ _ _)

set_option maxHeartbeats 2000000 in
/-- PhaseHold. -/
theorem hold_st (B : Nat) (w : World) (g : Nat) (c : Ct) (s : Sl) (x : Bool) (r : Ct × Hp) (hr : r = hold8C c x) (h : StB B w g c s) (hn : c.n ≤ 1000000000) :
    Calls Tryz.prog 63 #[.pointer (some ⟨g, 0, none⟩), .bool x] w (Told B w g s r) := by
  have m0 := Mb.start h
  cases x
  · have hF := fun (w1 : World) (k : StB B w1 g c s) => begin_not B w1 g c s k
    have H1 := hid (show r.1 = begC c false by rw [hr]; rfl)
    have H2 := hid (show r.2 = (0, zeroFr) by rw [hr]; rfl)
    clear hr h hn
    go_enter Tryz.func63, Tryz.ntmps63
    go_wp2_with (go_at_call 71; (with_reducible refine (hF _ m0.st).mono ?_); rintro e w1 ⟨rfl, s1, l1⟩; have m1 := m0.left l1; obtain ⟨p0, p1, p2, p3, p4, p5⟩ := m1.hps; have fp := m1.hpf)
    exact bodyPost_ret (v := .agg (hapA (0, zeroFr) none 0)) (by simp [results, Tryz.results63, go_sem, p0, p1, p2, p3, p4, p5]; rfl) rfl (m1.six 0 H1.out H2.out _ _ _ _ _ _)
  · by_cases h8 : c.n + 1 = 8
    · have hO : ∀ w1, StB B w1 g c s → Calls Tryz.prog 77 #[.pointer (some ⟨g, 0, none⟩), .int .i64 8, .int .u8 0] w1 fun e w' => e = .returned (.tuple #[]) ∧ Left B w1 w' g (newC c 0) s s.new := fun w1 k => oneMore_end B w1 g c s 8 0 k (by omega) (by omega)
      have H1 := hid (show r.1 = newC c 0 by rw [hr]; simp [hold8C, h8])
      have H2 := hid (show r.2 = (0, zeroFr) by rw [hr]; rfl)
      clear hr h h8 hn
      go_enter Tryz.func63, Tryz.ntmps63
      go_wp2_with (go_at_call 77; (with_reducible refine (hO _ m0.st).mono ?_); rintro e w1 ⟨rfl, l1⟩; have m1 := m0.left l1; obtain ⟨p0, p1, p2, p3, p4, p5⟩ := m1.hps; have fp := m1.hpf)
      exact bodyPost_ret (v := .agg (hapA (0, zeroFr) none 0)) (by simp [results, Tryz.results63, go_sem, p0, p1, p2, p3, p4, p5]; rfl) rfl (m1.six 0 H1.out H2.out _ _ _ _ _ _)
    · have hO : ∀ w1, StB B w1 g c s → Calls Tryz.prog 77 #[.pointer (some ⟨g, 0, none⟩), .int .i64 8, .int .u8 0] w1 fun e w' => e = .returned (.tuple #[]) ∧ Left B w1 w' g { c with n := c.n + 1 } s s := fun w1 k => oneMore_on B w1 g c s 8 0 k (by omega) (by omega)
      have H1 := hid (show r.1 = { c with n := c.n + 1 } by rw [hr]; simp [hold8C, h8])
      have H2 := hid (show r.2 = (0, zeroFr) by rw [hr]; rfl)
      clear hr h h8 hn
      go_enter Tryz.func63, Tryz.ntmps63
      go_wp2_with (go_at_call 77; (with_reducible refine (hO _ m0.st).mono ?_); rintro e w1 ⟨rfl, l1⟩; have m1 := m0.left l1; obtain ⟨p0, p1, p2, p3, p4, p5⟩ := m1.hps; have fp := m1.hpf)
      exact bodyPost_ret (v := .agg (hapA (0, zeroFr) none 0)) (by simp [results, Tryz.results63, go_sem, p0, p1, p2, p3, p4, p5]; rfl) rfl (m1.six 0 H1.out H2.out _ _ _ _ _ _)

set_option maxHeartbeats 2000000 in
/-- PhaseOff. -/
theorem away_st (B : Nat) (w : World) (g : Nat) (c : Ct) (s : Sl) (x : Bool) (r : Ct × Hp) (hr : r = offsC c x) (h : StB B w g c s) :
    Calls Tryz.prog 64 #[.pointer (some ⟨g, 0, none⟩), .bool x] w (Told B w g s r) := by
  have m0 := Mb.start h
  have q2 := m0.st.q2
  have q3 := m0.st.q3
  have q4 := m0.st.q4
  have q5 := m0.st.q5
  have q6 := m0.st.q6
  have hM := fun (w1 : World) (h1 : StB B w1 g { c with cf := biC c.cf x } s) => mode_st B w1 g _ s h1
  dsimp only at hM
  by_cases hm : moC (biC c.cf x) = 2
  · rw [hm] at hM
    have H1 := hid (show r.1 = { c with cf := biC c.cf x } by rw [hr]; simp [offsC, hm])
    have H2 := hid (show r.2 = (0, zeroFr) by rw [hr]; simp [offsC, hm, noH])
    clear hr h hm
    go_enter Tryz.func64, Tryz.ntmps64
    go_wp2_with (first
      | (go_at_call 82; (with_reducible refine (bit_cf _ _ _).mono ?_); rintro e w1 ⟨rfl, g1⟩; have m1 := m0.call g1; have m2 := m1.putCf (biC c.cf x); clear q2 q3 q4 q5 q6; have q2 := m1.st.q2; have q3 := m1.st.q3; have q4 := m1.st.q4; have q5 := m1.st.q5; have q6 := m1.st.q6; have f := m1.st.fz)
      | (go_at_call 81; (refine (hM _ m2.st).mono ?_); rintro e w3 ⟨rfl, g3⟩; have m3 := m2.call g3; obtain ⟨p0, p1, p2, p3, p4, p5⟩ := m3.hps; have fp := m3.hpf))
    exact bodyPost_ret (v := .agg (hapA (0, zeroFr) none 0)) (by simp [results, Tryz.results64, go_sem, p0, p1, p2, p3, p4, p5]; rfl) rfl (m3.six 0 H1.out H2.out _ _ _ _ _ _)
  · have hE := fun (w1 : World) (h1 : StB B w1 g { c with cf := biC c.cf x } s) => enter_any B w1 g _ s 0 h1
    have hq : ¬ (moC (biC c.cf x) : Int) = 2 := by omega
    have H1 := hid (show r.1 = newC { c with cf := biC c.cf x } 0 by rw [hr]; simp [offsC, hm])
    have H2 := hid (show r.2 = (11, zeroFr) by rw [hr]; simp [offsC, hm])
    generalize moC (biC c.cf x) = mo at hM hq
    clear hr h hm
    go_enter Tryz.func64, Tryz.ntmps64
    go_wp2_with (first
      | (go_at_call 82; (with_reducible refine (bit_cf _ _ _).mono ?_); rintro e w1 ⟨rfl, g1⟩; have m1 := m0.call g1; have m2 := m1.putCf (biC c.cf x); clear q2 q3 q4 q5 q6; have q2 := m1.st.q2; have q3 := m1.st.q3; have q4 := m1.st.q4; have q5 := m1.st.q5; have q6 := m1.st.q6; have f := m1.st.fz)
      | (go_at_call 81; (refine (hM _ m2.st).mono ?_); rintro e w3 ⟨rfl, g3⟩; have m3 := m2.call g3)
      | (go_at_call 78; (refine (hE _ m3.st).mono ?_); rintro e w4 ⟨rfl, l4⟩; have m4 := m3.left l4; obtain ⟨p0, p1, p2, p3, p4, p5⟩ := m4.hps; have fp := m4.hpf))
    exact bodyPost_ret (v := .agg (hapA (11, zeroFr) none 0)) (by simp [results, Tryz.results64, go_sem, p0, p1, p2, p3, p4, p5]; rfl) rfl (m4.six 11 H1.out H2.out _ _ _ _ _ _)
end Go.Proofs.YtgpmhmdofefdcaaGreat

namespace Go.Proofs.YtgpmhmdofefdcaaGreat
open Go.RowKit Go.Sort
set_option linter.unusedVariables false

/-- A method's body with a second box of what happens. -/
structure Mb2 (B : Nat) (w wr : World) (g : Nat) (c : Ct) (s s1 : Sl) : Prop where
  mb : Mb B w wr g c s s1
  hx : wr.heap[w.heap.size + 1]? = some (.cells hap0 63 (0, 0))
  nx : NBs s1 (w.heap.size + 1)

section
variable {B g : Nat} {w wr w2 : World} {c c' : Ct} {s s1 s2 : Sl}

theorem Mb2.start (h : StB B w g c s) : Mb2 B w ((w.alloc (.cells hap0 63)).alloc (.cells hap0 63)) g c s s :=
  ⟨(Mb.start h).alloc _, by have := heap_alloc_new (w.alloc (.cells hap0 63)) (.cells hap0 63); rwa [heap_size_alloc] at this, h.nbs (by omega)⟩
theorem Mb2.lt (h : Mb2 B w wr g c s s1) : w.heap.size + 1 < wr.heap.size := bx_lt h.hx
theorem Mb2.left (h : Mb2 B w wr g c s s1) (l : Left B wr w2 g c' s1 s2) : Mb2 B w w2 g c' s s2 :=
  ⟨h.mb.left l, by rw [l.wr.block _ h.lt (by have := h.mb.lt; omega)]; exact h.hx, l.ns _ h.lt h.nx⟩
theorem Mb2.call (h : Mb2 B w wr g c s s1) (k : Below wr.heap.size wr w2) : Mb2 B w w2 g c s s1 := ⟨h.mb.call k, bx_below h.hx k, h.nx⟩
theorem Mb2.hxs (h : Mb2 B w wr g c s s1) : wr.cell? ⟨w.heap.size + 1, 0, none⟩ = some (.int .u8 0) ∧ wr.cell? ⟨w.heap.size + 1, 1, none⟩ = some (.int .u32 0) ∧ wr.cell? ⟨w.heap.size + 1, 2, none⟩ = some (.bool false) ∧ wr.cell? ⟨w.heap.size + 1, 3, none⟩ = some (.bool false) ∧ wr.cell? ⟨w.heap.size + 1, 4, none⟩ = some (.int .u8 0) ∧ wr.cell? ⟨w.heap.size + 1, 5, none⟩ = some (.slice none 0 0) :=
  ⟨by rw [cell_of_row _ _ 0 _ _ _ h.hx]; rfl, by rw [cell_of_row _ _ 1 _ _ _ h.hx]; rfl, by rw [cell_of_row _ _ 2 _ _ _ h.hx]; rfl, by rw [cell_of_row _ _ 3 _ _ _ h.hx]; rfl, by rw [cell_of_row _ _ 4 _ _ _ h.hx]; rfl, by rw [cell_of_row _ _ 5 _ _ _ h.hx]; rfl⟩
theorem Mb.other (m : Mb B w wr g c s s1) {q : Nat} (hq : w.heap.size < q) (hn : NBs s1 q) (i : Nat) (v : Value) : Mb B w (wr.setCell ⟨q, i, none⟩ v) g c s s1 :=
  ⟨m.st.other (by have := m.lt; omega) hn i v, m.lt, by rw [Below.heap_setCell _ _ _ _ (by show w.heap.size ≠ q; omega)]; exact m.hp, m.wr.setCell (.inr (by show w.heap.size ≤ q; omega)) v, m.nh, m.ns⟩
end

theorem oneMore_any (B : Nat) (w : World) (g : Nat) (c : Ct) (s : Sl) (M ph : Nat) (c' : Ct) (hc : c' = if c.n + 1 = M then newC c ph else { c with n := c.n + 1 }) (h : StB B w g c s) (hn : c.n ≤ 1000000000) :
    Calls Tryz.prog 77 #[.pointer (some ⟨g, 0, none⟩), .int .i64 (M : Int), .int .u8 (ph : Int)] w fun e w' => e = .returned (.tuple #[]) ∧ ∃ s', Left B w w' g c' s s' := by
  by_cases hm : c.n + 1 = M
  · rw [hc, if_pos hm]
    exact (oneMore_end B w g c s M ph h hn (by omega)).mono fun e w' ⟨a, b⟩ => ⟨a, _, b⟩
  · rw [hc, if_neg hm]
    exact (oneMore_on B w g c s M ph h hn (by omega)).mono fun e w' ⟨a, b⟩ => ⟨a, _, b⟩

set_option maxHeartbeats 2000000 in
/-- PhaseFlag, PhaseOver. -/
theorem inFlag_st (B : Nat) (w : World) (g : Nat) (c : Ct) (s : Sl) (x : Bool) (r : Ct × Hp) (hr : r = sixC c x) (h : StB B w g c s) (hmo : moC c.cf ≤ 1) (hn : c.n ≤ 1000000000) :
    Calls Tryz.prog 58 #[.pointer (some ⟨g, 0, none⟩), .bool x] w (Told B w g s r) := by
  have m0 := Mb2.start h
  cases x
  · have hO : ∀ w1, StB B w1 g c s → Calls Tryz.prog 77 #[.pointer (some ⟨g, 0, none⟩), .int .i64 6, .int .u8 5] w1 fun e w' => e = .returned (.tuple #[]) ∧ ∃ s', Left B w1 w' g r.1 s s' := fun w1 k => oneMore_any B w1 g c s 6 5 r.1 (by rw [hr]; simp [sixC]) k hn
    have H2 := hid (show r.2 = (0, zeroFr) by rw [hr]; simp [sixC])
    clear hr h hmo hn
    go_enter Tryz.func58, Tryz.ntmps58
    go_wp2_with (go_at_call 77; (with_reducible refine (hO _ m0.mb.st).mono ?_); rintro e w1 ⟨rfl, s1, l1⟩; have m1 := m0.left l1; have m1b := m1.mb; obtain ⟨p0, p1, p2, p3, p4, p5⟩ := m1b.hps; have fp := m1b.hpf; obtain ⟨x0, x1, x2, x3, x4, x5⟩ := m1.hxs)
    exact bodyPost_ret (v := .agg (hapA (0, zeroFr) none 0)) (by simp [results, Tryz.results58, go_sem, p0, p1, p2, p3, p4, p5]; rfl) rfl (m1b.six 0 rfl H2.out _ _ _ _ _ _)
  · obtain ⟨k, hk⟩ : ∃ k, k = if c.sender then 6 else 3 := ⟨_, rfl⟩
    have hI : ∀ w1, StB B w1 g c s → Calls Tryz.prog 76 #[.pointer (some ⟨g, 0, none⟩), .int .u8 6, .int .u8 3] w1 fun e w' => e = .returned (.int .u8 (k : Int)) ∧ Below w1.heap.size w1 w' := fun w1 h1 => by rw [hk]; exact either_any B w1 g c s 6 3 h1
    have hkb : k = 6 ∨ k = 3 := by rw [hk]; split <;> simp
    unfold sixC at hr
    rw [← hk] at hr
    clear hk
    by_cases hm : moC (evC c.cf k) = 2
    · have hG := fun (w1 : World) (h1 : StB B w1 g c s) => goesOff_yes B w1 g c s k (by omega) h1 hm
      rw [if_pos ⟨rfl, hm⟩] at hr
      have hr1 : ({ newC { c with cf := evC c.cf k } 9 with sender := false } : Ct) = r.1 := by rw [hr]; rfl
      have H2 := hid (show r.2 = (10, zeroFr) by rw [hr]; rfl)
      simp only [hr1] at hG
      clear hkb hm h hr hr1 hmo hn
      go_enter Tryz.func58, Tryz.ntmps58
      go_wp2_with (first
        | (go_at_call 76; (with_reducible refine (hI _ m0.mb.st).mono ?_); rintro e w2 ⟨rfl, g2⟩; have m2 := m0.call g2)
        | (go_at_call 75; (with_reducible refine (hG _ m2.mb.st).mono ?_); rintro e w3 ⟨rfl, l3⟩; have m3 := (m2.left l3).mb; obtain ⟨p0, p1, p2, p3, p4, p5⟩ := m3.hps; have fp := m3.hpf))
      exact bodyPost_ret (v := .agg (hapA (10, zeroFr) none 0)) (by simp [results, Tryz.results58, go_sem, p0, p1, p2, p3, p4, p5]; rfl) rfl (m3.six 10 rfl H2.out _ _ _ _ _ _)
    · have hG := fun (w1 : World) (h1 : StB B w1 g c s) => goesOff_no B w1 g c s k (by omega) h1 hm
      rw [if_neg (fun h => hm h.2)] at hr
      have hO : ∀ w1, StB B w1 g { c with cf := evC c.cf k } s → Calls Tryz.prog 77 #[.pointer (some ⟨g, 0, none⟩), .int .i64 6, .int .u8 5] w1 fun e w' => e = .returned (.tuple #[]) ∧ ∃ s', Left B w1 w' g r.1 s s' := fun w1 h1 => oneMore_any B w1 g { c with cf := evC c.cf k } s 6 5 r.1 (by rw [hr]; simp) h1 hn
      have H2 := hid (show r.2 = (4, zeroFr) by rw [hr]; rfl)
      clear hkb hm h hr hmo hn
      go_enter Tryz.func58, Tryz.ntmps58
      go_wp2_with (first
        | (go_at_call 76; (with_reducible refine (hI _ m0.mb.st).mono ?_); rintro e w2 ⟨rfl, g2⟩; have m2 := m0.call g2)
        | (go_at_call 75; (with_reducible refine (hG _ m2.mb.st).mono ?_); rintro e w3 ⟨rfl, l3⟩; have m3 := m2.left l3; have m4 := m3.mb.other (Nat.lt_succ_self _) m3.nx 0 (.int .u8 4); obtain ⟨x0, x1, x2, x3, x4, x5⟩ := m3.hxs; have fx := bx_thaw m3.hx; have hx3 := m3.hx; have hl3 := m3.lt; have hg3 := m3.mb.lt)
        | (go_at_call 77; (with_reducible refine (hO _ m4.st).mono ?_); rintro e w5 ⟨rfl, s5, l5⟩; have m5 := m4.left l5; have hx5 : w5.heap[w.heap.size + 1]? = some (.cells #[.int .u8 4, .int .u32 0, .bool false, .bool false, .int .u8 0, .slice none 0 0] 63 (0, 0)) := (l5.wr.block _ (by rw [sz_set]; exact hl3) (by omega)).trans (heap_setCell_same _ _ 0 _ _ _ hx3); clear x0 x1 x2 x3 x4 x5; obtain ⟨x0, x1, x2, x3, x4, x5⟩ := bx6 hx5; obtain ⟨p0, p1, p2, p3, p4, p5⟩ := m5.hps; have fp := m5.hpf))
      exact bodyPost_ret (v := .agg (hapA (4, zeroFr) none 0)) (by simp [results, Tryz.results58, go_sem, p0, p1, p2, p3, p4, p5]; rfl) rfl (m5.six 4 rfl H2.out _ _ _ _ _ _)
end Go.Proofs.YtgpmhmdofefdcaaGreat
