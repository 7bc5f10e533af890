/-
  Contract of a state's method: a bit of a frame that the controller does not send.
  Contracts of a state's methods: what a sender asks of its state, and what it drives.
-/
import Derived.Test.YtgpmhmdofefdcaaGreatB8f
import Derived.Test.YtgpmhmdofefdcaaGreatM7b
import Derived.Deep.QuietTactic
import Derived.BigQuiet
namespace Go.Proofs.YtgpmhmdofefdcaaGreat
open Go.RowKit Go.Sort
set_option linter.unusedVariables false

/-- What take.Next, Drive and Frame ask of what is read. -/
structure TkOK (t : Tk) : Prop where
  ri : rightA t.b t.m
  len : t.l.length ≤ 5000
  p : t.p ≤ 255
  nine : t.p = 9 → t.fi = true ∧ t.m ≠ 5

section
variable {B g : Nat} {w wr w2 : World} {c c' : Ct} {s s1 s2 : Sl}
theorem Mb.putTk (h : Mb B w wr g c s s1) (t : Tk) (a : Option Addr) (k : Nat) {b : Nat} (ho : OL .bool 4 b wr a t.l.length k t.l) (hb : w.heap.size < b) (hB : B ≤ g) :
    Mb B w (((((wr.setCell ⟨g, 17, none⟩ (.bool t.b)).setCell ⟨g, 18, none⟩ (.int .u8 (t.m : Int))).setCell ⟨g, 19, none⟩ (.slice a t.l.length k)).setCell ⟨g, 20, none⟩ (.int .u8 (t.p : Int))).setCell ⟨g, 21, none⟩ (.bool t.fi)) g { c with tk := t } s { s1 with ta := a, tc := k } := by
  have hg := h.lt
  refine ⟨h.st.putTk t a k (ho.mono (by omega)) (ol_nb ho (by omega)), hg, ?_, ((((h.wr.setCell (.inl rfl) _).setCell (.inl rfl) _).setCell (.inl rfl) _).setCell (.inl rfl) _).setCell (.inl rfl) _, ⟨h.nh.d, h.nh.w, ol_nb ho hb⟩, fun k hk hn => ⟨(h.ns k hk hn).d, (h.ns k hk hn).w, ol_nb ho (by omega)⟩⟩
  have hk : ∀ (v : World) i u, (v.setCell ⟨g, i, none⟩ u).heap[w.heap.size]? = v.heap[w.heap.size]? := fun v i u => Below.heap_setCell _ _ _ _ (by show w.heap.size ≠ g; omega)
  rw [hk, hk, hk, hk, hk]; exact h.hp

/-- What happened with a frame in new memory. -/
theorem Mb.tells {r : Ct × Hp} {a : Option Addr} {n b : Nat} (m : Mb B w wr g r.1 s s1) (ho : OL bv 5 b wr a r.2.2.data.length n r.2.2.data) (hb : w.heap.size < b) (hB : B ≤ w.heap.size) (v0 v1 v2 v3 v4 v5 : Value) :
    Told B w g s r (.returned (.agg (hapA r.2 a n))) ((((((wr.setCell ⟨w.heap.size, 0, none⟩ v0).setCell ⟨w.heap.size, 1, none⟩ v1).setCell ⟨w.heap.size, 2, none⟩ v2).setCell ⟨w.heap.size, 3, none⟩ v3).setCell ⟨w.heap.size, 4, none⟩ v4).setCell ⟨w.heap.size, 5, none⟩ v5) :=
  ⟨s1, a, n, rfl, m.fin _ _ _ _ _ _, (ho.kept fun k hk => set6_other (by have h1 := (ho.ltB hk).2; dsimp only at h1; omega) _ _ _ _ _ _).mono (by omega), fun k hk hs => ol_nb ho (by omega)⟩
end

section
variable (B : Nat) (w : World) (g : Nat) (c : Ct) (s : Sl) (x : Bool)

/-- The calls of Drive and Next, and what is stored behind them: for each of the cases below. -/
theorem read_next (w : World) (t : Tk) (a : Option Addr) (k : Nat) (x : Bool) (h : RL .bool w a t.l.length k t.l) (hT : TkOK t) :
    Calls Tryz.prog 84 #[.agg #[.bool t.b, .int .u8 (t.m : Int), .slice a t.l.length k, .int .u8 (t.p : Int), .bool t.fi], .bool x] w fun e w' => ∃ a' c',
      e = .returned (.tuple #[.agg #[.bool (nxT t x).1.b, .int .u8 ((nxT t x).1.m : Int), .slice a' (nxT t x).1.l.length c', .int .u8 ((nxT t x).1.p : Int), .bool (nxT t x).1.fi], .int .u8 ((nxT t x).2 : Int)]) ∧
      OL .bool 4 w.heap.size w' a' (nxT t x).1.l.length c' (nxT t x).1.l ∧ Below w.heap.size w w' :=
  next7_any w t x a _ k rfl h (by have := hT.len; omega) hT.ri hT.p

set_option maxHeartbeats 4000000 in
theorem read_err (r : Ct × Hp) (q e : Nat) (t' : Tk) (hq : (nxT c.tk x) = (t', q)) (he : q = 1 ∧ e = 5 ∨ q = 2 ∧ e = 6 ∨ q = 3 ∧ e = 8) (hr : r = failC { c with tk := t' } e) (h : StB B w g c s) (hT : TkOK c.tk) (hmo : moC c.cf ≤ 1) :
    Calls Tryz.prog 74 #[.pointer (some ⟨g, 0, none⟩), .bool x] w (Told B w g s r) := by
  have m0 := Mb.start h
  have hB := h.hB
  have hg := h.lt
  have hD := fun w1 => drive7_any w1 c.tk.b c.tk.m s.ta c.tk.l.length s.tc c.tk.p c.tk.fi
  have hN := fun (w1 : World) (h1 : RL .bool w1 s.ta c.tk.l.length s.tc c.tk.l) => read_next w1 c.tk s.ta s.tc x h1 hT
  rw [hq] at hN
  have hF := fun (w1 : World) (s1 : Sl) (k : StB B w1 g { c with tk := t' } s1) => fail_st B w1 g { c with tk := t' } s1 e r hr k hmo
  generalize drT c.tk.p c.tk.fi = d at hD
  have q17 := m0.st.q17
  have q18 := m0.st.q18
  have q19 := m0.st.q19
  have q20 := m0.st.q20
  have q21 := m0.st.q21
  clear hr hq hT hmo h
  rcases he with ⟨rfl, rfl⟩ | ⟨rfl, rfl⟩ | ⟨rfl, rfl⟩
  all_goals
    simp only [show ((1 : Nat) : Int) = 1 from rfl, show ((2 : Nat) : Int) = 2 from rfl, show ((3 : Nat) : Int) = 3 from rfl, show ((5 : Nat) : Int) = 5 from rfl, show ((6 : Nat) : Int) = 6 from rfl, show ((8 : Nat) : Int) = 8 from rfl] at hN hF
    go_enter Tryz.func74, Tryz.ntmps74
    go_wp2_with (first
      | (go_at_call 55; (with_reducible refine (hD _).mono ?_); rintro e w1 ⟨rfl, g1⟩; have m1 := m0.call g1; clear q17 q18 q19 q20 q21; have q17 := m1.st.q17; have q18 := m1.st.q18; have q19 := m1.st.q19; have q20 := m1.st.q20; have q21 := m1.st.q21)
      | (go_at_call 84; (with_reducible refine (hN _ m1.st.ti.rl).mono ?_); rintro e w2 ⟨a2, c2, rfl, o2, g2⟩; have z0 := m1.size; have z2 := g2.size; have m2 := (m1.call g2).alloc (.cells #[.bool t'.b, .int .u8 (t'.m : Int), .slice a2 t'.l.length c2, .int .u8 (t'.p : Int), .bool t'.fi] 52); have m3 := m2.putTk t' a2 c2 (o2.alloc (.cells #[.bool t'.b, .int .u8 (t'.m : Int), .slice a2 t'.l.length c2, .int .u8 (t'.p : Int), .bool t'.fi] 52)) (by omega) hB; obtain ⟨n0, n1, n2, n3, n4⟩ := bx5 (heap_alloc_new w2 (.cells #[.bool t'.b, .int .u8 (t'.m : Int), .slice a2 t'.l.length c2, .int .u8 (t'.p : Int), .bool t'.fi] 52)); have f := m2.st.fz; clear q17 q18 q19 q20 q21; have q17 := m2.st.q17; have q18 := m2.st.q18; have q19 := m2.st.q19; have q20 := m2.st.q20; have q21 := m2.st.q21)
      | (go_at_call 72; (with_reducible refine (hF _ _ m3.st).mono ?_); rintro e w4 ⟨s4, a4, n4, rfl, l4, o4, b4⟩; have m4 := m3.left l4; obtain ⟨p0, p1, p2, p3, p4, p5⟩ := m4.hps; have fp := m4.hpf))
    exact bodyPost_ret (v := .agg (hapA r.2 a4 n4)) (by simp [results, Tryz.results74, go_sem, p0, p1, p2, p3, p4, p5]; rfl) rfl (m3.told l4 o4 b4 _ _ _ _ _ _)

set_option maxHeartbeats 4000000 in
theorem read_more (r : Ct × Hp) (t' : Tk) (hq : (nxT c.tk x) = (t', 0)) (hr : r = if x && !drT c.tk.p c.tk.fi then failC { c with tk := t' } 4 else ({ c with tk := t' }, noH)) (h : StB B w g c s) (hT : TkOK c.tk) (hmo : moC c.cf ≤ 1) :
    Calls Tryz.prog 74 #[.pointer (some ⟨g, 0, none⟩), .bool x] w (Told B w g s r) := by
  have m0 := Mb.start h
  have hB := h.hB
  have hg := h.lt
  have hD := fun w1 => drive7_any w1 c.tk.b c.tk.m s.ta c.tk.l.length s.tc c.tk.p c.tk.fi
  have hN := fun (w1 : World) (h1 : RL .bool w1 s.ta c.tk.l.length s.tc c.tk.l) => read_next w1 c.tk s.ta s.tc x h1 hT
  rw [hq] at hN
  dsimp only at hN
  generalize drT c.tk.p c.tk.fi = d at hD hr
  have q17 := m0.st.q17
  have q18 := m0.st.q18
  have q19 := m0.st.q19
  have q20 := m0.st.q20
  have q21 := m0.st.q21
  simp only [show ((0 : Nat) : Int) = 0 from rfl] at hN
  have hF : (x && !d) = true → ∀ (w1 : World) (s1 : Sl), StB B w1 g { c with tk := t' } s1 → Calls Tryz.prog 72 #[.pointer (some ⟨g, 0, none⟩), .int .u8 4] w1 (Told B w1 g s1 r) := fun hx w1 s1 k => fail_st B w1 g { c with tk := t' } s1 4 r (by rw [hr, if_pos hx]) k hmo
  have H : (x && !d) = false → Hid (r.1 = { c with tk := t' }) ∧ Hid (r.2 = (0, zeroFr)) := fun hx => ⟨hid (by rw [hr, if_neg (by rw [hx]; decide)]), hid (by rw [hr, if_neg (by rw [hx]; decide)]; rfl)⟩
  clear hr hq hT hmo h
  cases x <;> cases d
  all_goals first
    | replace hF := hF rfl
      clear H
      go_enter Tryz.func74, Tryz.ntmps74
      go_wp2_with (first
        | (go_at_call 55; (with_reducible refine (hD _).mono ?_); rintro e w1 ⟨rfl, g1⟩; have m1 := m0.call g1; clear q17 q18 q19 q20 q21; have q17 := m1.st.q17; have q18 := m1.st.q18; have q19 := m1.st.q19; have q20 := m1.st.q20; have q21 := m1.st.q21)
        | (go_at_call 84; (with_reducible refine (hN _ m1.st.ti.rl).mono ?_); rintro e w2 ⟨a2, c2, rfl, o2, g2⟩; have z0 := m1.size; have z2 := g2.size; have m2 := (m1.call g2).alloc (.cells #[.bool t'.b, .int .u8 (t'.m : Int), .slice a2 t'.l.length c2, .int .u8 (t'.p : Int), .bool t'.fi] 52); have m3 := m2.putTk t' a2 c2 (o2.alloc (.cells #[.bool t'.b, .int .u8 (t'.m : Int), .slice a2 t'.l.length c2, .int .u8 (t'.p : Int), .bool t'.fi] 52)) (by omega) hB; obtain ⟨n0, n1, n2, n3, n4⟩ := bx5 (heap_alloc_new w2 (.cells #[.bool t'.b, .int .u8 (t'.m : Int), .slice a2 t'.l.length c2, .int .u8 (t'.p : Int), .bool t'.fi] 52)); have f := m2.st.fz; clear q17 q18 q19 q20 q21; have q17 := m2.st.q17; have q18 := m2.st.q18; have q19 := m2.st.q19; have q20 := m2.st.q20; have q21 := m2.st.q21)
        | (go_at_call 72; (with_reducible refine (hF _ _ m3.st).mono ?_); rintro e w4 ⟨s4, a4, n4, rfl, l4, o4, b4⟩; have m4 := m3.left l4; obtain ⟨p0, p1, p2, p3, p4, p5⟩ := m4.hps; have fp := m4.hpf))
      exact bodyPost_ret (v := .agg (hapA r.2 a4 n4)) (by simp [results, Tryz.results74, go_sem, p0, p1, p2, p3, p4, p5]; rfl) rfl (m3.told l4 o4 b4 _ _ _ _ _ _)
    | obtain ⟨H1, H2⟩ := H rfl
      clear hF
      go_enter Tryz.func74, Tryz.ntmps74
      go_wp2_with (first
        | (go_at_call 55; (with_reducible refine (hD _).mono ?_); rintro e w1 ⟨rfl, g1⟩; have m1 := m0.call g1; clear q17 q18 q19 q20 q21; have q17 := m1.st.q17; have q18 := m1.st.q18; have q19 := m1.st.q19; have q20 := m1.st.q20; have q21 := m1.st.q21)
        | (go_at_call 84; (with_reducible refine (hN _ m1.st.ti.rl).mono ?_); rintro e w2 ⟨a2, c2, rfl, o2, g2⟩; have z0 := m1.size; have z2 := g2.size; have m2 := (m1.call g2).alloc (.cells #[.bool t'.b, .int .u8 (t'.m : Int), .slice a2 t'.l.length c2, .int .u8 (t'.p : Int), .bool t'.fi] 52); have m3 := m2.putTk t' a2 c2 (o2.alloc (.cells #[.bool t'.b, .int .u8 (t'.m : Int), .slice a2 t'.l.length c2, .int .u8 (t'.p : Int), .bool t'.fi] 52)) (by omega) hB; obtain ⟨n0, n1, n2, n3, n4⟩ := bx5 (heap_alloc_new w2 (.cells #[.bool t'.b, .int .u8 (t'.m : Int), .slice a2 t'.l.length c2, .int .u8 (t'.p : Int), .bool t'.fi] 52)); have f := m2.st.fz; clear q17 q18 q19 q20 q21; have q17 := m2.st.q17; have q18 := m2.st.q18; have q19 := m2.st.q19; have q20 := m2.st.q20; have q21 := m2.st.q21; obtain ⟨p0, p1, p2, p3, p4, p5⟩ := m3.hps; have fp := m3.hpf))
      exact bodyPost_ret (v := .agg (hapA (0, zeroFr) none 0)) (by simp [results, Tryz.results74, go_sem, p0, p1, p2, p3, p4, p5]; rfl) rfl (m3.six 0 H1.out H2.out _ _ _ _ _ _)

set_option maxHeartbeats 4000000 in
theorem read_end (r : Ct × Hp) (q : Nat) (t' : Tk) (hq : (nxT c.tk x) = (t', q)) (he : q = 5 ∧ r = overC { c with tk := t' } ∨ q = 6 ∧ r = (newC { c with tk := t' } 7, noH)) (h : StB B w g c s) (hT : TkOK c.tk) :
    Calls Tryz.prog 74 #[.pointer (some ⟨g, 0, none⟩), .bool x] w (Told B w g s r) := by
  have m0 := Mb.start h
  have hB := h.hB
  have hg := h.lt
  have hD := fun w1 => drive7_any w1 c.tk.b c.tk.m s.ta c.tk.l.length s.tc c.tk.p c.tk.fi
  have hN := fun (w1 : World) (h1 : RL .bool w1 s.ta c.tk.l.length s.tc c.tk.l) => read_next w1 c.tk s.ta s.tc x h1 hT
  rw [hq] at hN
  dsimp only at hN
  generalize drT c.tk.p c.tk.fi = d at hD
  have q17 := m0.st.q17
  have q18 := m0.st.q18
  have q19 := m0.st.q19
  have q20 := m0.st.q20
  have q21 := m0.st.q21
  clear hq hT h
  rcases he with ⟨rfl, hr⟩ | ⟨rfl, hr⟩
  · have hF := fun (w1 : World) (s1 : Sl) (k : StB B w1 g { c with tk := t' } s1) => overload_st B w1 g { c with tk := t' } s1 k
    rw [← hr] at hF
    clear hr
    simp only [show ((5 : Nat) : Int) = 5 from rfl] at hN
    go_enter Tryz.func74, Tryz.ntmps74
    go_wp2_with (first
      | (go_at_call 55; (with_reducible refine (hD _).mono ?_); rintro e w1 ⟨rfl, g1⟩; have m1 := m0.call g1; clear q17 q18 q19 q20 q21; have q17 := m1.st.q17; have q18 := m1.st.q18; have q19 := m1.st.q19; have q20 := m1.st.q20; have q21 := m1.st.q21)
      | (go_at_call 84; (with_reducible refine (hN _ m1.st.ti.rl).mono ?_); rintro e w2 ⟨a2, c2, rfl, o2, g2⟩; have z0 := m1.size; have z2 := g2.size; have m2 := (m1.call g2).alloc (.cells #[.bool t'.b, .int .u8 (t'.m : Int), .slice a2 t'.l.length c2, .int .u8 (t'.p : Int), .bool t'.fi] 52); have m3 := m2.putTk t' a2 c2 (o2.alloc (.cells #[.bool t'.b, .int .u8 (t'.m : Int), .slice a2 t'.l.length c2, .int .u8 (t'.p : Int), .bool t'.fi] 52)) (by omega) hB; obtain ⟨n0, n1, n2, n3, n4⟩ := bx5 (heap_alloc_new w2 (.cells #[.bool t'.b, .int .u8 (t'.m : Int), .slice a2 t'.l.length c2, .int .u8 (t'.p : Int), .bool t'.fi] 52)); have f := m2.st.fz; clear q17 q18 q19 q20 q21; have q17 := m2.st.q17; have q18 := m2.st.q18; have q19 := m2.st.q19; have q20 := m2.st.q20; have q21 := m2.st.q21)
      | (go_at_call 80; (with_reducible refine (hF _ _ m3.st).mono ?_); rintro e w4 ⟨s4, a4, n4, rfl, l4, o4, b4⟩; have m4 := m3.left l4; obtain ⟨p0, p1, p2, p3, p4, p5⟩ := m4.hps; have fp := m4.hpf))
    exact bodyPost_ret (v := .agg (hapA r.2 a4 n4)) (by simp [results, Tryz.results74, go_sem, p0, p1, p2, p3, p4, p5]; rfl) rfl (m3.told l4 o4 b4 _ _ _ _ _ _)
  · have hE : ∀ (w1 : World) (s1 : Sl), StB B w1 g { c with tk := t' } s1 → Calls Tryz.prog 78 #[.pointer (some ⟨g, 0, none⟩), .int .u8 7] w1 fun e w' => e = .returned (.tuple #[]) ∧ Left B w1 w' g r.1 s1 s1.new := fun w1 s1 k => by rw [hr]; exact enter_any B w1 g { c with tk := t' } s1 7 k
    have H2 := hid (show r.2 = (0, zeroFr) by rw [hr]; rfl)
    clear hr
    simp only [show ((6 : Nat) : Int) = 6 from rfl] at hN
    go_enter Tryz.func74, Tryz.ntmps74
    go_wp2_with (first
      | (go_at_call 55; (with_reducible refine (hD _).mono ?_); rintro e w1 ⟨rfl, g1⟩; have m1 := m0.call g1; clear q17 q18 q19 q20 q21; have q17 := m1.st.q17; have q18 := m1.st.q18; have q19 := m1.st.q19; have q20 := m1.st.q20; have q21 := m1.st.q21)
      | (go_at_call 84; (with_reducible refine (hN _ m1.st.ti.rl).mono ?_); rintro e w2 ⟨a2, c2, rfl, o2, g2⟩; have z0 := m1.size; have z2 := g2.size; have m2 := (m1.call g2).alloc (.cells #[.bool t'.b, .int .u8 (t'.m : Int), .slice a2 t'.l.length c2, .int .u8 (t'.p : Int), .bool t'.fi] 52); have m3 := m2.putTk t' a2 c2 (o2.alloc (.cells #[.bool t'.b, .int .u8 (t'.m : Int), .slice a2 t'.l.length c2, .int .u8 (t'.p : Int), .bool t'.fi] 52)) (by omega) hB; obtain ⟨n0, n1, n2, n3, n4⟩ := bx5 (heap_alloc_new w2 (.cells #[.bool t'.b, .int .u8 (t'.m : Int), .slice a2 t'.l.length c2, .int .u8 (t'.p : Int), .bool t'.fi] 52)); have f := m2.st.fz; clear q17 q18 q19 q20 q21; have q17 := m2.st.q17; have q18 := m2.st.q18; have q19 := m2.st.q19; have q20 := m2.st.q20; have q21 := m2.st.q21)
      | (go_at_call 78; (with_reducible refine (hE _ _ m3.st).mono ?_); rintro e w4 ⟨rfl, l4⟩; have m4 := m3.left l4; obtain ⟨p0, p1, p2, p3, p4, p5⟩ := m4.hps; have fp := m4.hpf))
    exact bodyPost_ret (v := .agg (hapA (0, zeroFr) none 0)) (by simp [results, Tryz.results74, go_sem, p0, p1, p2, p3, p4, p5]; rfl) rfl (m4.six 0 rfl H2.out _ _ _ _ _ _)

set_option maxHeartbeats 4000000 in
theorem read_got (r : Ct × Hp) (t' : Tk) (hq : (nxT c.tk x) = (t', 4)) (hr : r = ({ c with tk := t', cf := evC c.cf 9 }, (2, paU t'.l))) (hf : t'.p ≠ 0 ∧ t'.fi = true ∧ t'.m ≠ 5) (hl : t'.l.length ≤ 10000) (hm : t'.m < 256) (h : StB B w g c s) (hT : TkOK c.tk) :
    Calls Tryz.prog 74 #[.pointer (some ⟨g, 0, none⟩), .bool x] w (Told B w g s r) := by
  have m0 := Mb.start h
  have hB := h.hB
  have hg := h.lt
  have hD := fun w1 => drive7_any w1 c.tk.b c.tk.m s.ta c.tk.l.length s.tc c.tk.p c.tk.fi
  have hN := fun (w1 : World) (h1 : RL .bool w1 s.ta c.tk.l.length s.tc c.tk.l) => read_next w1 c.tk s.ta s.tc x h1 hT
  rw [hq] at hN
  dsimp only at hN
  generalize drT c.tk.p c.tk.fi = d at hD
  have q17 := m0.st.q17
  have q18 := m0.st.q18
  have q19 := m0.st.q19
  have q20 := m0.st.q20
  have q21 := m0.st.q21
  have hC : ∀ (w1 : World) (s1 : Sl), StB B w1 g { c with tk := t' } s1 → Calls Tryz.prog 79 #[.pointer (some ⟨g, 0, none⟩), .int .u8 9] w1 fun e w' => e = .returned (.tuple #[]) ∧ Left B w1 w' g r.1 s1 s1 := fun w1 s1 k => by rw [hr]; exact count_st B w1 g { c with tk := t' } s1 9 (by omega) k
  have hR := fun (w1 : World) (a1 : Option Addr) (c1 : Nat) (h1 : RL .bool w1 a1 t'.l.length c1 t'.l) => frame7_own w1 t'.b t'.m a1 t'.l.length c1 t'.l t'.p t'.fi h1 hl hm
  have hfr : frF t'.m t'.l t'.p t'.fi = r.2.2 := by
    rw [hr]; unfold frF frN
    obtain ⟨h1, h2, h3⟩ := hf
    rw [decide_eq_false h1, decide_eq_false h3, h2]; rfl
  have htk : r.1.tk = t' := by rw [hr]
  have H2 := hid (show r.2.1 = 2 by rw [hr])
  rw [hfr] at hR
  generalize frK t'.m t'.l t'.p t'.fi = fk at hR
  have hr' : r = (r.1, r.2.1, r.2.2) := rfl
  have HTK := hid htk
  clear hr hq hT h hfr hf hl hm hr' htk
  simp only [show ((4 : Nat) : Int) = 4 from rfl] at hN
  go_enter Tryz.func74, Tryz.ntmps74
  go_wp2_with (first
    | (go_at_call 55; (with_reducible refine (hD _).mono ?_); rintro e w1 ⟨rfl, g1⟩; have m1 := m0.call g1; clear q17 q18 q19 q20 q21; have q17 := m1.st.q17; have q18 := m1.st.q18; have q19 := m1.st.q19; have q20 := m1.st.q20; have q21 := m1.st.q21)
    | (go_at_call 84; (with_reducible refine (hN _ m1.st.ti.rl).mono ?_); rintro e w2 ⟨a2, c2, rfl, o2, g2⟩; have z0 := m1.size; have z2 := g2.size; have m2 := (m1.call g2).alloc (.cells #[.bool t'.b, .int .u8 (t'.m : Int), .slice a2 t'.l.length c2, .int .u8 (t'.p : Int), .bool t'.fi] 52); have m3 := m2.putTk t' a2 c2 (o2.alloc (.cells #[.bool t'.b, .int .u8 (t'.m : Int), .slice a2 t'.l.length c2, .int .u8 (t'.p : Int), .bool t'.fi] 52)) (by omega) hB; obtain ⟨n0, n1, n2, n3, n4⟩ := bx5 (heap_alloc_new w2 (.cells #[.bool t'.b, .int .u8 (t'.m : Int), .slice a2 t'.l.length c2, .int .u8 (t'.p : Int), .bool t'.fi] 52)); have f := m2.st.fz; clear q17 q18 q19 q20 q21; have q17 := m2.st.q17; have q18 := m2.st.q18; have q19 := m2.st.q19; have q20 := m2.st.q20; have q21 := m2.st.q21)
    | (go_at_call 79; (with_reducible refine (hC _ _ m3.st).mono ?_); rintro e w4 ⟨rfl, l4⟩; have m4 := m3.left l4; have u4 := m4.st.ti.rl; clear q17 q18 q19 q20 q21 n0 n1 n2 n3 n4; have q17 := m4.st.q17; have q18 := m4.st.q18; have q19 := m4.st.q19; have q20 := m4.st.q20; have q21 := m4.st.q21; rw [HTK.out] at q17 q18 q19 q20 q21 u4)
    | (go_at_call 90; (with_reducible refine (hR _ _ _ u4).mono ?_); rintro e w5 ⟨a5, c5, rfl, o5, g5⟩; have z4 := m4.size; have z5 := g5.size; have o6 := o5.alloc (.cells #[.int .u32 (r.2.2.id : Int), .bool r.2.2.ext, .bool r.2.2.rem, .int .u8 (r.2.2.dlc : Int), .slice a5 r.2.2.data.length c5] 26); have m6 := (m4.call g5).alloc (.cells #[.int .u32 (r.2.2.id : Int), .bool r.2.2.ext, .bool r.2.2.rem, .int .u8 (r.2.2.dlc : Int), .slice a5 r.2.2.data.length c5] 26); obtain ⟨n0, n1, n2, n3, n4⟩ := bx5 (heap_alloc_new w5 (.cells #[.int .u32 (r.2.2.id : Int), .bool r.2.2.ext, .bool r.2.2.rem, .int .u8 (r.2.2.dlc : Int), .slice a5 r.2.2.data.length c5] 26)); obtain ⟨p0, p1, p2, p3, p4, p5⟩ := m6.hps; have fp := m6.hpf))
  exact bodyPost_ret (v := .agg #[.int .u8 2, .int .u32 (r.2.2.id : Int), .bool r.2.2.ext, .bool r.2.2.rem, .int .u8 (r.2.2.dlc : Int), .slice a5 r.2.2.data.length c5]) (by simp [results, Tryz.results74, go_sem, p0, p1, p2, p3, p4, p5]) rfl (by have := m6.tells o6 (by omega) (by omega) (.int .u8 2) (.int .u32 (r.2.2.id : Int)) (.bool r.2.2.ext) (.bool r.2.2.rem) (.int .u8 (r.2.2.dlc : Int)) (.slice a5 r.2.2.data.length c5); unfold hapA at this; rw [H2.out] at this; exact this)

theorem nxT_four {t : Tk} (h : (nxT t x).2 = 4) : t.p = 9 ∧ (nxT t x).1 = { t with p := 10 } := by
  unfold nxT at h ⊢
  by_cases h0 : t.p = 0
  · rw [if_pos h0] at h; split at h
    · simp at h
    · split at h <;> simp at h
  rw [if_neg h0] at h ⊢
  by_cases h2 : t.p = 2
  · rw [if_pos h2] at h; simp at h
  rw [if_neg h2] at h ⊢
  by_cases h10 : t.p = 10
  · rw [if_pos h10] at h; cases x <;> simp at h
  rw [if_neg h10] at h ⊢
  by_cases h11 : 10 < t.p
  · rw [if_pos h11] at h; simp at h
  rw [if_neg h11] at h ⊢
  by_cases hx : x = false
  · rw [if_pos hx] at h; simp at h
  rw [if_neg hx] at h ⊢
  by_cases h3 : t.p = 3 ∧ t.fi = false
  · rw [if_pos h3] at h; simp at h
  rw [if_neg h3] at h ⊢
  by_cases h9 : t.p = 9
  · exact ⟨h9, by rw [h9]⟩
  · simp [h9] at h

/-- A frame that the controller does not send: a bit. -/
theorem read_st (r : Ct × Hp) (hr : r = rcvC c x) (h : StB B w g c s) (hT : TkOK c.tk) (hmo : moC c.cf ≤ 1) :
    Calls Tryz.prog 74 #[.pointer (some ⟨g, 0, none⟩), .bool x] w (Told B w g s r) := by
  have h6 := nxT_le c.tk x
  have h4 := @nxT_four x c.tk
  obtain ⟨⟨t', q⟩, hq⟩ : ∃ z, nxT c.tk x = z := ⟨_, rfl⟩
  unfold rcvC at hr
  rw [hq] at hr h6 h4
  dsimp only at hr h6 h4
  rcases (show q = 0 ∨ q = 1 ∨ q = 2 ∨ q = 3 ∨ q = 4 ∨ q = 5 ∨ q = 6 by omega) with rfl | rfl | rfl | rfl | rfl | rfl | rfl
  · exact read_more B w g c s x r t' hq (by rw [hr]; rfl) h hT hmo
  · exact read_err B w g c s x r 1 5 t' hq (by omega) (by rw [hr]; rfl) h hT hmo
  · exact read_err B w g c s x r 2 6 t' hq (by omega) (by rw [hr]; rfl) h hT hmo
  · exact read_err B w g c s x r 3 8 t' hq (by omega) (by rw [hr]; rfl) h hT hmo
  · obtain ⟨k1, k2⟩ := h4 rfl
    obtain ⟨k3, k4⟩ := hT.nine k1
    have hL := hT.len
    have hm := hT.ri.1
    refine read_got B w g c s x r t' hq (by rw [hr]; rfl) ?_ ?_ ?_ h hT
    · rw [k2]; exact ⟨by simp, k3, k4⟩
    · rw [k2]; dsimp only; omega
    · rw [k2]; dsimp only; omega
  · exact read_end B w g c s x r 5 t' hq (.inl ⟨rfl, by rw [hr]; rfl⟩) h hT
  · exact read_end B w g c s x r 6 t' hq (.inr ⟨rfl, by rw [hr]; rfl⟩) h hT
end
end Go.Proofs.YtgpmhmdofefdcaaGreat

namespace Go.Proofs.YtgpmhmdofefdcaaGreat
open Go.RowKit Go.Sort
set_option linter.unusedVariables false

theorem atAck_st (B : Nat) (w : World) (g : Nat) (c : Ct) (s : Sl) (h : StB B w g c s) (hl : c.wire.length ≤ 100000) (hp : c.pos ≤ 100000) :
    Calls Tryz.prog 87 #[.pointer (some ⟨g, 0, none⟩)] w fun e w' => e = .returned (.bool (decide (c.pos + 9 = c.wire.length))) ∧ Below w.heap.size w w' := by
  have q16 := h.q16
  have q15 := h.q15
  have hk : decide (c.pos + 9 = c.wire.length) = decide ((c.pos : Int) = (c.wire.length : Int) - 9) := by rw [decide_eq_decide]; omega
  rw [hk]
  clear hk h
  generalize c.wire.length = n at *
  generalize c.pos = p at *
  have b0 : (0 : Int) ≤ n := by omega
  have b1 : (n : Int) ≤ 100000 := by omega
  by_cases hq : (p : Int) = (n : Int) - 9
  · rw [decide_eq_true hq]
    go_enter Tryz.func87, Tryz.ntmps87
    go_wp2_with (fail)
    go_quiet (fail)
    go_wp2
    go_ret
    exact ⟨by simp, below_drewN (Below.refl _ _) _⟩
  · rw [decide_eq_false hq]
    go_enter Tryz.func87, Tryz.ntmps87
    go_wp2_with (fail)
    go_quiet (fail)
    go_wp2
    go_ret
    exact ⟨by simp [hq], below_drewN (Below.refl _ _) _⟩

theorem inContest_st (B : Nat) (w : World) (g : Nat) (c : Ct) (s : Sl) (h : StB B w g c s) :
    Calls Tryz.prog 89 #[.pointer (some ⟨g, 0, none⟩)] w fun e w' => e = .returned (.bool (decide (c.tk.l.length ≤ if c.give.ext then 32 else 12))) ∧ Below w.heap.size w w' := by
  have q9 := h.q9
  have q19 := h.q19
  cases he : c.give.ext
  · rw [he] at q9
    simp only [Bool.false_eq_true, if_false]
    have hk : decide (c.tk.l.length ≤ 12) = decide ((c.tk.l.length : Int) ≤ 12) := by rw [decide_eq_decide]; omega
    rw [hk]
    clear hk h he
    go_enter Tryz.func89, Tryz.ntmps89
    go_wp2
    go_ret
    exact ⟨rfl, Below.refl _ _⟩
  · rw [he] at q9
    simp only [if_true]
    have hk : decide (c.tk.l.length ≤ 32) = decide ((c.tk.l.length : Int) ≤ 32) := by rw [decide_eq_decide]; omega
    rw [hk]
    clear hk h he
    go_enter Tryz.func89, Tryz.ntmps89
    go_wp2
    go_ret
    exact ⟨rfl, Below.refl _ _⟩

set_option maxRecDepth 100000 in
set_option maxHeartbeats 2000000 in
theorem onWire_any (w : World) (c : Ct) (s : Sl) (h : RL .bool w s.wa c.wire.length s.wc c.wire) (hp : c.pos < c.wire.length) :
    Calls Tryz.prog 54 #[.agg (ctA c s)] w fun e w' => e = .returned (.bool (c.wire[c.pos]?.getD false)) ∧ Below w.heap.size w w' := by
  obtain ⟨da, dc, wa, wc, ta, tc⟩ := s
  dsimp only at h
  have hb : (w.alloc (.cells (ctA c ⟨da, dc, wa, wc, ta, tc⟩) 54)).heap[w.heap.size]? = some (.cells (ctA c ⟨da, dc, wa, wc, ta, tc⟩) 54 (0, 0)) := heap_alloc_new w _
  have q15 : (w.alloc (.cells (ctA c ⟨da, dc, wa, wc, ta, tc⟩) 54)).cell? ⟨w.heap.size, 15, none⟩ = some (.slice wa c.wire.length wc) := by rw [cell_of_row _ _ 15 _ _ _ hb]; rfl
  have q16 : (w.alloc (.cells (ctA c ⟨da, dc, wa, wc, ta, tc⟩) 54)).cell? ⟨w.heap.size, 16, none⟩ = some (.int .i64 (c.pos : Int)) := by rw [cell_of_row _ _ 16 _ _ _ hb]; rfl
  have h2 := h.below (bnew0 w (.cells (ctA c ⟨da, dc, wa, wc, ta, tc⟩) 54))
  obtain ⟨b, off, y, e1, hy, hck⟩ := h2.at (k := c.pos) (by omega)
  have hg : c.wire[c.pos]?.getD false = y := by rw [hy]; rfl
  have g1 := bnew0 w (.cells (ctA c ⟨da, dc, wa, wc, ta, tc⟩) 54)
  subst e1
  rw [hg]
  have d1 : decide ((c.pos : Int) < 0) = false := decide_eq_false (by omega)
  have d2 : decide (c.wire.length ≤ c.pos) = false := decide_eq_false (by omega)
  have b0 : (0 : Int) ≤ (c.pos : Int) := by omega
  have b1 : (c.pos : Int) < (c.wire.length : Int) := by omega
  clear hg hy h h2 hp hb
  unfold ctA at *
  dsimp only at *
  go_enter Tryz.func54, Tryz.ntmps54
  go_wp2
  go_ret
  exact ⟨by simp, g1⟩
end Go.Proofs.YtgpmhmdofefdcaaGreat
