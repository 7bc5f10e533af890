/-
  Contracts of Event and Bit at named results; boxes of counters; the statements' own loops times and bits, and begun.
-/
import Derived.Test.YtmdjofhkkkfehaaB6f
namespace Go.Proofs.Ytmdjofhkkkfehaa
open Go.RowKit
set_option linter.unusedVariables false

theorem event_at {t r : Int} {o : Bool} {n m : Int} {k : Nat} {t' r' : Int} {o' : Bool} {n' m' ee : Int} (hk : k < 256) (hc : evC ⟨t, r, o, n, m⟩ k = ⟨t', r', o', n', m'⟩) (he : evE ⟨t, r, o, n, m⟩ k = ee) (w : World) :
    Calls Try.prog 10 #[.agg #[.int .i64 t, .int .i64 r, .bool o, .int .i64 n, .int .i64 m], .int .u8 (k : Int)] w fun e w' =>
      e = .returned (.tuple #[.agg #[.int .i64 t', .int .i64 r', .bool o', .int .i64 n', .int .i64 m'], .int .i64 ee]) ∧ Below w.heap.size w w' := by
  have h := event_any w t r o n m k hk
  rw [hc, he] at h
  exact h

theorem refEvent_at {t r : Int} {o : Bool} {n m : Int} {k : Nat} {t' r' : Int} {o' : Bool} {n' m' ee : Int} (hk : k < 256) (hc : evC ⟨t, r, o, n, m⟩ k = ⟨t', r', o', n', m'⟩) (he : evE ⟨t, r, o, n, m⟩ k = ee) (w : World) :
    Calls Try.prog 11 #[.agg #[.int .i64 t, .int .i64 r, .bool o, .int .i64 n, .int .i64 m], .int .u8 (k : Int)] w fun e w' =>
      e = .returned (.tuple #[.agg #[.int .i64 t', .int .i64 r', .bool o', .int .i64 n', .int .i64 m'], .int .i64 ee]) ∧ Below w.heap.size w w' := by
  have h := refEvent_any w t r o n m k hk
  rw [hc, he] at h
  exact h

theorem bit_at {t r : Int} {o : Bool} {n m : Int} {x : Bool} {t' r' : Int} {o' : Bool} {n' m' : Int} (hc : biC ⟨t, r, o, n, m⟩ x = ⟨t', r', o', n', m'⟩) (w : World) :
    Calls Try.prog 16 #[.agg #[.int .i64 t, .int .i64 r, .bool o, .int .i64 n, .int .i64 m], .bool x] w fun e w' =>
      e = .returned (.agg #[.int .i64 t', .int .i64 r', .bool o', .int .i64 n', .int .i64 m']) ∧ Below w.heap.size w w' := by
  have h := bit_any w t r o n m x
  rw [hc] at h
  exact h

theorem refBit_at {t r : Int} {o : Bool} {n m : Int} {x : Bool} {t' r' : Int} {o' : Bool} {n' m' : Int} (hc : biC ⟨t, r, o, n, m⟩ x = ⟨t', r', o', n', m'⟩) (w : World) :
    Calls Try.prog 17 #[.agg #[.int .i64 t, .int .i64 r, .bool o, .int .i64 n, .int .i64 m], .bool x] w fun e w' =>
      e = .returned (.agg #[.int .i64 t', .int .i64 r', .bool o', .int .i64 n', .int .i64 m']) ∧ Below w.heap.size w w' := by
  have h := refBit_any w t r o n m x
  rw [hc] at h
  exact h

theorem mode_at {t r : Int} {o : Bool} {n m : Int} {q : Nat} (hc : moC ⟨t, r, o, n, m⟩ = q) (w : World) :
    Calls Try.prog 14 #[.agg #[.int .i64 t, .int .i64 r, .bool o, .int .i64 n, .int .i64 m]] w fun e w' => e = .returned (.int .u8 (q : Int)) ∧ Below w.heap.size w w' := by
  have h := mode_any w t r o n m
  rw [hc] at h
  exact h

theorem right_at {t r : Int} {o : Bool} {n m : Int} {q : Bool} (hc : riC ⟨t, r, o, n, m⟩ = q) (w : World) :
    Calls Try.prog 12 #[.agg #[.int .i64 t, .int .i64 r, .bool o, .int .i64 n, .int .i64 m]] w fun e w' => e = .returned (.bool q) ∧ Below w.heap.size w w' := by
  have h := right_any w t r o n m
  rw [hc] at h
  exact h

/-- A box that holds counters. -/
def Bc (w : World) (g : Nat) (c : Cf) : Prop := w.heap[g]? = some (.cells #[.int .i64 c.t, .int .i64 c.r, .bool c.o, .int .i64 c.n, .int .i64 c.m] 23 (0, 0))

/-- All of what a box of counters says. -/
structure BcAll (w : World) (g : Nat) (t r : Int) (o : Bool) (n m : Int) : Prop where
  c0 : w.cell? ⟨g, 0, none⟩ = some (.int .i64 t)
  c1 : w.cell? ⟨g, 1, none⟩ = some (.int .i64 r)
  c2 : w.cell? ⟨g, 2, none⟩ = some (.bool o)
  c3 : w.cell? ⟨g, 3, none⟩ = some (.int .i64 n)
  c4 : w.cell? ⟨g, 4, none⟩ = some (.int .i64 m)
  fz : ∀ i, w.frozen? ⟨g, i, none⟩ = false

section
variable {w w' : World} {g : Nat} {c : Cf} {t r : Int} {o : Bool} {n m : Int}

theorem Bc.all (h : Bc w g ⟨t, r, o, n, m⟩) : BcAll w g t r o n m := by
  obtain ⟨a, b, c, d, e⟩ := bx5 h
  exact ⟨a, b, c, d, e, bx_thaw h⟩

theorem Bc.below (h : Bc w g c) (hb : Below w.heap.size w w') : Bc w' g c := bx_below h hb
theorem Bc.alloc (h : Bc w g c) (o : Obj) : Bc (w.alloc o) g c := bx_alloc o h
theorem Bc.lt (h : Bc w g c) : g < w.heap.size := bx_lt h
theorem Bc.new (w : World) (t r : Int) (o : Bool) (n m : Int) : Bc (w.alloc (.cells #[.int .i64 t, .int .i64 r, .bool o, .int .i64 n, .int .i64 m] 23)) w.heap.size ⟨t, r, o, n, m⟩ := heap_alloc_new w _

/-- Counters stored into a box. -/
theorem Bc.set (h : Bc w g c) (t r : Int) (o : Bool) (n m : Int) :
    Bc (((((w.setCell ⟨g, 0, none⟩ (.int .i64 t)).setCell ⟨g, 1, none⟩ (.int .i64 r)).setCell ⟨g, 2, none⟩ (.bool o)).setCell ⟨g, 3, none⟩ (.int .i64 n)).setCell ⟨g, 4, none⟩ (.int .i64 m)) g ⟨t, r, o, n, m⟩ := by
  have h1 := heap_setCell_same w g 0 _ _ (.int .i64 t) h
  have h2 := heap_setCell_same _ g 1 _ _ (.int .i64 r) h1
  have h3 := heap_setCell_same _ g 2 _ _ (.bool o) h2
  have h4 := heap_setCell_same _ g 3 _ _ (.int .i64 n) h3
  have h5 := heap_setCell_same _ g 4 _ _ (.int .i64 m) h4
  exact h5

theorem set5_other {q : Nat} (hq : q ≠ g) (v0 v1 v2 v3 v4 : Value) : (((((w.setCell ⟨g, 0, none⟩ v0).setCell ⟨g, 1, none⟩ v1).setCell ⟨g, 2, none⟩ v2).setCell ⟨g, 3, none⟩ v3).setCell ⟨g, 4, none⟩ v4).heap[q]? = w.heap[q]? := by
  rw [heap_setCell_other _ _ _ _ hq, heap_setCell_other _ _ _ _ hq, heap_setCell_other _ _ _ _ hq, heap_setCell_other _ _ _ _ hq, heap_setCell_other _ _ _ _ hq]

theorem Bc.other {q : Nat} (h : Bc w q c) (hq : q ≠ g) (v0 v1 v2 v3 v4 : Value) : Bc (((((w.setCell ⟨g, 0, none⟩ v0).setCell ⟨g, 1, none⟩ v1).setCell ⟨g, 2, none⟩ v2).setCell ⟨g, 3, none⟩ v3).setCell ⟨g, 4, none⟩ v4) q c :=
  (set5_other hq v0 v1 v2 v3 v4).trans h

theorem below_set5 {B : Nat} {w0 : World} (h : Below B w0 w) (hg : B ≤ g) (v0 v1 v2 v3 v4 : Value) : Below B w0 (((((w.setCell ⟨g, 0, none⟩ v0).setCell ⟨g, 1, none⟩ v1).setCell ⟨g, 2, none⟩ v2).setCell ⟨g, 3, none⟩ v3).setCell ⟨g, 4, none⟩ v4) :=
  ((((h.setCell (by simpa using hg) v0).setCell (by simpa using hg) v1).setCell (by simpa using hg) v2).setCell (by simpa using hg) v3).setCell (by simpa using hg) v4
end

/-- An event so often. -/
def itE (k : Nat) : Nat → Cf → Cf
  | 0, c => c
  | j + 1, c => evC (itE k j c) k

/-- A recessive bit so often. -/
def itB : Nat → Cf → Cf
  | 0, c => c
  | j + 1, c => biC (itB j c) true

set_option maxHeartbeats 1000000 in
theorem times_any (w : World) (k N : Nat) (hk : k < 256) (hN : N ≤ 1000000) : Calls Try.prog 23 #[.int .u8 (k : Int), .int .i64 (N : Int)] w fun e w' =>
    e = .returned (.agg #[.int .i64 (itE k N zeC).t, .int .i64 (itE k N zeC).r, .bool (itE k N zeC).o, .int .i64 (itE k N zeC).n, .int .i64 (itE k N zeC).m]) ∧ Below w.heap.size w w' := by
  go_enter Try.func23, Try.ntmps23
  go_wp2
  go_loopg [7] N (fun gn i wr => ∃ j : Nat, j ≤ N ∧ gn = N - j ∧ i = .int .i64 (j : Int) ∧ Bc wr (w.heap.size + 1) (itE k j zeC) ∧ Bc wr w.heap.size zeC ∧ Below w.heap.size w wr)
  case atStart => exact ⟨0, by omega, by omega, rfl, by have := Bc.new (w.alloc (.cells #[.int .i64 0, .int .i64 0, .bool false, .int .i64 0, .int .i64 0] 23)) 0 0 false 0 0; rw [heap_size_alloc] at this; exact this, (Bc.new w 0 0 false 0 0).alloc _, bnew (bnew0 w _) _⟩
  case round =>
    obtain ⟨j, hj, rfl, rfl, hb, hz, hg⟩ := hrel
    obtain ⟨c, hc⟩ : ∃ c, c = itE k j zeC := ⟨_, rfl⟩
    rw [← hc] at hb
    have HC := hid hc; clear hc
    obtain ⟨t, r, o, n, m⟩ := c
    obtain ⟨c0, c1, c2, c3, c4, f⟩ := hb.all
    by_cases hlt : j < N
    · obtain ⟨c', hc'⟩ : ∃ c', evC ⟨t, r, o, n, m⟩ k = c' := ⟨_, rfl⟩
      obtain ⟨ee, he⟩ : ∃ ee, evE ⟨t, r, o, n, m⟩ k = ee := ⟨_, rfl⟩
      obtain ⟨t', r', o', n', m'⟩ := c'
      have hE := event_at hk hc' he
      have HN := hid hc'; clear hc' he
      go_wp2_with (go_at_call 10; (with_reducible refine (hE _).mono ?_); rintro e w1 ⟨rfl, g1⟩; obtain ⟨d0, d1, d2, d3, d4, f1⟩ := (hb.below g1).all; clear c0 c1 c2 c3 c4 f)
      go_roundg (N - (j + 1))
      case measure => omega
      case rel =>
        refine ⟨j + 1, by omega, rfl, by go_num, ?_, (hz.below g1).other (by omega) _ _ _ _ _, below_set5 (bstep hg g1) (by omega) _ _ _ _ _⟩
        rw [show itE k (j + 1) zeC = ⟨t', r', o', n', m'⟩ by show evC (itE k j zeC) k = _; rw [← HC.out, HN.out]]
        exact (hb.below g1).set _ _ _ _ _
    · obtain rfl : j = N := by omega
      have HE := hid HC.out
      obtain ⟨d0, d1, d2, d3, d4, f1⟩ := hz.all
      go_wp2
      refine bodyPost_ret (v := .agg #[.int .i64 t, .int .i64 r, .bool o, .int .i64 n, .int .i64 m]) (by simp [results, Try.results23, go_sem, d0, d1, d2, d3, d4]) rfl ⟨by rw [← HE.out], below_set5 hg (Nat.le_refl _) _ _ _ _ _⟩

set_option maxHeartbeats 1000000 in
theorem bits_any (w : World) (t0 r0 : Int) (o0 : Bool) (n0 m0 : Int) (N : Nat) (hN : N ≤ 1000000) : Calls Try.prog 24 #[.agg #[.int .i64 t0, .int .i64 r0, .bool o0, .int .i64 n0, .int .i64 m0], .int .i64 (N : Int)] w fun e w' =>
    e = .returned (.agg #[.int .i64 (itB N ⟨t0, r0, o0, n0, m0⟩).t, .int .i64 (itB N ⟨t0, r0, o0, n0, m0⟩).r, .bool (itB N ⟨t0, r0, o0, n0, m0⟩).o, .int .i64 (itB N ⟨t0, r0, o0, n0, m0⟩).n, .int .i64 (itB N ⟨t0, r0, o0, n0, m0⟩).m]) ∧ Below w.heap.size w w' := by
  obtain ⟨s, hs⟩ : ∃ s : Nat → Cf, s = fun j => itB j ⟨t0, r0, o0, n0, m0⟩ := ⟨_, rfl⟩
  have hs0 : Hid (s 0 = ⟨t0, r0, o0, n0, m0⟩) := by show s 0 = _; rw [hs]; rfl
  have hs1 : Hid (∀ j, s (j + 1) = biC (s j) true) := by show ∀ j, _; intro j; rw [hs]; rfl
  rw [show itB N ⟨t0, r0, o0, n0, m0⟩ = s N by rw [hs]]
  clear hs
  go_enter Try.func24, Try.ntmps24
  go_wp2
  go_loopg [6] N (fun gn i wr => ∃ j : Nat, j ≤ N ∧ gn = N - j ∧ i = .int .i64 (j : Int) ∧ Bc wr w.heap.size (s j) ∧ Bc wr (w.heap.size + 1) zeC ∧ Below w.heap.size w wr)
  case atStart => exact ⟨0, by omega, by omega, rfl, by rw [hs0.out]; exact (Bc.new w t0 r0 o0 n0 m0).alloc _, by have := Bc.new (w.alloc (.cells #[.int .i64 t0, .int .i64 r0, .bool o0, .int .i64 n0, .int .i64 m0] 23)) 0 0 false 0 0; rw [heap_size_alloc] at this; exact this, bnew (bnew0 w _) _⟩
  case round =>
    obtain ⟨j, hj, rfl, rfl, hb, hz, hg⟩ := hrel
    obtain ⟨c, hc⟩ : ∃ c, c = s j := ⟨_, rfl⟩
    rw [← hc] at hb
    have HC := hid hc; clear hc
    obtain ⟨t, r, o, n, m⟩ := c
    obtain ⟨c0, c1, c2, c3, c4, f⟩ := hb.all
    by_cases hlt : j < N
    · obtain ⟨c', hc'⟩ : ∃ c', biC ⟨t, r, o, n, m⟩ true = c' := ⟨_, rfl⟩
      obtain ⟨t', r', o', n', m'⟩ := c'
      have hE := bit_at hc'
      have HN := hid hc'; clear hc'
      go_wp2_with (go_at_call 16; (with_reducible refine (hE _).mono ?_); rintro e w1 ⟨rfl, g1⟩; obtain ⟨d0, d1, d2, d3, d4, f1⟩ := (hb.below g1).all; clear c0 c1 c2 c3 c4 f)
      go_roundg (N - (j + 1))
      case measure => omega
      case rel =>
        refine ⟨j + 1, by omega, rfl, by go_num, ?_, (hz.below g1).other (by omega) _ _ _ _ _, below_set5 (bstep hg g1) (by omega) _ _ _ _ _⟩
        rw [show s (j + 1) = ⟨t', r', o', n', m'⟩ by rw [hs1.out, ← HC.out, HN.out]]
        exact (hb.below g1).set _ _ _ _ _
    · obtain rfl : j = N := by omega
      have HE := hid HC.out
      obtain ⟨d0, d1, d2, d3, d4, f1⟩ := hz.all
      go_wp2
      refine bodyPost_ret (v := .agg #[.int .i64 t, .int .i64 r, .bool o, .int .i64 n, .int .i64 m]) (by simp [results, Try.results24, go_sem, d0, d1, d2, d3, d4]) rfl ⟨by rw [← HE.out], below_set5 hg (by omega) _ _ _ _ _⟩
end Go.Proofs.Ytmdjofhkkkfehaa
