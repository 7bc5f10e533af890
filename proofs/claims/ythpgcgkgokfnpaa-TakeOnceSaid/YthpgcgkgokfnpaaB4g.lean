/-
  Contracts of Before (the program's and the document's).
-/
import Derived.Test.YthpgcgkgokfnpaaB4e
import Derived.WalkSmall
namespace Go.Proofs.Ythpgcgkgokfnpaa
open Go.RowKit Go.Sort
set_option linter.unusedVariables false

/-- Whether the first row wins against the second one. -/
def bfL : List Bool → List Bool → Bool
  | x :: l, y :: m => if x = y then bfL l m else y
  | _, _ => false

theorem bfL_step {l m : List Bool} {k : Nat} {x : Bool} (h1 : l[k]? = some x) (h2 : m[k]? = some x) : bfL (l.drop (k + 1)) (m.drop (k + 1)) = bfL (l.drop k) (m.drop k) := by
  rw [drop_at h1, drop_at h2]; simp [bfL]

theorem bfL_stop {l m : List Bool} {k : Nat} {x y : Bool} (h1 : l[k]? = some x) (h2 : m[k]? = some y) (h : x ≠ y) : bfL (l.drop k) (m.drop k) = y := by
  rw [drop_at h1, drop_at h2]; simp [bfL, h]

theorem bfL_end {l m : List Bool} {k : Nat} (h : l.length ≤ k ∨ m.length ≤ k) : bfL (l.drop k) (m.drop k) = false := by
  rcases h with h | h
  · rw [List.drop_eq_nil_of_le h]; simp [bfL]
  · rw [List.drop_eq_nil_of_le h]; cases l.drop k <;> simp [bfL]

theorem boxed2 (w : World) (E : TypeId) (u v : Array Value) : ∃ w0, Hid ((w.alloc (.cells u E)).alloc (.cells v E) = w0) ∧ w0.heap[w.heap.size]? = some (.cells u E (0, 0)) ∧ w0.heap[w.heap.size + 1]? = some (.cells v E (0, 0)) ∧ Below w.heap.size w w0 := by
  obtain ⟨h1, h2, h3⟩ := two_bx (w := w) (E := E) (F := E) (u := u) (v := v) (Below.refl _ _)
  exact ⟨_, rfl, h1, h2, h3⟩

theorem held10 {w0 w' : World} {g g' : Nat} {E : TypeId} {v0 v1 v2 v3 v4 u0 u1 u2 u3 u4 : Value} (h : w0.heap[g]? = some (.cells #[v0, v1, v2, v3, v4] E (0, 0))) (h' : w0.heap[g']? = some (.cells #[u0, u1, u2, u3, u4] E (0, 0))) (hb : Below w0.heap.size w0 w') :
    w'.cell? ⟨g, 0, none⟩ = some v0 ∧ w'.cell? ⟨g, 1, none⟩ = some v1 ∧ w'.cell? ⟨g, 2, none⟩ = some v2 ∧ w'.cell? ⟨g, 3, none⟩ = some v3 ∧ w'.cell? ⟨g, 4, none⟩ = some v4 ∧
    w'.cell? ⟨g', 0, none⟩ = some u0 ∧ w'.cell? ⟨g', 1, none⟩ = some u1 ∧ w'.cell? ⟨g', 2, none⟩ = some u2 ∧ w'.cell? ⟨g', 3, none⟩ = some u3 ∧ w'.cell? ⟨g', 4, none⟩ = some u4 ∧ Below w0.heap.size w0 w' := by
  obtain ⟨k0, k1, k2, k3, k4⟩ := bx5 (bx_below h hb)
  obtain ⟨q0, q1, q2, q3, q4⟩ := bx5 (bx_below h' hb)
  exact ⟨k0, k1, k2, k3, k4, q0, q1, q2, q3, q4, hb⟩

end Go.Proofs.Ythpgcgkgokfnpaa
