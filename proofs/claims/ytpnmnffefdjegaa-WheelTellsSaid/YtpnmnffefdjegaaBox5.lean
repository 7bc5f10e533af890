/-
  A box of five cells, and one box behind a call: for every seat.
-/
import Derived.Test.YtpnmnffefdjegaaBase2
namespace Go.Proofs.Ytpnmnffefdjegaa
open Go.RowKit
set_option linter.unusedVariables false

/-- A box of five cells. -/
theorem bx5 {w : World} {g : Nat} {E : TypeId} {v0 v1 v2 v3 v4 : Value} (h : w.heap[g]? = some (.cells #[v0, v1, v2, v3, v4] E (0, 0))) :
    w.cell? ⟨g, 0, none⟩ = some v0 ∧ w.cell? ⟨g, 1, none⟩ = some v1 ∧ w.cell? ⟨g, 2, none⟩ = some v2 ∧ w.cell? ⟨g, 3, none⟩ = some v3 ∧ w.cell? ⟨g, 4, none⟩ = some v4 :=
  ⟨by rw [cell_of_row w g 0 _ _ _ h]; rfl, by rw [cell_of_row w g 1 _ _ _ h]; rfl, by rw [cell_of_row w g 2 _ _ _ h]; rfl, by rw [cell_of_row w g 3 _ _ _ h]; rfl, by rw [cell_of_row w g 4 _ _ _ h]; rfl⟩

theorem bx_thaw {w : World} {g : Nat} {E : TypeId} {vs : Array Value} (h : w.heap[g]? = some (.cells vs E (0, 0))) (i : Nat) : w.frozen? ⟨g, i, none⟩ = false := frozen_of_row w g i _ _ h

theorem one_bx {w w1 : World} {E : TypeId} {u : Array Value} (g1 : Below (w.alloc (.cells u E)).heap.size (w.alloc (.cells u E)) w1) : w1.heap[w.heap.size]? = some (.cells u E (0, 0)) ∧ Below w.heap.size w w1 ∧ w.heap.size + 1 ≤ w1.heap.size :=
  ⟨bx_below (heap_alloc_new _ _) g1, (bnew0 w _).trans (g1.mono (by simp)), by have := g1.size; rw [heap_size_alloc] at this; exact this⟩
end Go.Proofs.Ytpnmnffefdjegaa
