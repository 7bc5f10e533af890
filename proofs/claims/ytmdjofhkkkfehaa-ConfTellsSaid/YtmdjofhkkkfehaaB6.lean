/-
  Contracts of within, Right, Mode (the program's and the document's).
-/
import Derived.Test.YtmdjofhkkkfehaaM6
import Derived.Test.YtmdjofhkkkfehaaBase2
namespace Go.Proofs.Ytmdjofhkkkfehaa
open Go.RowKit
set_option linter.unusedVariables false

/-- A box of five cells. -/
theorem bx5 {w : World} {g : Nat} {E : TypeId} {v0 v1 v2 v3 v4 : Value} (h : w.heap[g]? = some (.cells #[v0, v1, v2, v3, v4] E (0, 0))) :
    w.cell? ⟨g, 0, none⟩ = some v0 ∧ w.cell? ⟨g, 1, none⟩ = some v1 ∧ w.cell? ⟨g, 2, none⟩ = some v2 ∧ w.cell? ⟨g, 3, none⟩ = some v3 ∧ w.cell? ⟨g, 4, none⟩ = some v4 :=
  ⟨by rw [cell_of_row w g 0 _ _ _ h]; rfl, by rw [cell_of_row w g 1 _ _ _ h]; rfl, by rw [cell_of_row w g 2 _ _ _ h]; rfl, by rw [cell_of_row w g 3 _ _ _ h]; rfl, by rw [cell_of_row w g 4 _ _ _ h]; rfl⟩

theorem bx_thaw {w : World} {g : Nat} {E : TypeId} {vs : Array Value} (h : w.heap[g]? = some (.cells vs E (0, 0))) (i : Nat) : w.frozen? ⟨g, i, none⟩ = false := frozen_of_row w g i _ _ h

theorem one_bx {w w1 : World} {E : TypeId} {u : Array Value} (g1 : Below (w.alloc (.cells u E)).heap.size (w.alloc (.cells u E)) w1) : w1.heap[w.heap.size]? = some (.cells u E (0, 0)) ∧ Below w.heap.size w w1 ∧ w.heap.size + 1 ≤ w1.heap.size :=
  ⟨bx_below (heap_alloc_new _ _) g1, (bnew0 w _).trans (g1.mono (by simp)), by have := g1.size; rw [heap_size_alloc] at this; exact this⟩

theorem within_any (w : World) (n a b : Int) : Calls Try.prog 21 #[.int .i64 n, .int .i64 a, .int .i64 b] w fun e w' => e = .returned (.bool (wi n a b)) ∧ w = w' := by
  unfold wi
  by_cases h1 : a ≤ n <;> by_cases h2 : n ≤ b
  all_goals
    go_enter Try.func21, Try.ntmps21
    go_wp2
    go_ret
    exact ⟨ret_bool (by simp [h1, h2]), rfl⟩

set_option maxHeartbeats 1000000 in
theorem right_any (w : World) (t r : Int) (o : Bool) (n m : Int) : Calls Try.prog 12 #[.agg #[.int .i64 t, .int .i64 r, .bool o, .int .i64 n, .int .i64 m]] w fun e w' => e = .returned (.bool (riC ⟨t, r, o, n, m⟩)) ∧ Below w.heap.size w w' := by
  have k1 := fun w => within_any w r 0 255
  have k2 := fun w => within_any w t 0 255
  have k3 := fun w => within_any w t 256 263
  have k4 := fun w => within_any w n 0 10
  have k5 := fun w => within_any w m 0 127
  have e : riC ⟨t, r, o, n, m⟩ = (wi r 0 255 && (if o then wi t 256 263 && wi n 0 10 && wi m 0 127 else wi t 0 255 && decide (n = 0) && decide (m = 0))) := rfl
  rw [e]
  clear e
  generalize wi r 0 255 = b1 at k1 ⊢
  generalize wi t 0 255 = b2 at k2 ⊢
  generalize wi t 256 263 = b3 at k3 ⊢
  generalize wi n 0 10 = b4 at k4 ⊢
  generalize wi m 0 127 = b5 at k5 ⊢
  cases b1
  · rw [Bool.false_and]
    go_enter Try.func12, Try.ntmps12
    go_wp2_with (go_at_call 21; (with_reducible refine (k1 _).mono ?_); rintro e w1 ⟨rfl, rfl⟩)
    go_ret
    exact ⟨rfl, bnew0 w _⟩
  cases o
  · cases b2
    · go_enter Try.func12, Try.ntmps12
      go_wp2_with (first
        | (go_at_call 21; (with_reducible refine (k1 _).mono ?_); rintro e w1 ⟨rfl, rfl⟩)
        | (go_at_call 21; (with_reducible refine (k2 _).mono ?_); rintro e w1 ⟨rfl, rfl⟩))
      go_ret
      exact ⟨rfl, bnew0 w _⟩
    · by_cases h1 : n = 0 <;> by_cases h2 : m = 0
      all_goals
        go_enter Try.func12, Try.ntmps12
        go_wp2_with (first
          | (go_at_call 21; (with_reducible refine (k1 _).mono ?_); rintro e w1 ⟨rfl, rfl⟩)
          | (go_at_call 21; (with_reducible refine (k2 _).mono ?_); rintro e w1 ⟨rfl, rfl⟩))
        go_ret
        exact ⟨ret_bool (by simp [h1, h2]), bnew0 w _⟩
  · cases b3
    · go_enter Try.func12, Try.ntmps12
      go_wp2_with (first
        | (go_at_call 21; (with_reducible refine (k1 _).mono ?_); rintro e w1 ⟨rfl, rfl⟩)
        | (go_at_call 21; (with_reducible refine (k3 _).mono ?_); rintro e w1 ⟨rfl, rfl⟩))
      go_ret
      exact ⟨rfl, bnew0 w _⟩
    cases b4
    · go_enter Try.func12, Try.ntmps12
      go_wp2_with (first
        | (go_at_call 21; (with_reducible refine (k1 _).mono ?_); rintro e w1 ⟨rfl, rfl⟩)
        | (go_at_call 21; (with_reducible refine (k3 _).mono ?_); rintro e w1 ⟨rfl, rfl⟩)
        | (go_at_call 21; (with_reducible refine (k4 _).mono ?_); rintro e w1 ⟨rfl, rfl⟩))
      go_ret
      exact ⟨rfl, bnew0 w _⟩
    · go_enter Try.func12, Try.ntmps12
      go_wp2_with (first
        | (go_at_call 21; (with_reducible refine (k1 _).mono ?_); rintro e w1 ⟨rfl, rfl⟩)
        | (go_at_call 21; (with_reducible refine (k3 _).mono ?_); rintro e w1 ⟨rfl, rfl⟩)
        | (go_at_call 21; (with_reducible refine (k4 _).mono ?_); rintro e w1 ⟨rfl, rfl⟩)
        | (go_at_call 21; (with_reducible refine (k5 _).mono ?_); rintro e w1 ⟨rfl, rfl⟩))
      go_ret
      exact ⟨rfl, bnew0 w _⟩
end Go.Proofs.Ytmdjofhkkkfehaa
