/-
  Contract of the document's Event.
-/
import Derived.Test.YtmdjofhkkkfehaaB6d
namespace Go.Proofs.Ytmdjofhkkkfehaa
open Go.RowKit
set_option linter.unusedVariables false

/-- A pair of boxes behind a call, and that the second one may be written. -/
theorem two_five {w w1 : World} {E F : TypeId} {v0 v1 v2 v3 v4 u0 u1 u2 u3 u4 : Value} (g1 : Below ((w.alloc (.cells #[v0, v1, v2, v3, v4] E)).alloc (.cells #[u0, u1, u2, u3, u4] F)).heap.size ((w.alloc (.cells #[v0, v1, v2, v3, v4] E)).alloc (.cells #[u0, u1, u2, u3, u4] F)) w1) :
    (w1.cell? ⟨w.heap.size, 0, none⟩ = some v0 ∧ w1.cell? ⟨w.heap.size, 1, none⟩ = some v1 ∧ w1.cell? ⟨w.heap.size, 2, none⟩ = some v2 ∧ w1.cell? ⟨w.heap.size, 3, none⟩ = some v3 ∧ w1.cell? ⟨w.heap.size, 4, none⟩ = some v4) ∧
    (w1.cell? ⟨w.heap.size + 1, 0, none⟩ = some u0 ∧ w1.cell? ⟨w.heap.size + 1, 1, none⟩ = some u1 ∧ w1.cell? ⟨w.heap.size + 1, 2, none⟩ = some u2 ∧ w1.cell? ⟨w.heap.size + 1, 3, none⟩ = some u3 ∧ w1.cell? ⟨w.heap.size + 1, 4, none⟩ = some u4) ∧
    (∀ i, w1.frozen? ⟨w.heap.size, i, none⟩ = false) ∧ (∀ i, w1.frozen? ⟨w.heap.size + 1, i, none⟩ = false) ∧ Below w.heap.size w w1 := by
  obtain ⟨b1, b2, gg⟩ := two_bx g1
  exact ⟨bx5 b1, bx5 b2, bx_thaw b1, bx_thaw b2, gg⟩

set_option maxHeartbeats 2000000 in
theorem refE_first (w : World) (t r n m : Int) (k : Nat) (h0 : 0 ≤ r) (h1 : r ≤ 255) (t0 : 0 ≤ t) (t1 : t ≤ 255)
    (hR : ∀ w, Calls Try.prog 13 #[.agg #[.int .i64 t, .int .i64 r, .bool false, .int .i64 n, .int .i64 m]] w fun e w' => e = .returned (.bool true) ∧ Below w.heap.size w w') (hk : k = 1) :
    Calls Try.prog 11 #[.agg #[.int .i64 t, .int .i64 r, .bool false, .int .i64 n, .int .i64 m], .int .u8 (k : Int)] w fun e w' => e = .returned (.tuple #[.agg #[.int .i64 (t), .int .i64 (min (r + 1) 255), .bool false, .int .i64 n, .int .i64 m], .int .i64 0]) ∧ Below w.heap.size w w' := by
  have i1 : ¬ 255 < t := by omega
  have i2 : ¬ 255 < r := by omega
  subst hk
  by_cases h : 255 < r + 1
  · rw [show min (r + 1) 255 = 255 by omega]
    go_enter Try.func11, Try.ntmps11
    go_wp2_with (go_at_call 13; (with_reducible refine (hR _).mono ?_); rintro e w1 ⟨rfl, g1⟩; obtain ⟨⟨c0, c1, c2, c3, c4⟩, ⟨d0, d1, d2, d3, d4⟩, f1, f2, gg1⟩ := two_five g1)
    refine bodyPost_ret (v := .tuple #[.agg #[.int .i64 t, .int .i64 255, .bool false, .int .i64 n, .int .i64 m], .int .i64 0]) (by simp [results, Try.results11, go_sem, d0, d1, d2, d3, d4] <;> omega) rfl ⟨rfl, ?_⟩
    repeat (first | with_reducible exact gg1 | with_reducible refine Below.setCell ?_ (by simp) _ | with_reducible refine bnew ?_ _)
  · rw [show min (r + 1) 255 = r + 1 by omega]
    go_enter Try.func11, Try.ntmps11
    go_wp2_with (go_at_call 13; (with_reducible refine (hR _).mono ?_); rintro e w1 ⟨rfl, g1⟩; obtain ⟨⟨c0, c1, c2, c3, c4⟩, ⟨d0, d1, d2, d3, d4⟩, f1, f2, gg1⟩ := two_five g1)
    refine bodyPost_ret (v := .tuple #[.agg #[.int .i64 t, .int .i64 (r + 1), .bool false, .int .i64 n, .int .i64 m], .int .i64 0]) (by simp [results, Try.results11, go_sem, d0, d1, d2, d3, d4] <;> omega) rfl ⟨rfl, ?_⟩
    repeat (first | with_reducible exact gg1 | with_reducible refine Below.setCell ?_ (by simp) _ | with_reducible refine bnew ?_ _)

set_option maxHeartbeats 2000000 in
theorem refE_heavy2 (w : World) (t r n m : Int) (k : Nat) (h0 : 0 ≤ r) (h1 : r ≤ 255) (t0 : 0 ≤ t) (t1 : t ≤ 255)
    (hR : ∀ w, Calls Try.prog 13 #[.agg #[.int .i64 t, .int .i64 r, .bool false, .int .i64 n, .int .i64 m]] w fun e w' => e = .returned (.bool true) ∧ Below w.heap.size w w') (hk : k = 2) :
    Calls Try.prog 11 #[.agg #[.int .i64 t, .int .i64 r, .bool false, .int .i64 n, .int .i64 m], .int .u8 (k : Int)] w fun e w' => e = .returned (.tuple #[.agg #[.int .i64 (t), .int .i64 (min (r + 8) 255), .bool false, .int .i64 n, .int .i64 m], .int .i64 0]) ∧ Below w.heap.size w w' := by
  have i1 : ¬ 255 < t := by omega
  have i2 : ¬ 255 < r := by omega
  subst hk
  by_cases h : 255 < r + 8
  · rw [show min (r + 8) 255 = 255 by omega]
    go_enter Try.func11, Try.ntmps11
    go_wp2_with (go_at_call 13; (with_reducible refine (hR _).mono ?_); rintro e w1 ⟨rfl, g1⟩; obtain ⟨⟨c0, c1, c2, c3, c4⟩, ⟨d0, d1, d2, d3, d4⟩, f1, f2, gg1⟩ := two_five g1)
    refine bodyPost_ret (v := .tuple #[.agg #[.int .i64 t, .int .i64 255, .bool false, .int .i64 n, .int .i64 m], .int .i64 0]) (by simp [results, Try.results11, go_sem, d0, d1, d2, d3, d4] <;> omega) rfl ⟨rfl, ?_⟩
    repeat (first | with_reducible exact gg1 | with_reducible refine Below.setCell ?_ (by simp) _ | with_reducible refine bnew ?_ _)
  · rw [show min (r + 8) 255 = r + 8 by omega]
    go_enter Try.func11, Try.ntmps11
    go_wp2_with (go_at_call 13; (with_reducible refine (hR _).mono ?_); rintro e w1 ⟨rfl, g1⟩; obtain ⟨⟨c0, c1, c2, c3, c4⟩, ⟨d0, d1, d2, d3, d4⟩, f1, f2, gg1⟩ := two_five g1)
    refine bodyPost_ret (v := .tuple #[.agg #[.int .i64 t, .int .i64 (r + 8), .bool false, .int .i64 n, .int .i64 m], .int .i64 0]) (by simp [results, Try.results11, go_sem, d0, d1, d2, d3, d4] <;> omega) rfl ⟨rfl, ?_⟩
    repeat (first | with_reducible exact gg1 | with_reducible refine Below.setCell ?_ (by simp) _ | with_reducible refine bnew ?_ _)

set_option maxHeartbeats 2000000 in
theorem refE_heavy3 (w : World) (t r n m : Int) (k : Nat) (h0 : 0 ≤ r) (h1 : r ≤ 255) (t0 : 0 ≤ t) (t1 : t ≤ 255)
    (hR : ∀ w, Calls Try.prog 13 #[.agg #[.int .i64 t, .int .i64 r, .bool false, .int .i64 n, .int .i64 m]] w fun e w' => e = .returned (.bool true) ∧ Below w.heap.size w w') (hk : k = 3) :
    Calls Try.prog 11 #[.agg #[.int .i64 t, .int .i64 r, .bool false, .int .i64 n, .int .i64 m], .int .u8 (k : Int)] w fun e w' => e = .returned (.tuple #[.agg #[.int .i64 (t), .int .i64 (min (r + 8) 255), .bool false, .int .i64 n, .int .i64 m], .int .i64 0]) ∧ Below w.heap.size w w' := by
  have i1 : ¬ 255 < t := by omega
  have i2 : ¬ 255 < r := by omega
  subst hk
  by_cases h : 255 < r + 8
  · rw [show min (r + 8) 255 = 255 by omega]
    go_enter Try.func11, Try.ntmps11
    go_wp2_with (go_at_call 13; (with_reducible refine (hR _).mono ?_); rintro e w1 ⟨rfl, g1⟩; obtain ⟨⟨c0, c1, c2, c3, c4⟩, ⟨d0, d1, d2, d3, d4⟩, f1, f2, gg1⟩ := two_five g1)
    refine bodyPost_ret (v := .tuple #[.agg #[.int .i64 t, .int .i64 255, .bool false, .int .i64 n, .int .i64 m], .int .i64 0]) (by simp [results, Try.results11, go_sem, d0, d1, d2, d3, d4] <;> omega) rfl ⟨rfl, ?_⟩
    repeat (first | with_reducible exact gg1 | with_reducible refine Below.setCell ?_ (by simp) _ | with_reducible refine bnew ?_ _)
  · rw [show min (r + 8) 255 = r + 8 by omega]
    go_enter Try.func11, Try.ntmps11
    go_wp2_with (go_at_call 13; (with_reducible refine (hR _).mono ?_); rintro e w1 ⟨rfl, g1⟩; obtain ⟨⟨c0, c1, c2, c3, c4⟩, ⟨d0, d1, d2, d3, d4⟩, f1, f2, gg1⟩ := two_five g1)
    refine bodyPost_ret (v := .tuple #[.agg #[.int .i64 t, .int .i64 (r + 8), .bool false, .int .i64 n, .int .i64 m], .int .i64 0]) (by simp [results, Try.results11, go_sem, d0, d1, d2, d3, d4] <;> omega) rfl ⟨rfl, ?_⟩
    repeat (first | with_reducible exact gg1 | with_reducible refine Below.setCell ?_ (by simp) _ | with_reducible refine bnew ?_ _)

set_option maxHeartbeats 2000000 in
theorem refE_heavy4 (w : World) (t r n m : Int) (k : Nat) (h0 : 0 ≤ r) (h1 : r ≤ 255) (t0 : 0 ≤ t) (t1 : t ≤ 255)
    (hR : ∀ w, Calls Try.prog 13 #[.agg #[.int .i64 t, .int .i64 r, .bool false, .int .i64 n, .int .i64 m]] w fun e w' => e = .returned (.bool true) ∧ Below w.heap.size w w') (hk : k = 4) :
    Calls Try.prog 11 #[.agg #[.int .i64 t, .int .i64 r, .bool false, .int .i64 n, .int .i64 m], .int .u8 (k : Int)] w fun e w' => e = .returned (.tuple #[.agg #[.int .i64 (t), .int .i64 (min (r + 8) 255), .bool false, .int .i64 n, .int .i64 m], .int .i64 0]) ∧ Below w.heap.size w w' := by
  have i1 : ¬ 255 < t := by omega
  have i2 : ¬ 255 < r := by omega
  subst hk
  by_cases h : 255 < r + 8
  · rw [show min (r + 8) 255 = 255 by omega]
    go_enter Try.func11, Try.ntmps11
    go_wp2_with (go_at_call 13; (with_reducible refine (hR _).mono ?_); rintro e w1 ⟨rfl, g1⟩; obtain ⟨⟨c0, c1, c2, c3, c4⟩, ⟨d0, d1, d2, d3, d4⟩, f1, f2, gg1⟩ := two_five g1)
    refine bodyPost_ret (v := .tuple #[.agg #[.int .i64 t, .int .i64 255, .bool false, .int .i64 n, .int .i64 m], .int .i64 0]) (by simp [results, Try.results11, go_sem, d0, d1, d2, d3, d4] <;> omega) rfl ⟨rfl, ?_⟩
    repeat (first | with_reducible exact gg1 | with_reducible refine Below.setCell ?_ (by simp) _ | with_reducible refine bnew ?_ _)
  · rw [show min (r + 8) 255 = r + 8 by omega]
    go_enter Try.func11, Try.ntmps11
    go_wp2_with (go_at_call 13; (with_reducible refine (hR _).mono ?_); rintro e w1 ⟨rfl, g1⟩; obtain ⟨⟨c0, c1, c2, c3, c4⟩, ⟨d0, d1, d2, d3, d4⟩, f1, f2, gg1⟩ := two_five g1)
    refine bodyPost_ret (v := .tuple #[.agg #[.int .i64 t, .int .i64 (r + 8), .bool false, .int .i64 n, .int .i64 m], .int .i64 0]) (by simp [results, Try.results11, go_sem, d0, d1, d2, d3, d4] <;> omega) rfl ⟨rfl, ?_⟩
    repeat (first | with_reducible exact gg1 | with_reducible refine Below.setCell ?_ (by simp) _ | with_reducible refine bnew ?_ _)

set_option maxHeartbeats 2000000 in
theorem refE_send5 (w : World) (t r n m : Int) (k : Nat) (h0 : 0 ≤ r) (h1 : r ≤ 255) (t0 : 0 ≤ t) (t1 : t ≤ 255)
    (hR : ∀ w, Calls Try.prog 13 #[.agg #[.int .i64 t, .int .i64 r, .bool false, .int .i64 n, .int .i64 m]] w fun e w' => e = .returned (.bool true) ∧ Below w.heap.size w w') (hk : k = 5) :
    Calls Try.prog 11 #[.agg #[.int .i64 t, .int .i64 r, .bool false, .int .i64 n, .int .i64 m], .int .u8 (k : Int)] w fun e w' => e = .returned (.tuple #[.agg #[.int .i64 (t + 8), .int .i64 (r), .bool (decide (t + 8 > 255)), .int .i64 n, .int .i64 m], .int .i64 0]) ∧ Below w.heap.size w w' := by
  have i1 : ¬ 255 < t := by omega
  have i2 : ¬ 255 < r := by omega
  subst hk
  by_cases h : 255 < t + 8
  · rw [show decide (t + 8 > 255) = true by simp; omega]
    go_enter Try.func11, Try.ntmps11
    go_wp2_with (go_at_call 13; (with_reducible refine (hR _).mono ?_); rintro e w1 ⟨rfl, g1⟩; obtain ⟨⟨c0, c1, c2, c3, c4⟩, ⟨d0, d1, d2, d3, d4⟩, f1, f2, gg1⟩ := two_five g1)
    refine bodyPost_ret (v := .tuple #[.agg #[.int .i64 (t + 8), .int .i64 r, .bool true, .int .i64 n, .int .i64 m], .int .i64 0]) (by simp [results, Try.results11, go_sem, d0, d1, d2, d3, d4] <;> omega) rfl ⟨rfl, ?_⟩
    repeat (first | with_reducible exact gg1 | with_reducible refine Below.setCell ?_ (by simp) _ | with_reducible refine bnew ?_ _)
  · rw [show decide (t + 8 > 255) = false by simp; omega]
    go_enter Try.func11, Try.ntmps11
    go_wp2_with (go_at_call 13; (with_reducible refine (hR _).mono ?_); rintro e w1 ⟨rfl, g1⟩; obtain ⟨⟨c0, c1, c2, c3, c4⟩, ⟨d0, d1, d2, d3, d4⟩, f1, f2, gg1⟩ := two_five g1)
    refine bodyPost_ret (v := .tuple #[.agg #[.int .i64 (t + 8), .int .i64 r, .bool false, .int .i64 n, .int .i64 m], .int .i64 0]) (by simp [results, Try.results11, go_sem, d0, d1, d2, d3, d4] <;> omega) rfl ⟨rfl, ?_⟩
    repeat (first | with_reducible exact gg1 | with_reducible refine Below.setCell ?_ (by simp) _ | with_reducible refine bnew ?_ _)

set_option maxHeartbeats 2000000 in
theorem refE_send6 (w : World) (t r n m : Int) (k : Nat) (h0 : 0 ≤ r) (h1 : r ≤ 255) (t0 : 0 ≤ t) (t1 : t ≤ 255)
    (hR : ∀ w, Calls Try.prog 13 #[.agg #[.int .i64 t, .int .i64 r, .bool false, .int .i64 n, .int .i64 m]] w fun e w' => e = .returned (.bool true) ∧ Below w.heap.size w w') (hk : k = 6) :
    Calls Try.prog 11 #[.agg #[.int .i64 t, .int .i64 r, .bool false, .int .i64 n, .int .i64 m], .int .u8 (k : Int)] w fun e w' => e = .returned (.tuple #[.agg #[.int .i64 (t + 8), .int .i64 (r), .bool (decide (t + 8 > 255)), .int .i64 n, .int .i64 m], .int .i64 0]) ∧ Below w.heap.size w w' := by
  have i1 : ¬ 255 < t := by omega
  have i2 : ¬ 255 < r := by omega
  subst hk
  by_cases h : 255 < t + 8
  · rw [show decide (t + 8 > 255) = true by simp; omega]
    go_enter Try.func11, Try.ntmps11
    go_wp2_with (go_at_call 13; (with_reducible refine (hR _).mono ?_); rintro e w1 ⟨rfl, g1⟩; obtain ⟨⟨c0, c1, c2, c3, c4⟩, ⟨d0, d1, d2, d3, d4⟩, f1, f2, gg1⟩ := two_five g1)
    refine bodyPost_ret (v := .tuple #[.agg #[.int .i64 (t + 8), .int .i64 r, .bool true, .int .i64 n, .int .i64 m], .int .i64 0]) (by simp [results, Try.results11, go_sem, d0, d1, d2, d3, d4] <;> omega) rfl ⟨rfl, ?_⟩
    repeat (first | with_reducible exact gg1 | with_reducible refine Below.setCell ?_ (by simp) _ | with_reducible refine bnew ?_ _)
  · rw [show decide (t + 8 > 255) = false by simp; omega]
    go_enter Try.func11, Try.ntmps11
    go_wp2_with (go_at_call 13; (with_reducible refine (hR _).mono ?_); rintro e w1 ⟨rfl, g1⟩; obtain ⟨⟨c0, c1, c2, c3, c4⟩, ⟨d0, d1, d2, d3, d4⟩, f1, f2, gg1⟩ := two_five g1)
    refine bodyPost_ret (v := .tuple #[.agg #[.int .i64 (t + 8), .int .i64 r, .bool false, .int .i64 n, .int .i64 m], .int .i64 0]) (by simp [results, Try.results11, go_sem, d0, d1, d2, d3, d4] <;> omega) rfl ⟨rfl, ?_⟩
    repeat (first | with_reducible exact gg1 | with_reducible refine Below.setCell ?_ (by simp) _ | with_reducible refine bnew ?_ _)

set_option maxHeartbeats 2000000 in
theorem refE_send7 (w : World) (t r n m : Int) (k : Nat) (h0 : 0 ≤ r) (h1 : r ≤ 255) (t0 : 0 ≤ t) (t1 : t ≤ 255)
    (hR : ∀ w, Calls Try.prog 13 #[.agg #[.int .i64 t, .int .i64 r, .bool false, .int .i64 n, .int .i64 m]] w fun e w' => e = .returned (.bool true) ∧ Below w.heap.size w w') (hk : k = 7) :
    Calls Try.prog 11 #[.agg #[.int .i64 t, .int .i64 r, .bool false, .int .i64 n, .int .i64 m], .int .u8 (k : Int)] w fun e w' => e = .returned (.tuple #[.agg #[.int .i64 (t + 8), .int .i64 (r), .bool (decide (t + 8 > 255)), .int .i64 n, .int .i64 m], .int .i64 0]) ∧ Below w.heap.size w w' := by
  have i1 : ¬ 255 < t := by omega
  have i2 : ¬ 255 < r := by omega
  subst hk
  by_cases h : 255 < t + 8
  · rw [show decide (t + 8 > 255) = true by simp; omega]
    go_enter Try.func11, Try.ntmps11
    go_wp2_with (go_at_call 13; (with_reducible refine (hR _).mono ?_); rintro e w1 ⟨rfl, g1⟩; obtain ⟨⟨c0, c1, c2, c3, c4⟩, ⟨d0, d1, d2, d3, d4⟩, f1, f2, gg1⟩ := two_five g1)
    refine bodyPost_ret (v := .tuple #[.agg #[.int .i64 (t + 8), .int .i64 r, .bool true, .int .i64 n, .int .i64 m], .int .i64 0]) (by simp [results, Try.results11, go_sem, d0, d1, d2, d3, d4] <;> omega) rfl ⟨rfl, ?_⟩
    repeat (first | with_reducible exact gg1 | with_reducible refine Below.setCell ?_ (by simp) _ | with_reducible refine bnew ?_ _)
  · rw [show decide (t + 8 > 255) = false by simp; omega]
    go_enter Try.func11, Try.ntmps11
    go_wp2_with (go_at_call 13; (with_reducible refine (hR _).mono ?_); rintro e w1 ⟨rfl, g1⟩; obtain ⟨⟨c0, c1, c2, c3, c4⟩, ⟨d0, d1, d2, d3, d4⟩, f1, f2, gg1⟩ := two_five g1)
    refine bodyPost_ret (v := .tuple #[.agg #[.int .i64 (t + 8), .int .i64 r, .bool false, .int .i64 n, .int .i64 m], .int .i64 0]) (by simp [results, Try.results11, go_sem, d0, d1, d2, d3, d4] <;> omega) rfl ⟨rfl, ?_⟩
    repeat (first | with_reducible exact gg1 | with_reducible refine Below.setCell ?_ (by simp) _ | with_reducible refine bnew ?_ _)

set_option maxHeartbeats 2000000 in
theorem refE_sent (w : World) (t r n m : Int) (k : Nat) (h0 : 0 ≤ r) (h1 : r ≤ 255) (t0 : 0 ≤ t) (t1 : t ≤ 255)
    (hR : ∀ w, Calls Try.prog 13 #[.agg #[.int .i64 t, .int .i64 r, .bool false, .int .i64 n, .int .i64 m]] w fun e w' => e = .returned (.bool true) ∧ Below w.heap.size w w') (hk : k = 8) :
    Calls Try.prog 11 #[.agg #[.int .i64 t, .int .i64 r, .bool false, .int .i64 n, .int .i64 m], .int .u8 (k : Int)] w fun e w' => e = .returned (.tuple #[.agg #[.int .i64 (max (t - 1) 0), .int .i64 (r), .bool false, .int .i64 n, .int .i64 m], .int .i64 0]) ∧ Below w.heap.size w w' := by
  have i1 : ¬ 255 < t := by omega
  have i2 : ¬ 255 < r := by omega
  subst hk
  by_cases h : 0 < t
  · rw [show max (t - 1) 0 = t - 1 by omega]
    have i3 : ¬ 255 < t - 1 := by omega
    go_enter Try.func11, Try.ntmps11
    go_wp2_with (go_at_call 13; (with_reducible refine (hR _).mono ?_); rintro e w1 ⟨rfl, g1⟩; obtain ⟨⟨c0, c1, c2, c3, c4⟩, ⟨d0, d1, d2, d3, d4⟩, f1, f2, gg1⟩ := two_five g1)
    refine bodyPost_ret (v := .tuple #[.agg #[.int .i64 (t - 1), .int .i64 r, .bool false, .int .i64 n, .int .i64 m], .int .i64 0]) (by simp [results, Try.results11, go_sem, d0, d1, d2, d3, d4] <;> omega) rfl ⟨rfl, ?_⟩
    repeat (first | with_reducible exact gg1 | with_reducible refine Below.setCell ?_ (by simp) _ | with_reducible refine bnew ?_ _)
  · rw [show max (t - 1) 0 = t by omega]
    go_enter Try.func11, Try.ntmps11
    go_wp2_with (go_at_call 13; (with_reducible refine (hR _).mono ?_); rintro e w1 ⟨rfl, g1⟩; obtain ⟨⟨c0, c1, c2, c3, c4⟩, ⟨d0, d1, d2, d3, d4⟩, f1, f2, gg1⟩ := two_five g1)
    refine bodyPost_ret (v := .tuple #[.agg #[.int .i64 t, .int .i64 r, .bool false, .int .i64 n, .int .i64 m], .int .i64 0]) (by simp [results, Try.results11, go_sem, d0, d1, d2, d3, d4] <;> omega) rfl ⟨rfl, ?_⟩
    repeat (first | with_reducible exact gg1 | with_reducible refine Below.setCell ?_ (by simp) _ | with_reducible refine bnew ?_ _)

set_option maxHeartbeats 2000000 in
theorem refE_took (w : World) (t r n m : Int) (k : Nat) (h0 : 0 ≤ r) (h1 : r ≤ 255) (t0 : 0 ≤ t) (t1 : t ≤ 255)
    (hR : ∀ w, Calls Try.prog 13 #[.agg #[.int .i64 t, .int .i64 r, .bool false, .int .i64 n, .int .i64 m]] w fun e w' => e = .returned (.bool true) ∧ Below w.heap.size w w') (hk : k = 9) :
    Calls Try.prog 11 #[.agg #[.int .i64 t, .int .i64 r, .bool false, .int .i64 n, .int .i64 m], .int .u8 (k : Int)] w fun e w' => e = .returned (.tuple #[.agg #[.int .i64 (t), .int .i64 (if 127 < r then 119 else max (r - 1) 0), .bool false, .int .i64 n, .int .i64 m], .int .i64 0]) ∧ Below w.heap.size w w' := by
  have i1 : ¬ 255 < t := by omega
  have i2 : ¬ 255 < r := by omega
  subst hk
  by_cases h : 127 < r
  · rw [if_pos h]
    go_enter Try.func11, Try.ntmps11
    go_wp2_with (go_at_call 13; (with_reducible refine (hR _).mono ?_); rintro e w1 ⟨rfl, g1⟩; obtain ⟨⟨c0, c1, c2, c3, c4⟩, ⟨d0, d1, d2, d3, d4⟩, f1, f2, gg1⟩ := two_five g1)
    refine bodyPost_ret (v := .tuple #[.agg #[.int .i64 t, .int .i64 119, .bool false, .int .i64 n, .int .i64 m], .int .i64 0]) (by simp [results, Try.results11, go_sem, d0, d1, d2, d3, d4] <;> omega) rfl ⟨rfl, ?_⟩
    repeat (first | with_reducible exact gg1 | with_reducible refine Below.setCell ?_ (by simp) _ | with_reducible refine bnew ?_ _)
  rw [if_neg h]
  by_cases h2 : 0 < r
  · rw [show max (r - 1) 0 = r - 1 by omega]
    have i3 : ¬ 255 < r - 1 := by omega
    go_enter Try.func11, Try.ntmps11
    go_wp2_with (go_at_call 13; (with_reducible refine (hR _).mono ?_); rintro e w1 ⟨rfl, g1⟩; obtain ⟨⟨c0, c1, c2, c3, c4⟩, ⟨d0, d1, d2, d3, d4⟩, f1, f2, gg1⟩ := two_five g1)
    refine bodyPost_ret (v := .tuple #[.agg #[.int .i64 t, .int .i64 (r - 1), .bool false, .int .i64 n, .int .i64 m], .int .i64 0]) (by simp [results, Try.results11, go_sem, d0, d1, d2, d3, d4] <;> omega) rfl ⟨rfl, ?_⟩
    repeat (first | with_reducible exact gg1 | with_reducible refine Below.setCell ?_ (by simp) _ | with_reducible refine bnew ?_ _)
  · rw [show max (r - 1) 0 = r by omega]
    go_enter Try.func11, Try.ntmps11
    go_wp2_with (go_at_call 13; (with_reducible refine (hR _).mono ?_); rintro e w1 ⟨rfl, g1⟩; obtain ⟨⟨c0, c1, c2, c3, c4⟩, ⟨d0, d1, d2, d3, d4⟩, f1, f2, gg1⟩ := two_five g1)
    refine bodyPost_ret (v := .tuple #[.agg #[.int .i64 t, .int .i64 r, .bool false, .int .i64 n, .int .i64 m], .int .i64 0]) (by simp [results, Try.results11, go_sem, d0, d1, d2, d3, d4] <;> omega) rfl ⟨rfl, ?_⟩
    repeat (first | with_reducible exact gg1 | with_reducible refine Below.setCell ?_ (by simp) _ | with_reducible refine bnew ?_ _)
end Go.Proofs.Ytmdjofhkkkfehaa
