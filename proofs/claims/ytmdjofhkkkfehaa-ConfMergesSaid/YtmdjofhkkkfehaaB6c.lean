/-
  Contracts of afterTaking and count.
-/
import Derived.Test.YtmdjofhkkkfehaaB6b
namespace Go.Proofs.Ytmdjofhkkkfehaa
open Go.RowKit
set_option linter.unusedVariables false

theorem after_any (w : World) (r : Int) (h0 : 0 ≤ r) (h1 : r ≤ 255) : Calls Try.prog 25 #[.int .i64 r] w fun e w' => e = .returned (.int .i64 (reA r 9)) ∧ w = w' := by
  by_cases h : 127 < r
  · rw [show reA r 9 = 119 by simp [reA]; omega]
    go_enter Try.func25, Try.ntmps25
    go_wp2
    go_ret
    exact ⟨rfl, rfl⟩
  · obtain ⟨q, hq0⟩ : ∃ q, q = reA r 9 := ⟨_, rfl⟩
    rw [← hq0]
    have hq : q = max (r - 1) 0 := by rw [hq0]; simp [reA]; omega
    have hmax : ∀ (ts : Array TypeId) (t : TypeId) (w' : World), (Builtin.max_ ts t #[.int .i64 (r - 1), .int .i64 0]).run Try.prog w' = .ok (.int .i64 q) w' := fun ts t w' => by
      rw [run_max_int2]; congr 2; split <;> omega
    clear hq hq0
    go_enter Try.func25, Try.ntmps25
    go_wp2
    go_ret
    exact ⟨rfl, rfl⟩

theorem count_first (w : World) (t r n m : Int) (h0 : 0 ≤ r) (h1 : r ≤ 255) (t0 : 0 ≤ t) (t1 : t ≤ 255) :
    Calls Try.prog 22 #[.agg #[.int .i64 t, .int .i64 r, .bool false, .int .i64 n, .int .i64 m], .int .u8 1] w fun e w' => e = .returned (.agg #[.int .i64 t, .int .i64 (reA r 1), .bool false, .int .i64 n, .int .i64 m]) ∧ Below w.heap.size w w' := by
  obtain ⟨q, hq0⟩ : ∃ q, q = reA r 1 := ⟨_, rfl⟩
  rw [← hq0]
  have hq : q = min (r + 1) 255 := by rw [hq0]; simp [reA]
  have hmin : ∀ (ts : Array TypeId) (t : TypeId) (w' : World), (Builtin.min_ ts t #[.int .i64 (r + 1), .int .i64 255]).run Try.prog w' = .ok (.int .i64 q) w' := fun ts t w' => by
    rw [run_min_int2]; congr 2; split <;> omega
  clear hq hq0
  go_enter Try.func22, Try.ntmps22
  go_wp2
  refine bodyPost_ret (v := .agg #[.int .i64 t, .int .i64 q, .bool false, .int .i64 n, .int .i64 m]) (by simp [results, Try.results22, go_sem]) rfl ⟨rfl, ?_⟩
  repeat (first | with_reducible exact bnew0 _ _ | with_reducible refine Below.setCell ?_ (by simp) _ | with_reducible refine bnew ?_ _)

theorem count_heavy (w : World) (t r n m : Int) (k : Nat) (hk : 2 ≤ k ∧ k ≤ 4) (h0 : 0 ≤ r) (h1 : r ≤ 255) (t0 : 0 ≤ t) (t1 : t ≤ 255) :
    Calls Try.prog 22 #[.agg #[.int .i64 t, .int .i64 r, .bool false, .int .i64 n, .int .i64 m], .int .u8 (k : Int)] w fun e w' => e = .returned (.agg #[.int .i64 t, .int .i64 (reA r k), .bool false, .int .i64 n, .int .i64 m]) ∧ Below w.heap.size w w' := by
  obtain ⟨q, hq0⟩ : ∃ q, q = reA r k := ⟨_, rfl⟩
  rw [← hq0]
  have hq : q = min (r + 8) 255 := by rw [hq0]; unfold reA; rw [if_neg (by omega), if_pos (by omega)]
  have hmin : ∀ (ts : Array TypeId) (t : TypeId) (w' : World), (Builtin.min_ ts t #[.int .i64 (r + 7 + 1), .int .i64 255]).run Try.prog w' = .ok (.int .i64 q) w' := fun ts t w' => by
    rw [run_min_int2]; congr 2; split <;> omega
  clear hq hq0
  obtain rfl | rfl | rfl : k = 2 ∨ k = 3 ∨ k = 4 := by omega
  all_goals
    go_enter Try.func22, Try.ntmps22
    go_wp2
    refine bodyPost_ret (v := .agg #[.int .i64 t, .int .i64 q, .bool false, .int .i64 n, .int .i64 m]) (by simp [results, Try.results22, go_sem]) rfl ⟨rfl, ?_⟩
    repeat (first | with_reducible exact bnew0 _ _ | with_reducible refine Below.setCell ?_ (by simp) _ | with_reducible refine bnew ?_ _)

theorem count_send (w : World) (t r n m : Int) (k : Nat) (hk : 5 ≤ k ∧ k ≤ 7) (h0 : 0 ≤ r) (h1 : r ≤ 255) (t0 : 0 ≤ t) (t1 : t ≤ 255) :
    Calls Try.prog 22 #[.agg #[.int .i64 t, .int .i64 r, .bool false, .int .i64 n, .int .i64 m], .int .u8 (k : Int)] w fun e w' => e = .returned (.agg #[.int .i64 (t + 8), .int .i64 r, .bool (decide (t + 8 > 255)), .int .i64 n, .int .i64 m]) ∧ Below w.heap.size w w' := by
  by_cases h : 255 < t + 8
  · have hd : decide (t + 8 > 255) = true := by simp; omega
    rw [hd]; clear hd
    obtain rfl | rfl | rfl : k = 5 ∨ k = 6 ∨ k = 7 := by omega
    all_goals
      go_enter Try.func22, Try.ntmps22
      go_wp2
      refine bodyPost_ret (v := .agg #[.int .i64 (t + 8), .int .i64 r, .bool true, .int .i64 n, .int .i64 m]) (by simp [results, Try.results22, go_sem]) rfl ⟨rfl, ?_⟩
      repeat (first | with_reducible exact bnew0 _ _ | with_reducible refine Below.setCell ?_ (by simp) _ | with_reducible refine bnew ?_ _)
  · have hd : decide (t + 8 > 255) = false := by simp; omega
    rw [hd]; clear hd
    obtain rfl | rfl | rfl : k = 5 ∨ k = 6 ∨ k = 7 := by omega
    all_goals
      go_enter Try.func22, Try.ntmps22
      go_wp2
      refine bodyPost_ret (v := .agg #[.int .i64 (t + 8), .int .i64 r, .bool false, .int .i64 n, .int .i64 m]) (by simp [results, Try.results22, go_sem]) rfl ⟨rfl, ?_⟩
      repeat (first | with_reducible exact bnew0 _ _ | with_reducible refine Below.setCell ?_ (by simp) _ | with_reducible refine bnew ?_ _)

theorem count_sent (w : World) (t r n m : Int) (h0 : 0 ≤ r) (h1 : r ≤ 255) (t0 : 0 ≤ t) (t1 : t ≤ 255) :
    Calls Try.prog 22 #[.agg #[.int .i64 t, .int .i64 r, .bool false, .int .i64 n, .int .i64 m], .int .u8 8] w fun e w' => e = .returned (.agg #[.int .i64 (teA t 8), .int .i64 r, .bool false, .int .i64 n, .int .i64 m]) ∧ Below w.heap.size w w' := by
  obtain ⟨q, hq0⟩ : ∃ q, q = teA t 8 := ⟨_, rfl⟩
  rw [← hq0]
  have hq : q = max (t - 1) 0 := by rw [hq0]; simp [teA]
  have hmax : ∀ (ts : Array TypeId) (ty : TypeId) (w' : World), (Builtin.max_ ts ty #[.int .i64 (t - 1), .int .i64 0]).run Try.prog w' = .ok (.int .i64 q) w' := fun ts t w' => by
    rw [run_max_int2]; congr 2; split <;> omega
  clear hq hq0
  go_enter Try.func22, Try.ntmps22
  go_wp2
  refine bodyPost_ret (v := .agg #[.int .i64 q, .int .i64 r, .bool false, .int .i64 n, .int .i64 m]) (by simp [results, Try.results22, go_sem]) rfl ⟨rfl, ?_⟩
  repeat (first | with_reducible exact bnew0 _ _ | with_reducible refine Below.setCell ?_ (by simp) _ | with_reducible refine bnew ?_ _)

theorem count_took (w : World) (t r n m : Int) (h0 : 0 ≤ r) (h1 : r ≤ 255) (t0 : 0 ≤ t) (t1 : t ≤ 255) :
    Calls Try.prog 22 #[.agg #[.int .i64 t, .int .i64 r, .bool false, .int .i64 n, .int .i64 m], .int .u8 9] w fun e w' => e = .returned (.agg #[.int .i64 t, .int .i64 (reA r 9), .bool false, .int .i64 n, .int .i64 m]) ∧ Below w.heap.size w w' := by
  have k := fun w => after_any w r h0 h1
  generalize reA r 9 = q at k ⊢
  go_enter Try.func22, Try.ntmps22
  go_wp2_with (go_at_call 25; (with_reducible refine (k _).mono ?_); rintro e w1 ⟨rfl, rfl⟩)
  refine bodyPost_ret (v := .agg #[.int .i64 t, .int .i64 q, .bool false, .int .i64 n, .int .i64 m]) (by simp [results, Try.results22, go_sem]) rfl ⟨rfl, ?_⟩
  repeat (first | with_reducible exact bnew0 _ _ | with_reducible refine Below.setCell ?_ (by simp) _ | with_reducible refine bnew ?_ _)

/-- All events of a controller that is on. -/
theorem count_any (w : World) (t r n m : Int) (k : Nat) (h0 : 0 ≤ r) (h1 : r ≤ 255) (t0 : 0 ≤ t) (t1 : t ≤ 255) (hk : 1 ≤ k ∧ k ≤ 9) :
    Calls Try.prog 22 #[.agg #[.int .i64 t, .int .i64 r, .bool false, .int .i64 n, .int .i64 m], .int .u8 (k : Int)] w fun e w' => e = .returned (.agg #[.int .i64 (teA t k), .int .i64 (reA r k), .bool (decide (teA t k > 255)), .int .i64 n, .int .i64 m]) ∧ Below w.heap.size w w' := by
  by_cases a1 : k = 1
  · subst a1
    rw [show teA t 1 = t from rfl, show decide (t > 255) = false by simp; omega]
    exact count_first w t r n m h0 h1 t0 t1
  by_cases a2 : k ≤ 4
  · rw [show teA t k = t by unfold teA; rw [if_neg (by omega), if_neg (by omega)], show decide (t > 255) = false by simp; omega]
    exact count_heavy w t r n m k (by omega) h0 h1 t0 t1
  by_cases a3 : k ≤ 7
  · rw [show teA t k = t + 8 by unfold teA; rw [if_pos (by omega)], show reA r k = r by unfold reA; rw [if_neg (by omega), if_neg (by omega), if_neg (by omega)]]
    exact count_send w t r n m k (by omega) h0 h1 t0 t1
  by_cases a4 : k = 8
  · subst a4
    rw [show decide (teA t 8 > 255) = false by simp [teA]; omega, show reA r 8 = r from rfl]
    exact count_sent w t r n m h0 h1 t0 t1
  · obtain rfl : k = 9 := by omega
    rw [show teA t 9 = t from rfl, show decide (t > 255) = false by simp; omega]
    exact count_took w t r n m h0 h1 t0 t1
end Go.Proofs.Ytmdjofhkkkfehaa
