/-
  Texts of this place, put together: B6f, B8, B8d, B8f, B8k. What stands here is used by the statement; conditions: none of their own.
-/
import Derived.Test.YtajdbimdiodalaaGreatZc3
import Derived.WalkSmall
import Derived.Lib.QuietBelow
import Derived.Laws.Tables
import Derived.Laws.Rows
import Derived.StillTailTactics
import Derived.Laws.EntriesVeiled
import Derived.Deep.QuietTactic
import Derived.BigQuiet
namespace Go.Proofs.YtajdbimdiodalaaGreat
open Go.RowKit
set_option linter.unusedVariables false

/-- The wire of ID 1 without data, and what it is read as. -/
def W1 : List Bool := wiL ⟨1, false, false, 0, []⟩
end Go.Proofs.YtajdbimdiodalaaGreat

namespace Go.Proofs.YtajdbimdiodalaaGreat
open Go.RowKit
set_option linter.unusedVariables false

theorem within_any (w : World) (n a b : Int) : Calls Tryz.prog 188 #[.int .i64 n, .int .i64 a, .int .i64 b] w fun e w' => e = .returned (.bool (wi n a b)) ∧ w = w' := by
  unfold wi
  by_cases h1 : a ≤ n <;> by_cases h2 : n ≤ b
  all_goals
    go_enter Tryz.func188, Tryz.ntmps188
    go_wp2
    go_ret
    exact ⟨ret_bool (by simp [h1, h2]), rfl⟩

set_option maxHeartbeats 1000000 in
theorem cRight_any (w : World) (t r : Int) (o : Bool) (n m : Int) : Calls Tryz.prog 176 #[.agg #[.int .i64 t, .int .i64 r, .bool o, .int .i64 n, .int .i64 m]] w fun e w' => e = .returned (.bool (riC ⟨t, r, o, n, m⟩)) ∧ Below w.heap.size w w' := by
  have k1 := fun w => within_any w r 0 255
  have k2 := fun w => within_any w t 0 255
  have k3 := fun w => within_any w t 256 263
  have k4 := fun w => within_any w n 0 10
  have k5 := fun w => within_any w m 0 127
  have e : riC ⟨t, r, o, n, m⟩ = (wi r 0 255 && (if o then wi t 256 263 && wi n 0 10 && wi m 0 127 else wi t 0 255 && decide (n = 0) && decide (m = 0))) := rfl
  rw [e]
  clear e
  generalize wi r 0 255 = b1 at k1 ⊢
  generalize wi t 0 255 = b2 at k2 ⊢
  generalize wi t 256 263 = b3 at k3 ⊢
  generalize wi n 0 10 = b4 at k4 ⊢
  generalize wi m 0 127 = b5 at k5 ⊢
  cases b1
  · rw [Bool.false_and]
    go_enter Tryz.func176, Tryz.ntmps176
    go_wp2_with (go_at_call 188; (with_reducible refine (k1 _).mono ?_); rintro e w1 ⟨rfl, rfl⟩)
    go_ret
    exact ⟨rfl, bnew0 w _⟩
  cases o
  · cases b2
    · go_enter Tryz.func176, Tryz.ntmps176
      go_wp2_with (first
        | (go_at_call 188; (with_reducible refine (k1 _).mono ?_); rintro e w1 ⟨rfl, rfl⟩)
        | (go_at_call 188; (with_reducible refine (k2 _).mono ?_); rintro e w1 ⟨rfl, rfl⟩))
      go_ret
      exact ⟨rfl, bnew0 w _⟩
    · by_cases h1 : n = 0 <;> by_cases h2 : m = 0
      all_goals
        go_enter Tryz.func176, Tryz.ntmps176
        go_wp2_with (first
          | (go_at_call 188; (with_reducible refine (k1 _).mono ?_); rintro e w1 ⟨rfl, rfl⟩)
          | (go_at_call 188; (with_reducible refine (k2 _).mono ?_); rintro e w1 ⟨rfl, rfl⟩))
        go_ret
        exact ⟨ret_bool (by simp [h2]), bnew0 w _⟩
  · cases b3
    · go_enter Tryz.func176, Tryz.ntmps176
      go_wp2_with (first
        | (go_at_call 188; (with_reducible refine (k1 _).mono ?_); rintro e w1 ⟨rfl, rfl⟩)
        | (go_at_call 188; (with_reducible refine (k3 _).mono ?_); rintro e w1 ⟨rfl, rfl⟩))
      go_ret
      exact ⟨rfl, bnew0 w _⟩
    cases b4
    · go_enter Tryz.func176, Tryz.ntmps176
      go_wp2_with (first
        | (go_at_call 188; (with_reducible refine (k1 _).mono ?_); rintro e w1 ⟨rfl, rfl⟩)
        | (go_at_call 188; (with_reducible refine (k3 _).mono ?_); rintro e w1 ⟨rfl, rfl⟩)
        | (go_at_call 188; (with_reducible refine (k4 _).mono ?_); rintro e w1 ⟨rfl, rfl⟩))
      go_ret
      exact ⟨rfl, bnew0 w _⟩
    · go_enter Tryz.func176, Tryz.ntmps176
      go_wp2_with (first
        | (go_at_call 188; (with_reducible refine (k1 _).mono ?_); rintro e w1 ⟨rfl, rfl⟩)
        | (go_at_call 188; (with_reducible refine (k3 _).mono ?_); rintro e w1 ⟨rfl, rfl⟩)
        | (go_at_call 188; (with_reducible refine (k4 _).mono ?_); rintro e w1 ⟨rfl, rfl⟩)
        | (go_at_call 188; (with_reducible refine (k5 _).mono ?_); rintro e w1 ⟨rfl, rfl⟩))
      go_ret
      exact ⟨rfl, bnew0 w _⟩
end Go.Proofs.YtajdbimdiodalaaGreat

namespace Go.Proofs.YtajdbimdiodalaaGreat
open Go.RowKit
set_option linter.unusedVariables false

theorem mode_any (w : World) (t r : Int) (o : Bool) (n m : Int) : Calls Tryz.prog 175 #[.agg #[.int .i64 t, .int .i64 r, .bool o, .int .i64 n, .int .i64 m]] w fun e w' => e = .returned (.int .u8 (moC ⟨t, r, o, n, m⟩ : Int)) ∧ Below w.heap.size w w' := by
  cases o
  · have k := fun w => cRight_any w t r false n m
    obtain ⟨q, hq⟩ : ∃ q, q = moC ⟨t, r, false, n, m⟩ := ⟨_, rfl⟩
    rw [← hq]
    simp only [moC, Bool.false_or] at hq
    generalize riC ⟨t, r, false, n, m⟩ = b at k hq
    cases b
    · obtain rfl : q = 2 := hq
      go_enter Tryz.func175, Tryz.ntmps175
      go_wp2_with (go_at_call 176; (with_reducible refine (k _).mono ?_); rintro e w1 ⟨rfl, g1⟩)
      go_ret
      exact ⟨rfl, (one_bx g1).2.1⟩
    · by_cases h1 : 127 < t
      · obtain rfl : q = 1 := by rw [hq]; simp; omega
        clear hq
        go_enter Tryz.func175, Tryz.ntmps175
        go_wp2_with (go_at_call 176; (with_reducible refine (k _).mono ?_); rintro e w1 ⟨rfl, g1⟩; obtain ⟨b1, gg1, _⟩ := one_bx g1; obtain ⟨c0, c1, c2, c3, c4⟩ := bx5 b1)
        go_ret
        exact ⟨rfl, gg1⟩
      by_cases h2 : 127 < r
      · obtain rfl : q = 1 := by rw [hq]; simp; omega
        clear hq
        go_enter Tryz.func175, Tryz.ntmps175
        go_wp2_with (go_at_call 176; (with_reducible refine (k _).mono ?_); rintro e w1 ⟨rfl, g1⟩; obtain ⟨b1, gg1, _⟩ := one_bx g1; obtain ⟨c0, c1, c2, c3, c4⟩ := bx5 b1)
        go_ret
        exact ⟨rfl, gg1⟩
      · obtain rfl : q = 0 := by rw [hq]; simp; omega
        clear hq
        go_enter Tryz.func175, Tryz.ntmps175
        go_wp2_with (go_at_call 176; (with_reducible refine (k _).mono ?_); rintro e w1 ⟨rfl, g1⟩; obtain ⟨b1, gg1, _⟩ := one_bx g1; obtain ⟨c0, c1, c2, c3, c4⟩ := bx5 b1)
        go_ret
        exact ⟨rfl, gg1⟩
  · rw [show moC ⟨t, r, true, n, m⟩ = 2 from rfl]
    go_enter Tryz.func175, Tryz.ntmps175
    go_wp2
    go_ret
    exact ⟨rfl, bnew0 w _⟩

end Go.Proofs.YtajdbimdiodalaaGreat

namespace Go.Proofs.YtajdbimdiodalaaGreat
open Go.RowKit
set_option linter.unusedVariables false

theorem cAfter_any (w : World) (r : Int) (h0 : 0 ≤ r) (h1 : r ≤ 255) : Calls Tryz.prog 209 #[.int .i64 r] w fun e w' => e = .returned (.int .i64 (reA r 9)) ∧ w = w' := by
  by_cases h : 127 < r
  · rw [show reA r 9 = 119 by simp [reA]; omega]
    go_enter Tryz.func209, Tryz.ntmps209
    go_wp2
    go_ret
    exact ⟨rfl, rfl⟩
  · obtain ⟨q, hq0⟩ : ∃ q, q = reA r 9 := ⟨_, rfl⟩
    rw [← hq0]
    have hq : q = max (r - 1) 0 := by rw [hq0]; simp [reA]; omega
    have hmax : ∀ (ts : Array TypeId) (t : TypeId) (w' : World), (Builtin.max_ ts t #[.int .i64 (r - 1), .int .i64 0]).run Tryz.prog w' = .ok (.int .i64 q) w' := fun ts t w' => by
      rw [run_max_int2]; congr 2; split <;> omega
    clear hq hq0
    go_enter Tryz.func209, Tryz.ntmps209
    go_wp2
    go_ret
    exact ⟨rfl, rfl⟩

theorem count_first (w : World) (t r n m : Int) (h0 : 0 ≤ r) (h1 : r ≤ 255) (t0 : 0 ≤ t) (t1 : t ≤ 255) :
    Calls Tryz.prog 189 #[.agg #[.int .i64 t, .int .i64 r, .bool false, .int .i64 n, .int .i64 m], .int .u8 1] w fun e w' => e = .returned (.agg #[.int .i64 t, .int .i64 (reA r 1), .bool false, .int .i64 n, .int .i64 m]) ∧ Below w.heap.size w w' := by
  obtain ⟨q, hq0⟩ : ∃ q, q = reA r 1 := ⟨_, rfl⟩
  rw [← hq0]
  have hq : q = min (r + 1) 255 := by rw [hq0]; simp [reA]
  have hmin : ∀ (ts : Array TypeId) (t : TypeId) (w' : World), (Builtin.min_ ts t #[.int .i64 (r + 1), .int .i64 255]).run Tryz.prog w' = .ok (.int .i64 q) w' := fun ts t w' => by
    rw [run_min_int2]; congr 2; split <;> omega
  clear hq hq0
  go_enter Tryz.func189, Tryz.ntmps189
  go_wp2
  refine bodyPost_ret (v := .agg #[.int .i64 t, .int .i64 q, .bool false, .int .i64 n, .int .i64 m]) (by simp [results, Tryz.results189, go_sem]) rfl ⟨rfl, ?_⟩
  repeat (first | with_reducible exact bnew0 _ _ | with_reducible refine Below.setCell ?_ (by simp) _ | with_reducible refine bnew ?_ _)

theorem count_heavy (w : World) (t r n m : Int) (k : Nat) (hk : 2 ≤ k ∧ k ≤ 4) (h0 : 0 ≤ r) (h1 : r ≤ 255) (t0 : 0 ≤ t) (t1 : t ≤ 255) :
    Calls Tryz.prog 189 #[.agg #[.int .i64 t, .int .i64 r, .bool false, .int .i64 n, .int .i64 m], .int .u8 (k : Int)] w fun e w' => e = .returned (.agg #[.int .i64 t, .int .i64 (reA r k), .bool false, .int .i64 n, .int .i64 m]) ∧ Below w.heap.size w w' := by
  obtain ⟨q, hq0⟩ : ∃ q, q = reA r k := ⟨_, rfl⟩
  rw [← hq0]
  have hq : q = min (r + 8) 255 := by rw [hq0]; unfold reA; rw [if_neg (by omega), if_pos (by omega)]
  have hmin : ∀ (ts : Array TypeId) (t : TypeId) (w' : World), (Builtin.min_ ts t #[.int .i64 (r + 7 + 1), .int .i64 255]).run Tryz.prog w' = .ok (.int .i64 q) w' := fun ts t w' => by
    rw [run_min_int2]; congr 2; split <;> omega
  clear hq hq0
  obtain rfl | rfl | rfl : k = 2 ∨ k = 3 ∨ k = 4 := by omega
  all_goals
    go_enter Tryz.func189, Tryz.ntmps189
    go_wp2
    refine bodyPost_ret (v := .agg #[.int .i64 t, .int .i64 q, .bool false, .int .i64 n, .int .i64 m]) (by simp [results, Tryz.results189, go_sem]) rfl ⟨rfl, ?_⟩
    repeat (first | with_reducible exact bnew0 _ _ | with_reducible refine Below.setCell ?_ (by simp) _ | with_reducible refine bnew ?_ _)

theorem count_send (w : World) (t r n m : Int) (k : Nat) (hk : 5 ≤ k ∧ k ≤ 7) (h0 : 0 ≤ r) (h1 : r ≤ 255) (t0 : 0 ≤ t) (t1 : t ≤ 255) :
    Calls Tryz.prog 189 #[.agg #[.int .i64 t, .int .i64 r, .bool false, .int .i64 n, .int .i64 m], .int .u8 (k : Int)] w fun e w' => e = .returned (.agg #[.int .i64 (t + 8), .int .i64 r, .bool (decide (t + 8 > 255)), .int .i64 n, .int .i64 m]) ∧ Below w.heap.size w w' := by
  by_cases h : 255 < t + 8
  · have hd : decide (t + 8 > 255) = true := by simp; omega
    rw [hd]; clear hd
    obtain rfl | rfl | rfl : k = 5 ∨ k = 6 ∨ k = 7 := by omega
    all_goals
      go_enter Tryz.func189, Tryz.ntmps189
      go_wp2
      refine bodyPost_ret (v := .agg #[.int .i64 (t + 8), .int .i64 r, .bool true, .int .i64 n, .int .i64 m]) (by simp [results, Tryz.results189, go_sem]) rfl ⟨rfl, ?_⟩
      repeat (first | with_reducible exact bnew0 _ _ | with_reducible refine Below.setCell ?_ (by simp) _ | with_reducible refine bnew ?_ _)
  · have hd : decide (t + 8 > 255) = false := by simp; omega
    rw [hd]; clear hd
    obtain rfl | rfl | rfl : k = 5 ∨ k = 6 ∨ k = 7 := by omega
    all_goals
      go_enter Tryz.func189, Tryz.ntmps189
      go_wp2
      refine bodyPost_ret (v := .agg #[.int .i64 (t + 8), .int .i64 r, .bool false, .int .i64 n, .int .i64 m]) (by simp [results, Tryz.results189, go_sem]) rfl ⟨rfl, ?_⟩
      repeat (first | with_reducible exact bnew0 _ _ | with_reducible refine Below.setCell ?_ (by simp) _ | with_reducible refine bnew ?_ _)

theorem count_sent (w : World) (t r n m : Int) (h0 : 0 ≤ r) (h1 : r ≤ 255) (t0 : 0 ≤ t) (t1 : t ≤ 255) :
    Calls Tryz.prog 189 #[.agg #[.int .i64 t, .int .i64 r, .bool false, .int .i64 n, .int .i64 m], .int .u8 8] w fun e w' => e = .returned (.agg #[.int .i64 (teA t 8), .int .i64 r, .bool false, .int .i64 n, .int .i64 m]) ∧ Below w.heap.size w w' := by
  obtain ⟨q, hq0⟩ : ∃ q, q = teA t 8 := ⟨_, rfl⟩
  rw [← hq0]
  have hq : q = max (t - 1) 0 := by rw [hq0]; simp [teA]
  have hmax : ∀ (ts : Array TypeId) (ty : TypeId) (w' : World), (Builtin.max_ ts ty #[.int .i64 (t - 1), .int .i64 0]).run Tryz.prog w' = .ok (.int .i64 q) w' := fun ts t w' => by
    rw [run_max_int2]; congr 2; split <;> omega
  clear hq hq0
  go_enter Tryz.func189, Tryz.ntmps189
  go_wp2
  refine bodyPost_ret (v := .agg #[.int .i64 q, .int .i64 r, .bool false, .int .i64 n, .int .i64 m]) (by simp [results, Tryz.results189, go_sem]) rfl ⟨rfl, ?_⟩
  repeat (first | with_reducible exact bnew0 _ _ | with_reducible refine Below.setCell ?_ (by simp) _ | with_reducible refine bnew ?_ _)

theorem count_took (w : World) (t r n m : Int) (h0 : 0 ≤ r) (h1 : r ≤ 255) (t0 : 0 ≤ t) (t1 : t ≤ 255) :
    Calls Tryz.prog 189 #[.agg #[.int .i64 t, .int .i64 r, .bool false, .int .i64 n, .int .i64 m], .int .u8 9] w fun e w' => e = .returned (.agg #[.int .i64 t, .int .i64 (reA r 9), .bool false, .int .i64 n, .int .i64 m]) ∧ Below w.heap.size w w' := by
  have k := fun w => cAfter_any w r h0 h1
  generalize reA r 9 = q at k ⊢
  go_enter Tryz.func189, Tryz.ntmps189
  go_wp2_with (go_at_call 209; (with_reducible refine (k _).mono ?_); rintro e w1 ⟨rfl, rfl⟩)
  refine bodyPost_ret (v := .agg #[.int .i64 t, .int .i64 q, .bool false, .int .i64 n, .int .i64 m]) (by simp [results, Tryz.results189, go_sem]) rfl ⟨rfl, ?_⟩
  repeat (first | with_reducible exact bnew0 _ _ | with_reducible refine Below.setCell ?_ (by simp) _ | with_reducible refine bnew ?_ _)

/-- All events of a controller that is on. -/
theorem count_any (w : World) (t r n m : Int) (k : Nat) (h0 : 0 ≤ r) (h1 : r ≤ 255) (t0 : 0 ≤ t) (t1 : t ≤ 255) (hk : 1 ≤ k ∧ k ≤ 9) :
    Calls Tryz.prog 189 #[.agg #[.int .i64 t, .int .i64 r, .bool false, .int .i64 n, .int .i64 m], .int .u8 (k : Int)] w fun e w' => e = .returned (.agg #[.int .i64 (teA t k), .int .i64 (reA r k), .bool (decide (teA t k > 255)), .int .i64 n, .int .i64 m]) ∧ Below w.heap.size w w' := by
  by_cases a1 : k = 1
  · subst a1
    rw [show teA t 1 = t from rfl, show decide (t > 255) = false by simp; omega]
    exact count_first w t r n m h0 h1 t0 t1
  by_cases a2 : k ≤ 4
  · rw [show teA t k = t by unfold teA; rw [if_neg (by omega), if_neg (by omega)], show decide (t > 255) = false by simp; omega]
    exact count_heavy w t r n m k (by omega) h0 h1 t0 t1
  by_cases a3 : k ≤ 7
  · rw [show teA t k = t + 8 by unfold teA; rw [if_pos (by omega)], show reA r k = r by unfold reA; rw [if_neg (by omega), if_neg (by omega), if_neg (by omega)]]
    exact count_send w t r n m k (by omega) h0 h1 t0 t1
  by_cases a4 : k = 8
  · subst a4
    rw [show decide (teA t 8 > 255) = false by simp [teA]; omega, show reA r 8 = r from rfl]
    exact count_sent w t r n m h0 h1 t0 t1
  · obtain rfl : k = 9 := by omega
    rw [show teA t 9 = t from rfl, show decide (t > 255) = false by simp; omega]
    exact count_took w t r n m h0 h1 t0 t1
end Go.Proofs.YtajdbimdiodalaaGreat

namespace Go.Proofs.YtajdbimdiodalaaGreat
open Go.RowKit
set_option linter.unusedVariables false

set_option maxHeartbeats 1000000 in
theorem event_any (w : World) (t r : Int) (o : Bool) (n m : Int) (k : Nat) (hk : k < 256) : Calls Tryz.prog 174 #[.agg #[.int .i64 t, .int .i64 r, .bool o, .int .i64 n, .int .i64 m], .int .u8 (k : Int)] w fun e w' =>
    e = .returned (.tuple #[.agg #[.int .i64 (evC ⟨t, r, o, n, m⟩ k).t, .int .i64 (evC ⟨t, r, o, n, m⟩ k).r, .bool (evC ⟨t, r, o, n, m⟩ k).o, .int .i64 (evC ⟨t, r, o, n, m⟩ k).n, .int .i64 (evC ⟨t, r, o, n, m⟩ k).m], .int .i64 (evE ⟨t, r, o, n, m⟩ k)]) ∧ Below w.heap.size w w' := by
  have hR := fun w => cRight_any w t r o n m
  have hW := fun w => within_any w (k : Int) 1 9
  cases hr : riC ⟨t, r, o, n, m⟩
  · rw [hr] at hR
    rw [show evC ⟨t, r, o, n, m⟩ k = ⟨t, r, o, n, m⟩ by simp [evC, hr], show evE ⟨t, r, o, n, m⟩ k = 60 by simp [evE, hr]]
    clear hr hW
    go_enter Tryz.func174, Tryz.ntmps174
    go_wp2_with (first
      | (go_at_call 176; (with_reducible refine (hR _).mono ?_); rintro e w1 ⟨rfl, g1⟩; obtain ⟨b1, b2, gg1⟩ := two_bx g1; obtain ⟨c0, c1, c2, c3, c4⟩ := bx5 b1; obtain ⟨d0, d1, d2, d3, d4⟩ := bx5 b2; have f2 := bx_thaw b2))
    refine bodyPost_ret (v := .tuple #[.agg #[.int .i64 t, .int .i64 r, .bool o, .int .i64 n, .int .i64 m], .int .i64 60]) (by simp [results, Tryz.results174, go_sem, d0, d1, d2, d3, d4]) rfl ⟨rfl, ?_⟩
    repeat (first | with_reducible exact gg1 | with_reducible refine Below.setCell ?_ (by simp) _ | with_reducible refine bnew ?_ _)
  rw [hr] at hR
  by_cases hkk : 1 ≤ k ∧ k ≤ 9
  · have hwi : wi (k : Int) 1 9 = true := by rw [wi_iff]; omega
    rw [hwi] at hW
    rw [show evE ⟨t, r, o, n, m⟩ k = 0 by unfold evE; rw [if_neg (by rw [hr]; simp; omega)]]
    cases o
    · obtain ⟨r0, r1, t0, t1, n0, m0⟩ := ri_on hr rfl
      rw [show evC ⟨t, r, false, n, m⟩ k = evO ⟨t, r, false, n, m⟩ k by unfold evC; rw [if_neg (by rw [hr]; simp; omega)]; rfl]
      have hC := fun w => count_any w t r n m k r0 r1 t0 t1 hkk
      unfold evO
      dsimp only
      generalize decide (teA t k > 255) = oo at hC ⊢
      generalize teA t k = tt at hC ⊢
      generalize reA r k = rr at hC ⊢
      clear hr hwi r0 r1 t0 t1 n0 m0
      go_enter Tryz.func174, Tryz.ntmps174
      go_wp2_with (first
        | (go_at_call 176; (with_reducible refine (hR _).mono ?_); rintro e w1 ⟨rfl, g1⟩; obtain ⟨b1, b2, gg1⟩ := two_bx g1; obtain ⟨c0, c1, c2, c3, c4⟩ := bx5 b1)
        | (go_at_call 188; (with_reducible refine (hW _).mono ?_); rintro e w2 ⟨rfl, rfl⟩)
        | (go_at_call 189; (with_reducible refine (hC _).mono ?_); rintro e w2 ⟨rfl, g2⟩; have b3 := bx_below b2 g2; obtain ⟨d0, d1, d2, d3, d4⟩ := bx5 b3; have f2 := bx_thaw b3; have gg2 := bstep gg1 g2))
      refine bodyPost_ret (v := .tuple #[.agg #[.int .i64 tt, .int .i64 rr, .bool oo, .int .i64 n, .int .i64 m], .int .i64 0]) (by simp [results, Tryz.results174, go_sem, d0, d1, d2, d3, d4]) rfl ⟨rfl, ?_⟩
      repeat (first | with_reducible exact gg2 | with_reducible refine Below.setCell ?_ (by simp) _ | with_reducible refine bnew ?_ _)
    · rw [show evC ⟨t, r, true, n, m⟩ k = ⟨t, r, true, n, m⟩ by simp [evC]]
      clear hr hwi
      go_enter Tryz.func174, Tryz.ntmps174
      go_wp2_with (first
        | (go_at_call 176; (with_reducible refine (hR _).mono ?_); rintro e w1 ⟨rfl, g1⟩; obtain ⟨b1, b2, gg1⟩ := two_bx g1; obtain ⟨c0, c1, c2, c3, c4⟩ := bx5 b1; obtain ⟨d0, d1, d2, d3, d4⟩ := bx5 b2; have f2 := bx_thaw b2)
        | (go_at_call 188; (with_reducible refine (hW _).mono ?_); rintro e w2 ⟨rfl, rfl⟩))
      refine bodyPost_ret (v := .tuple #[.agg #[.int .i64 t, .int .i64 r, .bool true, .int .i64 n, .int .i64 m], .int .i64 0]) (by simp [results, Tryz.results174, go_sem, d0, d1, d2, d3, d4]) rfl ⟨rfl, ?_⟩
      repeat (first | with_reducible exact gg1 | with_reducible refine Below.setCell ?_ (by simp) _ | with_reducible refine bnew ?_ _)
  · have hwi : wi (k : Int) 1 9 = false := by rw [Bool.eq_false_iff, Ne, wi_iff]; omega
    rw [hwi] at hW
    rw [show evC ⟨t, r, o, n, m⟩ k = ⟨t, r, o, n, m⟩ by unfold evC; rw [if_pos (by omega)], show evE ⟨t, r, o, n, m⟩ k = 60 by unfold evE; rw [if_pos (by omega)]]
    clear hr hwi
    go_enter Tryz.func174, Tryz.ntmps174
    go_wp2_with (first
      | (go_at_call 176; (with_reducible refine (hR _).mono ?_); rintro e w1 ⟨rfl, g1⟩; obtain ⟨b1, b2, gg1⟩ := two_bx g1; obtain ⟨c0, c1, c2, c3, c4⟩ := bx5 b1; obtain ⟨d0, d1, d2, d3, d4⟩ := bx5 b2; have f2 := bx_thaw b2)
      | (go_at_call 188; (with_reducible refine (hW _).mono ?_); rintro e w2 ⟨rfl, rfl⟩))
    refine bodyPost_ret (v := .tuple #[.agg #[.int .i64 t, .int .i64 r, .bool o, .int .i64 n, .int .i64 m], .int .i64 60]) (by simp [results, Tryz.results174, go_sem, d0, d1, d2, d3, d4]) rfl ⟨rfl, ?_⟩
    repeat (first | with_reducible exact gg1 | with_reducible refine Below.setCell ?_ (by simp) _ | with_reducible refine bnew ?_ _)
end Go.Proofs.YtajdbimdiodalaaGreat

namespace Go.Proofs.YtajdbimdiodalaaGreat
open Go.RowKit
set_option linter.unusedVariables false

/-- A pair of boxes behind a call, and that the second one may be written. -/
theorem two_five {w w1 : World} {E F : TypeId} {v0 v1 v2 v3 v4 u0 u1 u2 u3 u4 : Value} (g1 : Below ((w.alloc (.cells #[v0, v1, v2, v3, v4] E)).alloc (.cells #[u0, u1, u2, u3, u4] F)).heap.size ((w.alloc (.cells #[v0, v1, v2, v3, v4] E)).alloc (.cells #[u0, u1, u2, u3, u4] F)) w1) :
    (w1.cell? ⟨w.heap.size, 0, none⟩ = some v0 ∧ w1.cell? ⟨w.heap.size, 1, none⟩ = some v1 ∧ w1.cell? ⟨w.heap.size, 2, none⟩ = some v2 ∧ w1.cell? ⟨w.heap.size, 3, none⟩ = some v3 ∧ w1.cell? ⟨w.heap.size, 4, none⟩ = some v4) ∧
    (w1.cell? ⟨w.heap.size + 1, 0, none⟩ = some u0 ∧ w1.cell? ⟨w.heap.size + 1, 1, none⟩ = some u1 ∧ w1.cell? ⟨w.heap.size + 1, 2, none⟩ = some u2 ∧ w1.cell? ⟨w.heap.size + 1, 3, none⟩ = some u3 ∧ w1.cell? ⟨w.heap.size + 1, 4, none⟩ = some u4) ∧
    (∀ i, w1.frozen? ⟨w.heap.size, i, none⟩ = false) ∧ (∀ i, w1.frozen? ⟨w.heap.size + 1, i, none⟩ = false) ∧ Below w.heap.size w w1 := by
  obtain ⟨b1, b2, gg⟩ := two_bx g1
  exact ⟨bx5 b1, bx5 b2, bx_thaw b1, bx_thaw b2, gg⟩

end Go.Proofs.YtajdbimdiodalaaGreat

namespace Go.Proofs.YtajdbimdiodalaaGreat
open Go.RowKit
set_option linter.unusedVariables false

set_option maxHeartbeats 1000000 in
theorem bit_any (w : World) (t r : Int) (o : Bool) (n m : Int) (x : Bool) : Calls Tryz.prog 156 #[.agg #[.int .i64 t, .int .i64 r, .bool o, .int .i64 n, .int .i64 m], .bool x] w fun e w' =>
    e = .returned (.agg #[.int .i64 (biC ⟨t, r, o, n, m⟩ x).t, .int .i64 (biC ⟨t, r, o, n, m⟩ x).r, .bool (biC ⟨t, r, o, n, m⟩ x).o, .int .i64 (biC ⟨t, r, o, n, m⟩ x).n, .int .i64 (biC ⟨t, r, o, n, m⟩ x).m]) ∧ Below w.heap.size w w' := by
  have hR := fun w => cRight_any w t r o n m
  cases hr : riC ⟨t, r, o, n, m⟩
  · rw [hr] at hR
    rw [show biC ⟨t, r, o, n, m⟩ x = ⟨t, r, o, n, m⟩ by simp [biC, hr]]
    clear hr
    go_enter Tryz.func156, Tryz.ntmps156
    go_wp2_with (go_at_call 176; (with_reducible refine (hR _).mono ?_); rintro e w1 ⟨rfl, g1⟩; obtain ⟨⟨c0, c1, c2, c3, c4⟩, ⟨d0, d1, d2, d3, d4⟩, f1, f2, gg1⟩ := two_five g1)
    refine bodyPost_ret (v := .agg #[.int .i64 t, .int .i64 r, .bool o, .int .i64 n, .int .i64 m]) (by simp [results, Tryz.results156, go_sem, d0, d1, d2, d3, d4]) rfl ⟨rfl, ?_⟩
    repeat (first | with_reducible exact gg1 | with_reducible refine Below.setCell ?_ (by simp) _ | with_reducible refine bnew ?_ _)
  rw [hr] at hR
  cases o
  · rw [show biC ⟨t, r, false, n, m⟩ x = ⟨t, r, false, n, m⟩ by simp [biC]]
    clear hr
    go_enter Tryz.func156, Tryz.ntmps156
    go_wp2_with (go_at_call 176; (with_reducible refine (hR _).mono ?_); rintro e w1 ⟨rfl, g1⟩; obtain ⟨⟨c0, c1, c2, c3, c4⟩, ⟨d0, d1, d2, d3, d4⟩, f1, f2, gg1⟩ := two_five g1)
    refine bodyPost_ret (v := .agg #[.int .i64 t, .int .i64 r, .bool false, .int .i64 n, .int .i64 m]) (by simp [results, Tryz.results156, go_sem, d0, d1, d2, d3, d4]) rfl ⟨rfl, ?_⟩
    repeat (first | with_reducible exact gg1 | with_reducible refine Below.setCell ?_ (by simp) _ | with_reducible refine bnew ?_ _)
  obtain ⟨r0, r1, t0, t1, n0, n1, m0, m1⟩ := ri_off hr rfl
  dsimp only at r0 r1 t0 t1 n0 n1 m0 m1
  cases x
  · rw [show biC ⟨t, r, true, n, m⟩ false = ⟨t, r, true, 0, m⟩ by simp [biC, hr]]
    clear hr
    go_enter Tryz.func156, Tryz.ntmps156
    go_wp2_with (go_at_call 176; (with_reducible refine (hR _).mono ?_); rintro e w1 ⟨rfl, g1⟩; obtain ⟨⟨c0, c1, c2, c3, c4⟩, ⟨d0, d1, d2, d3, d4⟩, f1, f2, gg1⟩ := two_five g1)
    refine bodyPost_ret (v := .agg #[.int .i64 t, .int .i64 r, .bool true, .int .i64 0, .int .i64 m]) (by simp [results, Tryz.results156, go_sem, d0, d1, d2, d3, d4]) rfl ⟨rfl, ?_⟩
    repeat (first | with_reducible exact gg1 | with_reducible refine Below.setCell ?_ (by simp) _ | with_reducible refine bnew ?_ _)
  rw [show biC ⟨t, r, true, n, m⟩ true = upC ⟨t, r, true, n, m⟩ by simp [biC, hr]]
  clear hr
  by_cases h : n + 1 < 11
  · rw [show upC ⟨t, r, true, n, m⟩ = ⟨t, r, true, n + 1, m⟩ by unfold upC; rw [if_pos h]]
    have e1 : (n + 1 == 11) = false := by simp; omega
    have e2 : (m == 128) = false := by simp; omega
    go_enter Tryz.func156, Tryz.ntmps156
    go_wp2_with (go_at_call 176; (with_reducible refine (hR _).mono ?_); rintro e w1 ⟨rfl, g1⟩; obtain ⟨⟨c0, c1, c2, c3, c4⟩, ⟨d0, d1, d2, d3, d4⟩, f1, f2, gg1⟩ := two_five g1)
    refine bodyPost_ret (v := .agg #[.int .i64 t, .int .i64 r, .bool true, .int .i64 (n + 1), .int .i64 m]) (by simp [results, Tryz.results156, go_sem, d0, d1, d2, d3, d4]) rfl ⟨rfl, ?_⟩
    repeat (first | with_reducible exact gg1 | with_reducible refine Below.setCell ?_ (by simp) _ | with_reducible refine bnew ?_ _)
  have e1 : (n + 1 == 11) = true := by simp; omega
  by_cases h2 : m + 1 = 128
  · rw [show upC ⟨t, r, true, n, m⟩ = ⟨0, 0, false, 0, 0⟩ by unfold upC; rw [if_neg h, if_pos h2]]
    have e2 : (m + 1 == 128) = true := by simp; omega
    clear h2
    go_enter Tryz.func156, Tryz.ntmps156
    go_wp2_with (go_at_call 176; (with_reducible refine (hR _).mono ?_); rintro e w1 ⟨rfl, g1⟩; obtain ⟨⟨c0, c1, c2, c3, c4⟩, ⟨d0, d1, d2, d3, d4⟩, f1, f2, gg1⟩ := two_five g1)
    refine bodyPost_ret (v := .agg #[.int .i64 0, .int .i64 0, .bool false, .int .i64 0, .int .i64 0]) (by simp [results, Tryz.results156, go_sem, d0, d1, d2, d3, d4]) rfl ⟨rfl, ?_⟩
    repeat (first | with_reducible exact gg1 | with_reducible refine Below.setCell ?_ (by simp) _ | with_reducible refine bnew ?_ _)
  · rw [show upC ⟨t, r, true, n, m⟩ = ⟨t, r, true, 0, m + 1⟩ by unfold upC; rw [if_neg h, if_neg h2]]
    have e2 : (m + 1 == 128) = false := by simp; omega
    clear h2
    go_enter Tryz.func156, Tryz.ntmps156
    go_wp2_with (go_at_call 176; (with_reducible refine (hR _).mono ?_); rintro e w1 ⟨rfl, g1⟩; obtain ⟨⟨c0, c1, c2, c3, c4⟩, ⟨d0, d1, d2, d3, d4⟩, f1, f2, gg1⟩ := two_five g1)
    refine bodyPost_ret (v := .agg #[.int .i64 t, .int .i64 r, .bool true, .int .i64 0, .int .i64 (m + 1)]) (by simp [results, Tryz.results156, go_sem, d0, d1, d2, d3, d4]) rfl ⟨rfl, ?_⟩
    repeat (first | with_reducible exact gg1 | with_reducible refine Below.setCell ?_ (by simp) _ | with_reducible refine bnew ?_ _)

end Go.Proofs.YtajdbimdiodalaaGreat

namespace Go.Proofs.YtajdbimdiodalaaGreat
open Go.RowKit
set_option linter.unusedVariables false

/-- A box that holds counters. -/
def Bc (w : World) (g : Nat) (c : Cf) : Prop := w.heap[g]? = some (.cells #[.int .i64 c.t, .int .i64 c.r, .bool c.o, .int .i64 c.n, .int .i64 c.m] 31 (0, 0))

/-- All of what a box of counters says. -/
structure BcAll (w : World) (g : Nat) (t r : Int) (o : Bool) (n m : Int) : Prop where
  c0 : w.cell? ⟨g, 0, none⟩ = some (.int .i64 t)
  c1 : w.cell? ⟨g, 1, none⟩ = some (.int .i64 r)
  c2 : w.cell? ⟨g, 2, none⟩ = some (.bool o)
  c3 : w.cell? ⟨g, 3, none⟩ = some (.int .i64 n)
  c4 : w.cell? ⟨g, 4, none⟩ = some (.int .i64 m)
  fz : ∀ i, w.frozen? ⟨g, i, none⟩ = false

section
variable {w w' : World} {g : Nat} {c : Cf} {t r : Int} {o : Bool} {n m : Int}

theorem Bc.all (h : Bc w g ⟨t, r, o, n, m⟩) : BcAll w g t r o n m := by
  obtain ⟨a, b, c, d, e⟩ := bx5 h
  exact ⟨a, b, c, d, e, bx_thaw h⟩

theorem Bc.below (h : Bc w g c) (hb : Below w.heap.size w w') : Bc w' g c := bx_below h hb
theorem Bc.alloc (h : Bc w g c) (o : Obj) : Bc (w.alloc o) g c := bx_alloc o h
theorem Bc.lt (h : Bc w g c) : g < w.heap.size := bx_lt h
theorem Bc.new (w : World) (t r : Int) (o : Bool) (n m : Int) : Bc (w.alloc (.cells #[.int .i64 t, .int .i64 r, .bool o, .int .i64 n, .int .i64 m] 31)) w.heap.size ⟨t, r, o, n, m⟩ := heap_alloc_new w _

/-- Counters stored into a box. -/
theorem Bc.set (h : Bc w g c) (t r : Int) (o : Bool) (n m : Int) :
    Bc (((((w.setCell ⟨g, 0, none⟩ (.int .i64 t)).setCell ⟨g, 1, none⟩ (.int .i64 r)).setCell ⟨g, 2, none⟩ (.bool o)).setCell ⟨g, 3, none⟩ (.int .i64 n)).setCell ⟨g, 4, none⟩ (.int .i64 m)) g ⟨t, r, o, n, m⟩ := by
  have h1 := heap_setCell_same w g 0 _ _ (.int .i64 t) h
  have h2 := heap_setCell_same _ g 1 _ _ (.int .i64 r) h1
  have h3 := heap_setCell_same _ g 2 _ _ (.bool o) h2
  have h4 := heap_setCell_same _ g 3 _ _ (.int .i64 n) h3
  have h5 := heap_setCell_same _ g 4 _ _ (.int .i64 m) h4
  exact h5

theorem set5_other {q : Nat} (hq : q ≠ g) (v0 v1 v2 v3 v4 : Value) : (((((w.setCell ⟨g, 0, none⟩ v0).setCell ⟨g, 1, none⟩ v1).setCell ⟨g, 2, none⟩ v2).setCell ⟨g, 3, none⟩ v3).setCell ⟨g, 4, none⟩ v4).heap[q]? = w.heap[q]? := by
  rw [heap_setCell_other _ _ _ _ hq, heap_setCell_other _ _ _ _ hq, heap_setCell_other _ _ _ _ hq, heap_setCell_other _ _ _ _ hq, heap_setCell_other _ _ _ _ hq]

theorem Bc.other {q : Nat} (h : Bc w q c) (hq : q ≠ g) (v0 v1 v2 v3 v4 : Value) : Bc (((((w.setCell ⟨g, 0, none⟩ v0).setCell ⟨g, 1, none⟩ v1).setCell ⟨g, 2, none⟩ v2).setCell ⟨g, 3, none⟩ v3).setCell ⟨g, 4, none⟩ v4) q c :=
  (set5_other hq v0 v1 v2 v3 v4).trans h

end

/-- An event so often. -/
def itE (k : Nat) : Nat → Cf → Cf
  | 0, c => c
  | j + 1, c => evC (itE k j c) k

/-- A recessive bit so often. -/
def itB : Nat → Cf → Cf
  | 0, c => c
  | j + 1, c => biC (itB j c) true

end Go.Proofs.YtajdbimdiodalaaGreat

namespace Go.Proofs.YtajdbimdiodalaaGreat
open Go.RowKit
set_option linter.unusedVariables false

theorem x1 : itE 5 16 zeC = ⟨128, 0, false, 0, 0⟩ := by decide +kernel
theorem x2 : itE 5 32 zeC = ⟨256, 0, true, 0, 0⟩ := by decide +kernel
theorem itB_add (a b : Nat) (c : Cf) : itB (a + b) c = itB a (itB b c) := by
  induction a with
  | zero => rw [Nat.zero_add]; rfl
  | succ a ih => rw [Nat.succ_add]; show biC (itB (a + b) c) true = biC (itB a (itB b c)) true; rw [ih]
theorem x3a : itB 352 ⟨256, 0, true, 0, 0⟩ = ⟨256, 0, true, 0, 32⟩ := by decide +kernel
theorem x3b : itB 352 ⟨256, 0, true, 0, 32⟩ = ⟨256, 0, true, 0, 64⟩ := by decide +kernel
theorem x3c : itB 352 ⟨256, 0, true, 0, 64⟩ = ⟨256, 0, true, 0, 96⟩ := by decide +kernel
theorem x3d : itB 351 ⟨256, 0, true, 0, 96⟩ = ⟨256, 0, true, 10, 127⟩ := by decide +kernel
theorem x3 : itB 1407 ⟨256, 0, true, 0, 0⟩ = ⟨256, 0, true, 10, 127⟩ := by
  rw [show 1407 = 351 + (352 + (352 + 352)) from rfl, itB_add, itB_add, itB_add, x3a, x3b, x3c, x3d]
theorem x4 : itB 1408 ⟨256, 0, true, 0, 0⟩ = ⟨0, 0, false, 0, 0⟩ := by
  show biC (itB 1407 ⟨256, 0, true, 0, 0⟩) true = _
  rw [x3]; decide +kernel
theorem x5 : itB 11 ⟨256, 0, true, 0, 127⟩ = ⟨0, 0, false, 0, 0⟩ := by decide +kernel

/-- The four boxes of awake. -/
structure Aw (w0 w : World) (B1 B2 B3 B4 : Nat) : Prop where
  p : Bc w B1 ⟨128, 0, false, 0, 0⟩
  o : Bc w B2 ⟨256, 0, true, 0, 0⟩
  k : Bc w B3 ⟨0, 119, false, 0, 0⟩
  n : Bc w B4 ⟨256, 0, true, 10, 127⟩
  g : Below w0.heap.size w0 w

theorem Aw.call {w0 w w' : World} {B1 B2 B3 B4 : Nat} (h : Aw w0 w B1 B2 B3 B4) (hb : Below w.heap.size w w') : Aw w0 w' B1 B2 B3 B4 :=
  ⟨h.p.below hb, h.o.below hb, h.k.below hb, h.n.below hb, bstep h.g hb⟩

end Go.Proofs.YtajdbimdiodalaaGreat

namespace Go.Proofs.YtajdbimdiodalaaGreat
open Go.RowKit Go.Sort
set_option linter.unusedVariables false

/-- What a box of counters says in every world that has only grown and drawn since. -/
structure BcGr (w : World) (g : Nat) (t r : Int) (o : Bool) (n m : Int) : Prop where
  c0 : ∀ d os, (grow (redrawn w d) os).cell? ⟨g, 0, none⟩ = some (.int .i64 t)
  c1 : ∀ d os, (grow (redrawn w d) os).cell? ⟨g, 1, none⟩ = some (.int .i64 r)
  c2 : ∀ d os, (grow (redrawn w d) os).cell? ⟨g, 2, none⟩ = some (.bool o)
  c3 : ∀ d os, (grow (redrawn w d) os).cell? ⟨g, 3, none⟩ = some (.int .i64 n)
  c4 : ∀ d os, (grow (redrawn w d) os).cell? ⟨g, 4, none⟩ = some (.int .i64 m)

theorem Bc.gr {w : World} {g : Nat} {t r : Int} {o : Bool} {n m : Int} (h : Bc w g ⟨t, r, o, n, m⟩) : BcGr w g t r o n m := by
  obtain ⟨a, b, c, d, e⟩ := bx5 h
  exact ⟨fun d os => cell_regrown a d os, fun d os => cell_regrown b d os, fun d os => cell_regrown c d os, fun d os => cell_regrown (by assumption) d os, fun d os => cell_regrown e d os⟩

end Go.Proofs.YtajdbimdiodalaaGreat

namespace Go.Proofs.YtajdbimdiodalaaGreat
open Go.RowKit
set_option linter.unusedVariables false

/-- Where the slices of a controller lie. -/
structure Sl where
  da : Option Addr
  dc : Nat
  wa : Option Addr
  wc : Nat
  ta : Option Addr
  tc : Nat

/-- The cells of a controller. -/
def ctA (c : Ct) (s : Sl) : Array Value := #[.int .u8 (c.ph : Int), .int .i64 (c.n : Int), .int .i64 c.cf.t, .int .i64 c.cf.r, .bool c.cf.o, .int .i64 c.cf.n, .int .i64 c.cf.m, .bool c.has, .int .u32 (c.give.id : Int), .bool c.give.ext, .bool c.give.rem, .int .u8 (c.give.dlc : Int), .slice s.da c.give.data.length s.dc, .bool c.sends, .bool c.sender, .slice s.wa c.wire.length s.wc, .int .i64 (c.pos : Int), .bool c.tk.b, .int .u8 (c.tk.m : Int), .slice s.ta c.tk.l.length s.tc, .int .u8 (c.tk.p : Int), .bool c.tk.fi, .bool c.rl, .int .u8 (c.rm : Int), .bool c.err, .bool c.owed]

/-- The cells of what happens. -/
def hapA (h : Hp) (a : Option Addr) (c : Nat) : Array Value := #[.int .u8 (h.1 : Int), .int .u32 (h.2.id : Int), .bool h.2.ext, .bool h.2.rem, .int .u8 (h.2.dlc : Int), .slice a h.2.data.length c]
abbrev hap0 : Array Value := #[.int .u8 0, .int .u32 0, .bool false, .bool false, .int .u8 0, .slice none 0 0]

/-- None of the slices lies in this block. -/
structure NBs (s : Sl) (k : Nat) : Prop where
  d : NB s.da k
  w : NB s.wa k
  t : NB s.ta k

/-- A box that holds a controller's cells, and its slices, from block B on. -/
structure StB (B : Nat) (w : World) (g : Nat) (c : Ct) (s : Sl) : Prop where
  box : w.heap[g]? = some (.cells (ctA c s) 166 (0, 0))
  hB : B ≤ g
  da : OL bv 5 B w s.da c.give.data.length s.dc c.give.data
  wi : OL .bool 4 B w s.wa c.wire.length s.wc c.wire
  ti : OL .bool 4 B w s.ta c.tk.l.length s.tc c.tk.l
  nb : NBs s g

section
variable {B g : Nat} {w w0 w1 w2 : World} {c c' : Ct} {s s' : Sl}

theorem OL.wr {α : Type} {f : α → Value} {E : TypeId} {a : Option Addr} {n k : Nat} {l : List α} (h : OL f E B w a n k l) (hw : Wr g w w1) (hn : NB a g) : OL f E B w1 a n k l :=
  h.kept fun q hq => hw.block q (h.ltB hq).1 (by subst hq; exact hn.block)

theorem StB.lt (h : StB B w g c s) : g < w.heap.size := bx_lt h.box
theorem StB.fz (h : StB B w g c s) (i : Nat) : w.frozen? ⟨g, i, none⟩ = false := bx_thaw h.box i
theorem StB.below (h : StB B w g c s) (k : Below w.heap.size w w1) : StB B w1 g c s := ⟨bx_below h.box k, h.hB, h.da.below k, h.wi.below k, h.ti.below k, h.nb⟩
theorem StB.alloc (h : StB B w g c s) (o : Obj) : StB B (w.alloc o) g c s := ⟨bx_alloc o h.box, h.hB, h.da.alloc o, h.wi.alloc o, h.ti.alloc o, h.nb⟩
theorem StB.drew (h : StB B w g c s) : StB B w.drew g c s := ⟨h.box, h.hB, h.da, h.wi, h.ti, h.nb⟩

/-- The box is written anew, the slices stay. -/
theorem StB.again (h : StB B w g c s) (hw : Wr g w w1) (hb : w1.heap[g]? = some (.cells (ctA c' s) 166 (0, 0))) (e1 : c'.give.data = c.give.data) (e2 : c'.wire = c.wire) (e3 : c'.tk.l = c.tk.l) : StB B w1 g c' s :=
  ⟨hb, h.hB, by rw [e1]; exact h.da.wr hw h.nb.d, by rw [e2]; exact h.wi.wr hw h.nb.w, by rw [e3]; exact h.ti.wr hw h.nb.t, h.nb⟩

/-- One cell of the box. -/
theorem StB.put (h : StB B w g c s) (i : Nat) (v : Value) (c' : Ct) (hc : (ctA c s).setIfInBounds i v = ctA c' s) (e1 : c'.give.data = c.give.data) (e2 : c'.wire = c.wire) (e3 : c'.tk.l = c.tk.l) : StB B (w.setCell ⟨g, i, none⟩ v) g c' s :=
  h.again ((Wr.refl g w).setCell (.inl rfl) v) (by rw [heap_setCell_same w g i _ _ v h.box, hc]) e1 e2 e3

/-- The five cells of the counters. -/
theorem StB.putCf (h : StB B w g c s) (f : Cf) : StB B (((((w.setCell ⟨g, 2, none⟩ (.int .i64 f.t)).setCell ⟨g, 3, none⟩ (.int .i64 f.r)).setCell ⟨g, 4, none⟩ (.bool f.o)).setCell ⟨g, 5, none⟩ (.int .i64 f.n)).setCell ⟨g, 6, none⟩ (.int .i64 f.m)) g { c with cf := f } s := by
  refine h.again (((((((Wr.refl g w).setCell (.inl rfl) _).setCell (.inl rfl) _).setCell (.inl rfl) _).setCell (.inl rfl) _).setCell (.inl rfl) _)) ?_ rfl rfl rfl
  exact heap_setCell_same _ g 6 _ _ _ (heap_setCell_same _ g 5 _ _ _ (heap_setCell_same _ g 4 _ _ _ (heap_setCell_same _ g 3 _ _ _ (heap_setCell_same w g 2 _ _ _ h.box))))

/-- A cell of another block than the box and the slices. -/
theorem StB.other (h : StB B w g c s) {q : Nat} (hq : g ≠ q) (hn : NBs s q) (i : Nat) (v : Value) : StB B (w.setCell ⟨q, i, none⟩ v) g c s := by
  have hk : ∀ k, k ≠ q → (w.setCell ⟨q, i, none⟩ v).heap[k]? = w.heap[k]? := fun k e => Below.heap_setCell _ _ _ _ e
  exact ⟨by rw [hk g hq]; exact h.box, h.hB, h.da.kept fun k e => hk k (hn.d _ e), h.wi.kept fun k e => hk k (hn.w _ e), h.ti.kept fun k e => hk k (hn.t _ e), h.nb⟩

theorem ol_nb {α : Type} {f : α → Value} {E : TypeId} {a : Option Addr} {n k b : Nat} {l : List α} (h : OL f E b w a n k l) {q : Nat} (hq : q < b) : NB a q := fun p hp e => by have := (h.ltB hp).2; omega

/-- What is read, stored. -/
theorem StB.putTk (h : StB B w g c s) (t : Tk) (a : Option Addr) (k : Nat) (ho : OL .bool 4 B w a t.l.length k t.l) (hn : NB a g) :
    StB B (((((w.setCell ⟨g, 17, none⟩ (.bool t.b)).setCell ⟨g, 18, none⟩ (.int .u8 (t.m : Int))).setCell ⟨g, 19, none⟩ (.slice a t.l.length k)).setCell ⟨g, 20, none⟩ (.int .u8 (t.p : Int))).setCell ⟨g, 21, none⟩ (.bool t.fi)) g { c with tk := t } { s with ta := a, tc := k } := by
  have hw : Wr g w (((((w.setCell ⟨g, 17, none⟩ (.bool t.b)).setCell ⟨g, 18, none⟩ (.int .u8 (t.m : Int))).setCell ⟨g, 19, none⟩ (.slice a t.l.length k)).setCell ⟨g, 20, none⟩ (.int .u8 (t.p : Int))).setCell ⟨g, 21, none⟩ (.bool t.fi)) :=
    ((((((Wr.refl g w).setCell (.inl rfl) _).setCell (.inl rfl) _).setCell (.inl rfl) _).setCell (.inl rfl) _).setCell (.inl rfl) _)
  exact ⟨heap_setCell_same _ g 21 _ _ _ (heap_setCell_same _ g 20 _ _ _ (heap_setCell_same _ g 19 _ _ _ (heap_setCell_same _ g 18 _ _ _ (heap_setCell_same w g 17 _ _ _ h.box)))), h.hB, h.da.wr hw h.nb.d, h.wi.wr hw h.nb.w, ho.wr hw hn, h.nb.d, h.nb.w, hn⟩

/-- The wire, stored. -/
theorem StB.putWi (h : StB B w g c s) (l : List Bool) (a : Option Addr) (n k : Nat) (hl : l.length = n) (ho : OL .bool 4 B w a n k l) (hn : NB a g) :
    StB B (w.setCell ⟨g, 15, none⟩ (.slice a n k)) g { c with wire := l } { s with wa := a, wc := k } := by
  subst hl
  have hw : Wr g w (w.setCell ⟨g, 15, none⟩ (.slice a l.length k)) := (Wr.refl g w).setCell (.inl rfl) _
  exact ⟨heap_setCell_same w g 15 _ _ _ h.box, h.hB, h.da.wr hw h.nb.d, ho.wr hw hn, h.ti.wr hw h.nb.t, h.nb.d, hn, h.nb.t⟩

/-- The frame, stored: five cells. -/
theorem StB.putGv (h : StB B w g c s) (f : Fr) (a : Option Addr) (k : Nat) (ho : OL bv 5 B w a f.data.length k f.data) (hn : NB a g) :
    StB B (((((w.setCell ⟨g, 8, none⟩ (.int .u32 (f.id : Int))).setCell ⟨g, 9, none⟩ (.bool f.ext)).setCell ⟨g, 10, none⟩ (.bool f.rem)).setCell ⟨g, 11, none⟩ (.int .u8 (f.dlc : Int))).setCell ⟨g, 12, none⟩ (.slice a f.data.length k)) g { c with give := f } { s with da := a, dc := k } := by
  have hw : Wr g w (((((w.setCell ⟨g, 8, none⟩ (.int .u32 (f.id : Int))).setCell ⟨g, 9, none⟩ (.bool f.ext)).setCell ⟨g, 10, none⟩ (.bool f.rem)).setCell ⟨g, 11, none⟩ (.int .u8 (f.dlc : Int))).setCell ⟨g, 12, none⟩ (.slice a f.data.length k)) :=
    ((((((Wr.refl g w).setCell (.inl rfl) _).setCell (.inl rfl) _).setCell (.inl rfl) _).setCell (.inl rfl) _).setCell (.inl rfl) _)
  exact ⟨heap_setCell_same _ g 12 _ _ _ (heap_setCell_same _ g 11 _ _ _ (heap_setCell_same _ g 10 _ _ _ (heap_setCell_same _ g 9 _ _ _ (heap_setCell_same w g 8 _ _ _ h.box)))), h.hB, ho.wr hw hn, h.wi.wr hw h.nb.w, h.ti.wr hw h.nb.t, hn, h.nb.w, h.nb.t⟩

theorem StB.q0 (h : StB B w g c s) : w.cell? ⟨g, 0, none⟩ = some (.int .u8 (c.ph : Int)) := by rw [cell_of_row w g 0 _ _ _ h.box]; rfl
theorem StB.q1 (h : StB B w g c s) : w.cell? ⟨g, 1, none⟩ = some (.int .i64 (c.n : Int)) := by rw [cell_of_row w g 1 _ _ _ h.box]; rfl
theorem StB.q2 (h : StB B w g c s) : w.cell? ⟨g, 2, none⟩ = some (.int .i64 c.cf.t) := by rw [cell_of_row w g 2 _ _ _ h.box]; rfl
theorem StB.q3 (h : StB B w g c s) : w.cell? ⟨g, 3, none⟩ = some (.int .i64 c.cf.r) := by rw [cell_of_row w g 3 _ _ _ h.box]; rfl
theorem StB.q4 (h : StB B w g c s) : w.cell? ⟨g, 4, none⟩ = some (.bool c.cf.o) := by rw [cell_of_row w g 4 _ _ _ h.box]; rfl
theorem StB.q5 (h : StB B w g c s) : w.cell? ⟨g, 5, none⟩ = some (.int .i64 c.cf.n) := by rw [cell_of_row w g 5 _ _ _ h.box]; rfl
theorem StB.q6 (h : StB B w g c s) : w.cell? ⟨g, 6, none⟩ = some (.int .i64 c.cf.m) := by rw [cell_of_row w g 6 _ _ _ h.box]; rfl
theorem StB.q7 (h : StB B w g c s) : w.cell? ⟨g, 7, none⟩ = some (.bool c.has) := by rw [cell_of_row w g 7 _ _ _ h.box]; rfl
theorem StB.q8 (h : StB B w g c s) : w.cell? ⟨g, 8, none⟩ = some (.int .u32 (c.give.id : Int)) := by rw [cell_of_row w g 8 _ _ _ h.box]; rfl
theorem StB.q9 (h : StB B w g c s) : w.cell? ⟨g, 9, none⟩ = some (.bool c.give.ext) := by rw [cell_of_row w g 9 _ _ _ h.box]; rfl
theorem StB.q10 (h : StB B w g c s) : w.cell? ⟨g, 10, none⟩ = some (.bool c.give.rem) := by rw [cell_of_row w g 10 _ _ _ h.box]; rfl
theorem StB.q11 (h : StB B w g c s) : w.cell? ⟨g, 11, none⟩ = some (.int .u8 (c.give.dlc : Int)) := by rw [cell_of_row w g 11 _ _ _ h.box]; rfl
theorem StB.q12 (h : StB B w g c s) : w.cell? ⟨g, 12, none⟩ = some (.slice s.da c.give.data.length s.dc) := by rw [cell_of_row w g 12 _ _ _ h.box]; rfl
theorem StB.q13 (h : StB B w g c s) : w.cell? ⟨g, 13, none⟩ = some (.bool c.sends) := by rw [cell_of_row w g 13 _ _ _ h.box]; rfl
theorem StB.q14 (h : StB B w g c s) : w.cell? ⟨g, 14, none⟩ = some (.bool c.sender) := by rw [cell_of_row w g 14 _ _ _ h.box]; rfl
theorem StB.q15 (h : StB B w g c s) : w.cell? ⟨g, 15, none⟩ = some (.slice s.wa c.wire.length s.wc) := by rw [cell_of_row w g 15 _ _ _ h.box]; rfl
theorem StB.q16 (h : StB B w g c s) : w.cell? ⟨g, 16, none⟩ = some (.int .i64 (c.pos : Int)) := by rw [cell_of_row w g 16 _ _ _ h.box]; rfl
theorem StB.q17 (h : StB B w g c s) : w.cell? ⟨g, 17, none⟩ = some (.bool c.tk.b) := by rw [cell_of_row w g 17 _ _ _ h.box]; rfl
theorem StB.q18 (h : StB B w g c s) : w.cell? ⟨g, 18, none⟩ = some (.int .u8 (c.tk.m : Int)) := by rw [cell_of_row w g 18 _ _ _ h.box]; rfl
theorem StB.q19 (h : StB B w g c s) : w.cell? ⟨g, 19, none⟩ = some (.slice s.ta c.tk.l.length s.tc) := by rw [cell_of_row w g 19 _ _ _ h.box]; rfl
theorem StB.q20 (h : StB B w g c s) : w.cell? ⟨g, 20, none⟩ = some (.int .u8 (c.tk.p : Int)) := by rw [cell_of_row w g 20 _ _ _ h.box]; rfl
theorem StB.q21 (h : StB B w g c s) : w.cell? ⟨g, 21, none⟩ = some (.bool c.tk.fi) := by rw [cell_of_row w g 21 _ _ _ h.box]; rfl
theorem StB.q22 (h : StB B w g c s) : w.cell? ⟨g, 22, none⟩ = some (.bool c.rl) := by rw [cell_of_row w g 22 _ _ _ h.box]; rfl
theorem StB.q24 (h : StB B w g c s) : w.cell? ⟨g, 24, none⟩ = some (.bool c.err) := by rw [cell_of_row w g 24 _ _ _ h.box]; rfl
theorem StB.q25 (h : StB B w g c s) : w.cell? ⟨g, 25, none⟩ = some (.bool c.owed) := by rw [cell_of_row w g 25 _ _ _ h.box]; rfl
end

/-- In a method's body: the state, the box of the result (still zero, laid first), and what was kept. -/
structure Mb (B : Nat) (w wr : World) (g : Nat) (c : Ct) (s s1 : Sl) : Prop where
  st : StB B wr g c s1
  lt : g < w.heap.size
  hp : wr.heap[w.heap.size]? = some (.cells hap0 127 (0, 0))
  wr : Wr g w wr
  nh : NBs s1 w.heap.size
  ns : ∀ k, k < w.heap.size → NBs s k → NBs s1 k

/-- What a method without a result leaves. -/
structure Left (B : Nat) (w w' : World) (g : Nat) (c' : Ct) (s s' : Sl) : Prop where
  st : StB B w' g c' s'
  wr : Wr g w w'
  ns : ∀ k, k < w.heap.size → NBs s k → NBs s' k

section
variable {B g : Nat} {w wr w2 : World} {c c' : Ct} {s s1 s2 : Sl}

theorem StB.nbs (h : StB B w g c s) {k : Nat} (hk : w.heap.size ≤ k) : NBs s k :=
  ⟨fun q hq e => by have := (h.da.ltB hq).1; omega, fun q hq e => by have := (h.wi.ltB hq).1; omega, fun q hq e => by have := (h.ti.ltB hq).1; omega⟩

theorem Mb.start (h : StB B w g c s) : Mb B w (w.alloc (.cells hap0 127)) g c s s :=
  ⟨h.alloc _, h.lt, heap_alloc_new w _, (Wr.refl g w).alloc _, h.nbs (Nat.le_refl _), fun k hk hn => hn⟩

theorem Mb.size (h : Mb B w wr g c s s1) : w.heap.size + 1 ≤ wr.heap.size := bx_lt h.hp

theorem Mb.left (h : Mb B w wr g c s s1) (l : Left B wr w2 g c' s1 s2) : Mb B w w2 g c' s s2 :=
  ⟨l.st, h.lt, by rw [l.wr.block _ (by have := h.size; omega) (by have := h.lt; omega)]; exact h.hp, h.wr.trans l.wr, l.ns _ (by have := h.size; omega) h.nh, fun k hk hn => l.ns k (by have := h.size; omega) (h.ns k hk hn)⟩

theorem Mb.call (h : Mb B w wr g c s s1) (k : Below wr.heap.size wr w2) : Mb B w w2 g c s s1 :=
  ⟨h.st.below k, h.lt, bx_below h.hp k, h.wr.call k, h.nh, h.ns⟩

theorem Mb.alloc (h : Mb B w wr g c s s1) (o : Obj) : Mb B w (wr.alloc o) g c s s1 := h.call (bnew0 wr o)
theorem Mb.put (h : Mb B w wr g c s s1) (i : Nat) (v : Value) (c' : Ct) (hc : (ctA c s1).setIfInBounds i v = ctA c' s1) (e1 : c'.give.data = c.give.data) (e2 : c'.wire = c.wire) (e3 : c'.tk.l = c.tk.l) : Mb B w (wr.setCell ⟨g, i, none⟩ v) g c' s s1 :=
  ⟨h.st.put i v c' hc e1 e2 e3, h.lt, by rw [Below.heap_setCell _ _ _ _ (by have := h.lt; show w.heap.size ≠ g; omega)]; exact h.hp, h.wr.setCell (.inl rfl) v, h.nh, h.ns⟩
theorem Mb.putCf (h : Mb B w wr g c s s1) (f : Cf) : Mb B w (((((wr.setCell ⟨g, 2, none⟩ (.int .i64 f.t)).setCell ⟨g, 3, none⟩ (.int .i64 f.r)).setCell ⟨g, 4, none⟩ (.bool f.o)).setCell ⟨g, 5, none⟩ (.int .i64 f.n)).setCell ⟨g, 6, none⟩ (.int .i64 f.m)) g { c with cf := f } s s1 :=
  ⟨h.st.putCf f, h.lt, by
    have := h.lt
    have hk : ∀ (v : World) i u, (v.setCell ⟨g, i, none⟩ u).heap[w.heap.size]? = v.heap[w.heap.size]? := fun v i u => Below.heap_setCell _ _ _ _ (by show w.heap.size ≠ g; omega)
    rw [hk, hk, hk, hk, hk]; exact h.hp, ((((h.wr.setCell (.inl rfl) _).setCell (.inl rfl) _).setCell (.inl rfl) _).setCell (.inl rfl) _).setCell (.inl rfl) _, h.nh, h.ns⟩

/-- The result's box: its six cells. -/
theorem Mb.hps (h : Mb B w wr g c s s1) : wr.cell? ⟨w.heap.size, 0, none⟩ = some (.int .u8 0) ∧ wr.cell? ⟨w.heap.size, 1, none⟩ = some (.int .u32 0) ∧ wr.cell? ⟨w.heap.size, 2, none⟩ = some (.bool false) ∧ wr.cell? ⟨w.heap.size, 3, none⟩ = some (.bool false) ∧ wr.cell? ⟨w.heap.size, 4, none⟩ = some (.int .u8 0) ∧ wr.cell? ⟨w.heap.size, 5, none⟩ = some (.slice none 0 0) :=
  ⟨by rw [cell_of_row _ _ 0 _ _ _ h.hp]; rfl, by rw [cell_of_row _ _ 1 _ _ _ h.hp]; rfl, by rw [cell_of_row _ _ 2 _ _ _ h.hp]; rfl, by rw [cell_of_row _ _ 3 _ _ _ h.hp]; rfl, by rw [cell_of_row _ _ 4 _ _ _ h.hp]; rfl, by rw [cell_of_row _ _ 5 _ _ _ h.hp]; rfl⟩
theorem Mb.hpf (h : Mb B w wr g c s s1) (i : Nat) : wr.frozen? ⟨w.heap.size, i, none⟩ = false := bx_thaw h.hp i

/-- Behind six stores into the result's box. -/
theorem Mb.fin (h : Mb B w wr g c s s1) (v0 v1 v2 v3 v4 v5 : Value) :
    Left B w ((((((wr.setCell ⟨w.heap.size, 0, none⟩ v0).setCell ⟨w.heap.size, 1, none⟩ v1).setCell ⟨w.heap.size, 2, none⟩ v2).setCell ⟨w.heap.size, 3, none⟩ v3).setCell ⟨w.heap.size, 4, none⟩ v4).setCell ⟨w.heap.size, 5, none⟩ v5) g c s s1 := by
  have hq : g ≠ w.heap.size := by have := h.lt; omega
  exact ⟨(((((h.st.other hq h.nh 0 v0).other hq h.nh 1 v1).other hq h.nh 2 v2).other hq h.nh 3 v3).other hq h.nh 4 v4).other hq h.nh 5 v5,
    (((((h.wr.setCell (.inr (Nat.le_refl _)) v0).setCell (.inr (Nat.le_refl _)) v1).setCell (.inr (Nat.le_refl _)) v2).setCell (.inr (Nat.le_refl _)) v3).setCell (.inr (Nat.le_refl _)) v4).setCell (.inr (Nat.le_refl _)) v5, h.ns⟩

theorem set6_other {k q : Nat} (hq : k ≠ q) (v0 v1 v2 v3 v4 v5 : Value) : ((((((wr.setCell ⟨q, 0, none⟩ v0).setCell ⟨q, 1, none⟩ v1).setCell ⟨q, 2, none⟩ v2).setCell ⟨q, 3, none⟩ v3).setCell ⟨q, 4, none⟩ v4).setCell ⟨q, 5, none⟩ v5).heap[k]? = wr.heap[k]? := by
  rw [Below.heap_setCell _ _ _ _ hq, Below.heap_setCell _ _ _ _ hq, Below.heap_setCell _ _ _ _ hq, Below.heap_setCell _ _ _ _ hq, Below.heap_setCell _ _ _ _ hq, Below.heap_setCell _ _ _ _ hq]
end

/-- What a method leaves that tells what happened. -/
def Told (B : Nat) (w : World) (g : Nat) (s : Sl) (r : Ct × Hp) (e : Ending) (w' : World) : Prop :=
  ∃ s' a n, e = .returned (.agg #[.int .u8 (r.2.1 : Int), .int .u32 (r.2.2.id : Int), .bool r.2.2.ext, .bool r.2.2.rem, .int .u8 (r.2.2.dlc : Int), .slice a r.2.2.data.length n]) ∧ Left B w w' g r.1 s s' ∧ OL bv 5 B w' a r.2.2.data.length n r.2.2.data ∧ (∀ k, k < w.heap.size → NBs s k → NB a k)

theorem Told.plain {B g : Nat} {w w' : World} {s s' : Sl} {r : Ct × Hp} (k : Nat) (h : r.2 = (k, zeroFr)) (l : Left B w w' g r.1 s s') : Told B w g s r (.returned (.agg (hapA (k, zeroFr) none 0))) w' :=
  ⟨s', none, 0, by rw [h]; rfl, l, by rw [h]; exact OL.nil _ _ _ _, fun k _ _ => NB.nil k⟩

/-- What a callee told, handed on. -/
theorem Mb.told {B g : Nat} {w w3 w4 : World} {c3 : Ct} {s s3 s4 : Sl} {r : Ct × Hp} {a : Option Addr} {n : Nat} (m : Mb B w w3 g c3 s s3) (l : Left B w3 w4 g r.1 s3 s4) (ho : OL bv 5 B w4 a r.2.2.data.length n r.2.2.data)
    (hb : ∀ k, k < w3.heap.size → NBs s3 k → NB a k) (v0 v1 v2 v3 v4 v5 : Value) : Told B w g s r (.returned (.agg (hapA r.2 a n))) ((((((w4.setCell ⟨w.heap.size, 0, none⟩ v0).setCell ⟨w.heap.size, 1, none⟩ v1).setCell ⟨w.heap.size, 2, none⟩ v2).setCell ⟨w.heap.size, 3, none⟩ v3).setCell ⟨w.heap.size, 4, none⟩ v4).setCell ⟨w.heap.size, 5, none⟩ v5) := by
  have hn : NB a w.heap.size := hb _ (by have := m.size; omega) m.nh
  exact ⟨s4, a, n, rfl, (m.left l).fin _ _ _ _ _ _, ho.kept fun k hk => set6_other (hn _ hk) _ _ _ _ _ _, fun k hk hs => hb k (by have := m.size; omega) (m.ns k hk hs)⟩

theorem Mb.now {B g : Nat} {w wr : World} {c : Ct} {s s1 : Sl} {r : Ct × Hp} (m : Mb B w wr g c s s1) (k : Nat) (h1 : r.1 = c) (h : r.2 = (k, zeroFr)) : Told B w g s r (.returned (.agg (hapA (k, zeroFr) none 0))) wr :=
  Told.plain k h (by rw [h1]; exact ⟨m.st, m.wr, m.ns⟩)

theorem Mb.six {B g : Nat} {w wr : World} {c : Ct} {s s1 : Sl} {r : Ct × Hp} (m : Mb B w wr g c s s1) (k : Nat) (h1 : r.1 = c) (h : r.2 = (k, zeroFr)) (v0 v1 v2 v3 v4 v5 : Value) :
    Told B w g s r (.returned (.agg (hapA (k, zeroFr) none 0))) ((((((wr.setCell ⟨w.heap.size, 0, none⟩ v0).setCell ⟨w.heap.size, 1, none⟩ v1).setCell ⟨w.heap.size, 2, none⟩ v2).setCell ⟨w.heap.size, 3, none⟩ v3).setCell ⟨w.heap.size, 4, none⟩ v4).setCell ⟨w.heap.size, 5, none⟩ v5) :=
  Told.plain k h (by rw [h1]; exact m.fin _ _ _ _ _ _)
end Go.Proofs.YtajdbimdiodalaaGreat

namespace Go.Proofs.YtajdbimdiodalaaGreat
open Go.RowKit Go.Sort
set_option linter.unusedVariables false

/-- The slices behind a phase that begins. -/
def Sl.new (s : Sl) : Sl := ⟨s.da, s.dc, none, 0, none, 0⟩

theorem NBs.new {s : Sl} {k : Nat} (h : NBs s k) : NBs s.new k := ⟨h.d, NB.nil k, NB.nil k⟩

set_option maxRecDepth 100000 in
set_option maxHeartbeats 2000000 in
theorem enter_any (B : Nat) (w : World) (g : Nat) (c : Ct) (s : Sl) (ph : Nat) (h : StB B w g c s) :
    Calls Tryz.prog 152 #[.pointer (some ⟨g, 0, none⟩), .int .u8 (ph : Int)] w fun e w' => e = .returned (.tuple #[]) ∧ Left B w w' g (newC c ph) s s.new := by
  have q2 : w.drew.cell? ⟨g, 2, none⟩ = _ := h.q2
  have q3 : w.drew.cell? ⟨g, 3, none⟩ = _ := h.q3
  have q4 : w.drew.cell? ⟨g, 4, none⟩ = _ := h.q4
  have q5 : w.drew.cell? ⟨g, 5, none⟩ = _ := h.q5
  have q6 : w.drew.cell? ⟨g, 6, none⟩ = _ := h.q6
  have q7 : w.drew.cell? ⟨g, 7, none⟩ = _ := h.q7
  have q8 : w.drew.cell? ⟨g, 8, none⟩ = _ := h.q8
  have q9 : w.drew.cell? ⟨g, 9, none⟩ = _ := h.q9
  have q10 : w.drew.cell? ⟨g, 10, none⟩ = _ := h.q10
  have q11 : w.drew.cell? ⟨g, 11, none⟩ = _ := h.q11
  have q12 : w.drew.cell? ⟨g, 12, none⟩ = _ := h.q12
  have q14 : w.drew.cell? ⟨g, 14, none⟩ = _ := h.q14
  have q24 : w.drew.cell? ⟨g, 24, none⟩ = _ := h.q24
  go_enter Tryz.func152, Tryz.ntmps152
  go_wp2_with (fail)
  refine wp_region_still_tail 30 (by kernel_rfl) (by kernel_rfl) ?_
  simp only [List.take_succ_cons, List.take_zero, List.drop_succ_cons, List.drop_zero]
  repeat still_step
  refine wpStill_nil ?_
  change wpList _ _ _ _ _ w.drew
  have hd : StB B w.drew g c s := h.drew
  have hw : Wr g w w.drew := (Wr.refl g w).drew
  clear q2 q3 q4 q5 q6 q7 q8 q9 q10 q11 q12 q14 q24
  generalize w.drew = w2 at *
  refine wpList_store_row rfl 42 _ _ rfl g (ctA (newC c ph) s.new) rfl rfl 166 (ctA c s) hd.box (by kernel_rfl) rfl (by kernel_rfl) ?_
  go_wp2
  exact bodyPost_end (v := .tuple #[]) (by simp [results, Tryz.results152, go_sem]) rfl ⟨rfl, ⟨setRow_heap _ _ _ _ _ _ hd.box, h.hB, (hd.da.kept fun q hq => setRow_other _ _ _ _ (hd.nb.d _ hq)), OL.nil _ _ _ _, OL.nil _ _ _ _, hd.nb.new⟩, hw.setRow (.inl rfl) _, fun k hk hn => hn.new⟩

theorem event_cf (w : World) (f : Cf) (k : Nat) (hk : k < 256) : Calls Tryz.prog 174 #[.agg #[.int .i64 f.t, .int .i64 f.r, .bool f.o, .int .i64 f.n, .int .i64 f.m], .int .u8 (k : Int)] w fun e w' =>
    ∃ z, e = .returned (.tuple #[.agg #[.int .i64 (evC f k).t, .int .i64 (evC f k).r, .bool (evC f k).o, .int .i64 (evC f k).n, .int .i64 (evC f k).m], .int .i64 z]) ∧ Below w.heap.size w w' :=
  (event_any w f.t f.r f.o f.n f.m k hk).mono fun e w' h => ⟨_, h⟩
theorem mode_cf (w : World) (f : Cf) : Calls Tryz.prog 175 #[.agg #[.int .i64 f.t, .int .i64 f.r, .bool f.o, .int .i64 f.n, .int .i64 f.m]] w fun e w' => e = .returned (.int .u8 (moC f : Int)) ∧ Below w.heap.size w w' :=
  mode_any w f.t f.r f.o f.n f.m
theorem bit_cf (w : World) (f : Cf) (x : Bool) : Calls Tryz.prog 156 #[.agg #[.int .i64 f.t, .int .i64 f.r, .bool f.o, .int .i64 f.n, .int .i64 f.m], .bool x] w fun e w' =>
    e = .returned (.agg #[.int .i64 (biC f x).t, .int .i64 (biC f x).r, .bool (biC f x).o, .int .i64 (biC f x).n, .int .i64 (biC f x).m]) ∧ Below w.heap.size w w' :=
  bit_any w f.t f.r f.o f.n f.m x

theorem mode_st (B : Nat) (w : World) (g : Nat) (c : Ct) (s : Sl) (h : StB B w g c s) :
    Calls Tryz.prog 155 #[.pointer (some ⟨g, 0, none⟩)] w fun e w' => e = .returned (.int .u8 (moC c.cf : Int)) ∧ Below w.heap.size w w' := by
  have q2 := h.q2
  have q3 := h.q3
  have q4 := h.q4
  have q5 := h.q5
  have q6 := h.q6
  go_enter Tryz.func155, Tryz.ntmps155
  go_wp2_with (go_at_call 175; (with_reducible refine (mode_cf _ _).mono ?_); rintro e w1 ⟨rfl, g1⟩)
  go_ret
  exact ⟨rfl, g1⟩

theorem count_st (B : Nat) (w : World) (g : Nat) (c : Ct) (s : Sl) (k : Nat) (hk : k < 256) (h : StB B w g c s) :
    Calls Tryz.prog 153 #[.pointer (some ⟨g, 0, none⟩), .int .u8 (k : Int)] w fun e w' => e = .returned (.tuple #[]) ∧ Left B w w' g { c with cf := evC c.cf k } s s := by
  have q2 := h.q2
  have q3 := h.q3
  have q4 := h.q4
  have q5 := h.q5
  have q6 := h.q6
  go_enter Tryz.func153, Tryz.ntmps153
  go_wp2_with (go_at_call 174; (with_reducible refine (event_cf _ _ k hk).mono ?_); rintro e w1 ⟨z, rfl, g1⟩; have h1 := h.below g1; clear q2 q3 q4 q5 q6; have q2 := h1.q2; have q3 := h1.q3; have q4 := h1.q4; have q5 := h1.q5; have q6 := h1.q6; have f := h1.fz)
  exact bodyPost_end (v := .tuple #[]) (by simp [results, Tryz.results153, go_sem]) rfl ⟨rfl, h1.putCf _, ((((((Wr.refl g w).call g1).setCell (.inl rfl) _).setCell (.inl rfl) _).setCell (.inl rfl) _).setCell (.inl rfl) _).setCell (.inl rfl) _, fun k hk hn => hn⟩

theorem either_any (B : Nat) (w : World) (g : Nat) (c : Ct) (s : Sl) (x y : Nat) (h : StB B w g c s) :
    Calls Tryz.prog 150 #[.pointer (some ⟨g, 0, none⟩), .int .u8 (x : Int), .int .u8 (y : Int)] w fun e w' => e = .returned (.int .u8 ((if c.sender then x else y : Nat) : Int)) ∧ Below w.heap.size w w' := by
  have q14 := h.q14
  cases hs : c.sender
  all_goals
    rw [hs] at q14
    clear hs h
    go_enter Tryz.func150, Tryz.ntmps150
    go_wp2
    go_ret
    exact ⟨rfl, Below.refl _ _⟩

/-- A bit more of a phase that has not come to its end. -/
theorem oneMore_on (B : Nat) (w : World) (g : Nat) (c : Ct) (s : Sl) (m : Int) (ph : Nat) (h : StB B w g c s) (hn : c.n ≤ 1000000000) (hm : (c.n : Int) + 1 ≠ m) :
    Calls Tryz.prog 151 #[.pointer (some ⟨g, 0, none⟩), .int .i64 m, .int .u8 (ph : Int)] w fun e w' => e = .returned (.tuple #[]) ∧ Left B w w' g { c with n := c.n + 1 } s s := by
  have q1 := h.q1
  have f := h.fz
  have hk := h.put 1 (.int .i64 ((c.n : Int) + 1)) { c with n := c.n + 1 } rfl rfl rfl rfl
  clear h
  go_enter Tryz.func151, Tryz.ntmps151
  go_wp2
  exact bodyPost_end (v := .tuple #[]) (by simp [results, Tryz.results151, go_sem]) rfl ⟨rfl, hk, (Wr.refl g w).setCell (.inl rfl) _, fun k hk hn => hn⟩

/-- The last bit of a phase. -/
theorem oneMore_end (B : Nat) (w : World) (g : Nat) (c : Ct) (s : Sl) (m : Int) (ph : Nat) (h : StB B w g c s) (hn : c.n ≤ 1000000000) (hm : (c.n : Int) + 1 = m) :
    Calls Tryz.prog 151 #[.pointer (some ⟨g, 0, none⟩), .int .i64 m, .int .u8 (ph : Int)] w fun e w' => e = .returned (.tuple #[]) ∧ Left B w w' g (newC c ph) s s.new := by
  subst hm
  have q1 := h.q1
  have f := h.fz
  have hk := h.put 1 (.int .i64 ((c.n : Int) + 1)) { c with n := c.n + 1 } rfl rfl rfl rfl
  have hE := fun (w1 : World) (h1 : StB B w1 g { c with n := c.n + 1 } s) => enter_any B w1 g _ s ph h1
  clear h
  go_enter Tryz.func151, Tryz.ntmps151
  go_wp2_with (go_at_call 152; (with_reducible refine (hE _ hk).mono ?_); rintro e w1 ⟨rfl, l1⟩)
  exact bodyPost_end (v := .tuple #[]) (by simp [results, Tryz.results151, go_sem]) rfl ⟨rfl, l1.st, ((Wr.refl g w).setCell (.inl rfl) _).trans l1.wr, fun k hk hn => l1.ns k (by simpa using hk) hn⟩

/-- An event by which the controller does not go off. -/
theorem goesOff_no (B : Nat) (w : World) (g : Nat) (c : Ct) (s : Sl) (k : Nat) (hk : k < 256) (h : StB B w g c s) (hm : moC (evC c.cf k) ≠ 2) :
    Calls Tryz.prog 149 #[.pointer (some ⟨g, 0, none⟩), .int .u8 (k : Int)] w fun e w' => e = .returned (.bool false) ∧ Left B w w' g { c with cf := evC c.cf k } s s := by
  have hC := count_st B w g c s k hk h
  have hM := fun (w1 : World) (h1 : StB B w1 g { c with cf := evC c.cf k } s) => mode_st B w1 g _ s h1
  dsimp only at hM
  have hq : ¬ (moC (evC c.cf k) : Int) = 2 := by omega
  generalize moC (evC c.cf k) = q at hM hq
  clear h hm
  go_enter Tryz.func149, Tryz.ntmps149
  go_wp2_with (first
    | (go_at_call 153; (with_reducible refine hC.mono ?_); rintro e w1 ⟨rfl, l1⟩)
    | (go_at_call 155; (with_reducible refine (hM _ l1.st).mono ?_); rintro e w2 ⟨rfl, g2⟩))
  go_ret
  exact ⟨rfl, l1.st.below g2, l1.wr.call g2, l1.ns⟩

/-- An event by which it goes off. -/
theorem goesOff_yes (B : Nat) (w : World) (g : Nat) (c : Ct) (s : Sl) (k : Nat) (hk : k < 256) (h : StB B w g c s) (hm : moC (evC c.cf k) = 2) :
    Calls Tryz.prog 149 #[.pointer (some ⟨g, 0, none⟩), .int .u8 (k : Int)] w fun e w' => e = .returned (.bool true) ∧ Left B w w' g { newC { c with cf := evC c.cf k } 9 with sender := false } s s.new := by
  have hC := count_st B w g c s k hk h
  have hM := fun (w1 : World) (h1 : StB B w1 g { c with cf := evC c.cf k } s) => mode_st B w1 g _ s h1
  have hE := fun (w1 : World) (h1 : StB B w1 g { c with cf := evC c.cf k } s) => enter_any B w1 g _ s 9 h1
  dsimp only at hM
  rw [hm] at hM
  have hg := h.lt
  clear h hm
  go_enter Tryz.func149, Tryz.ntmps149
  go_wp2_with (first
    | (go_at_call 153; (with_reducible refine hC.mono ?_); rintro e w1 ⟨rfl, l1⟩)
    | (go_at_call 155; (with_reducible refine (hM _ l1.st).mono ?_); rintro e w2 ⟨rfl, g2⟩; have h2 := l1.st.below g2)
    | (go_at_call 152; (refine (hE _ h2).mono ?_); rintro e w3 ⟨rfl, l3⟩; have f := l3.st.fz; have q14 := l3.st.q14))
  go_ret
  exact ⟨rfl, l3.st.put 14 _ _ rfl rfl rfl rfl, ((l1.wr.call g2).trans l3.wr).setCell (.inl rfl) _, fun k hk hn => l3.ns k (by have := l1.wr.size; have := g2.size; omega) (l1.ns k hk hn)⟩
end Go.Proofs.YtajdbimdiodalaaGreat

namespace Go.Proofs.YtajdbimdiodalaaGreat
open Go.RowKit Go.Sort
set_option linter.unusedVariables false

theorem flag_st (B : Nat) (w : World) (g : Nat) (c : Ct) (s : Sl) (mo wt : Nat) (h : StB B w g c s) (hmo : mo ≤ 1) :
    Calls Tryz.prog 167 #[.pointer (some ⟨g, 0, none⟩), .int .u8 (mo : Int), .int .u8 (wt : Int)] w (Told B w g s ({ newC c (if mo = 1 then 3 else 2) with err := true }, (wt, zeroFr))) := by
  have m0 := Mb.start h
  rcases (show mo = 0 ∨ mo = 1 by omega) with rfl | rfl
  · have hE := fun (w1 : World) (h1 : StB B w1 g c s) => enter_any B w1 g c s 2 h1
    clear h hmo
    go_enter Tryz.func167, Tryz.ntmps167
    go_wp2_with (go_at_call 152; (refine (hE _ m0.st).mono ?_); rintro e w1 ⟨rfl, l1⟩; have m1 := m0.left l1; have q24 := m1.st.q24; have f := m1.st.fz; obtain ⟨p0, p1, p2, p3, p4, p5⟩ := m1.hps; have fp := m1.hpf)
    exact bodyPost_ret (v := .agg (hapA (wt, zeroFr) none 0)) (by simp [results, Tryz.results167, go_sem, p0, p1, p2, p3, p4, p5]; rfl) rfl ⟨_, none, 0, rfl, (m1.put 24 (.bool true) { newC c 2 with err := true } rfl rfl rfl rfl).fin _ _ _ _ _ _, OL.nil _ _ _ _, fun k _ _ => NB.nil k⟩
  · have hE := fun (w1 : World) (h1 : StB B w1 g c s) => enter_any B w1 g c s 3 h1
    clear h hmo
    go_enter Tryz.func167, Tryz.ntmps167
    go_wp2_with (go_at_call 152; (refine (hE _ m0.st).mono ?_); rintro e w1 ⟨rfl, l1⟩; have m1 := m0.left l1; have q24 := m1.st.q24; have f := m1.st.fz; obtain ⟨p0, p1, p2, p3, p4, p5⟩ := m1.hps; have fp := m1.hpf)
    exact bodyPost_ret (v := .agg (hapA (wt, zeroFr) none 0)) (by simp [results, Tryz.results167, go_sem, p0, p1, p2, p3, p4, p5]; rfl) rfl ⟨_, none, 0, rfl, (m1.put 24 (.bool true) { newC c 3 with err := true } rfl rfl rfl rfl).fin _ _ _ _ _ _, OL.nil _ _ _ _, fun k _ _ => NB.nil k⟩

theorem overload_st (B : Nat) (w : World) (g : Nat) (c : Ct) (s : Sl) (h : StB B w g c s) :
    Calls Tryz.prog 154 #[.pointer (some ⟨g, 0, none⟩)] w (Told B w g s (overC c)) := by
  have m0 := Mb.start h
  have hE := fun (w1 : World) (h1 : StB B w1 g c s) => enter_any B w1 g c s 4 h1
  clear h
  go_enter Tryz.func154, Tryz.ntmps154
  go_wp2_with (go_at_call 152; (refine (hE _ m0.st).mono ?_); rintro e w1 ⟨rfl, l1⟩; have m1 := m0.left l1; have q24 := m1.st.q24; have f := m1.st.fz; obtain ⟨p0, p1, p2, p3, p4, p5⟩ := m1.hps; have fp := m1.hpf)
  exact bodyPost_ret (v := .agg (hapA (9, zeroFr) none 0)) (by simp [results, Tryz.results154, go_sem, p0, p1, p2, p3, p4, p5]; rfl) rfl ⟨_, none, 0, rfl, (m1.put 24 (.bool false) { newC c 4 with err := false } rfl rfl rfl rfl).fin _ _ _ _ _ _, OL.nil _ _ _ _, fun k _ _ => NB.nil k⟩

theorem fail_st (B : Nat) (w : World) (g : Nat) (c : Ct) (s : Sl) (wt : Nat) (r : Ct × Hp) (hr : r = failC c wt) (h : StB B w g c s) (hmo : moC c.cf ≤ 1) :
    Calls Tryz.prog 146 #[.pointer (some ⟨g, 0, none⟩), .int .u8 (wt : Int)] w (Told B w g s r) := by
  have m0 := Mb.start h
  have hM := mode_st B _ g c s m0.st
  obtain ⟨k, hk⟩ : ∃ k, k = if c.sender then 5 else 1 := ⟨_, rfl⟩
  have hI : ∀ w1, StB B w1 g c s → Calls Tryz.prog 150 #[.pointer (some ⟨g, 0, none⟩), .int .u8 5, .int .u8 1] w1 fun e w' => e = .returned (.int .u8 (k : Int)) ∧ Below w1.heap.size w1 w' := fun w1 h1 => by rw [hk]; exact either_any B w1 g c s 5 1 h1
  have hkb : k = 5 ∨ k = 1 := by rw [hk]; split <;> simp
  unfold failC at hr
  rw [← hk] at hr
  clear hk
  unfold flagC at hr
  have hc : cntC c k = { c with cf := evC c.cf k } := by unfold cntC; rw [if_neg (by omega)]
  rw [hc] at hr
  clear hc
  by_cases hm : moC (evC c.cf k) = 2
  · rw [if_pos hm] at hr
    have hG := fun (w1 : World) (h1 : StB B w1 g c s) => goesOff_yes B w1 g c s k (by omega) h1 hm
    have HR := hid hr
    have hr1 : ({ newC { c with cf := evC c.cf k } 9 with sender := false } : Ct) = r.1 := by rw [hr]; rfl
    simp only [hr1] at hG
    clear hkb hm h hr hr1
    generalize moC c.cf = mo at *
    go_enter Tryz.func146, Tryz.ntmps146
    go_wp2_with (first
      | (go_at_call 155; (with_reducible refine hM.mono ?_); rintro e w1 ⟨rfl, g1⟩; have m1 := m0.call g1)
      | (go_at_call 150; (with_reducible refine (hI _ m1.st).mono ?_); rintro e w2 ⟨rfl, g2⟩; have m2 := m1.call g2)
      | (go_at_call 149; (with_reducible refine (hG _ m2.st).mono ?_); rintro e w3 ⟨rfl, l3⟩; have m3 := m2.left l3; obtain ⟨p0, p1, p2, p3, p4, p5⟩ := m3.hps; have fp := m3.hpf))
    exact bodyPost_ret (v := .agg (hapA (10, zeroFr) none 0)) (by simp [results, Tryz.results146, go_sem, p0, p1, p2, p3, p4, p5]; rfl) rfl (m3.six 10 rfl (by rw [HR.out]; rfl) _ _ _ _ _ _)
  · rw [if_neg hm] at hr
    have hG := fun (w1 : World) (h1 : StB B w1 g c s) => goesOff_no B w1 g c s k (by omega) h1 hm
    have hF := fun (w1 : World) (h1 : StB B w1 g { c with cf := evC c.cf k } s) => flag_st B w1 g _ s (moC c.cf) wt h1 hmo
    have hr1 : (({ newC { c with cf := evC c.cf k } (if moC c.cf = 1 then 3 else 2) with err := true }, (wt, zeroFr)) : Ct × Hp) = r := by rw [hr]; rfl
    simp only [hr1] at hF
    clear hkb hm h hmo hr hr1
    generalize moC c.cf = mo at *
    go_enter Tryz.func146, Tryz.ntmps146
    go_wp2_with (first
      | (go_at_call 155; (with_reducible refine hM.mono ?_); rintro e w1 ⟨rfl, g1⟩; have m1 := m0.call g1)
      | (go_at_call 150; (with_reducible refine (hI _ m1.st).mono ?_); rintro e w2 ⟨rfl, g2⟩; have m2 := m1.call g2)
      | (go_at_call 149; (with_reducible refine (hG _ m2.st).mono ?_); rintro e w3 ⟨rfl, l3⟩; have m3 := m2.left l3)
      | (go_at_call 167; (with_reducible refine (hF _ m3.st).mono ?_); rintro e w4 ⟨s4, a4, n4, rfl, l4, o4, b4⟩; have m4 := m3.left l4; obtain ⟨p0, p1, p2, p3, p4, p5⟩ := m4.hps; have fp := m4.hpf))
    exact bodyPost_ret (v := .agg (hapA r.2 a4 n4)) (by simp [results, Tryz.results146, go_sem, p0, p1, p2, p3, p4, p5]; rfl) rfl (m3.told l4 o4 b4 _ _ _ _ _ _)
end Go.Proofs.YtajdbimdiodalaaGreat

namespace Go.Proofs.YtajdbimdiodalaaGreat
open Go.RowKit Go.Sort
set_option linter.unusedVariables false

theorem wire_fr (w : World) (F : Fr) (hg : Good F) (a : Option Addr) (c : Nat) (h : RL bv w a F.data.length c F.data) :
    Calls Tryz.prog 166 #[.agg #[.int .u32 (F.id : Int), .bool F.ext, .bool F.rem, .int .u8 (F.dlc : Int), .slice a F.data.length c]] w fun e w' => ∃ a' c', e = .returned (.tuple #[.slice a' (wiL F).length c', .int .i64 0]) ∧
      OL .bool 4 w.heap.size w' a' (wiL F).length c' (wiL F) ∧ Below w.heap.size w w' := by
  have h1 := hg.id
  have h2 := hg.dlc
  have := wire_any w F.id F.ext F.rem F.dlc a F.data.length c F.data (by split at h1 <;> omega) (by omega) h ((good_iff F _ rfl).2 hg)
  rw [wiL_length]
  exact this

/-- The state of reading behind a frame's first bit. -/
def tk1 : Tk := (nxT s0 false).1

theorem next_start (w : World) : Calls Tryz.prog 165 #[.agg #[.bool false, .int .u8 0, .slice none 0 0, .int .u8 0, .bool false], .bool false] w fun e w' => ∃ a' c',
    e = .returned (.tuple #[.agg #[.bool tk1.b, .int .u8 (tk1.m : Int), .slice a' tk1.l.length c', .int .u8 (tk1.p : Int), .bool tk1.fi], .int .u8 0]) ∧ OL .bool 4 w.heap.size w' a' tk1.l.length c' tk1.l ∧ Below w.heap.size w w' :=
  next7_any w s0 false none 0 0 rfl (RL.nil _ _ _ _) (by simp [s0]) ⟨by simp [s0], fun _ => rfl⟩ (by simp [s0])

set_option maxHeartbeats 1000000 in
theorem begin_not (B : Nat) (w : World) (g : Nat) (c : Ct) (s : Sl) (h : StB B w g c s) :
    Calls Tryz.prog 145 #[.pointer (some ⟨g, 0, none⟩), .bool false] w fun e w' => e = .returned (.tuple #[]) ∧ ∃ s', Left B w w' g (begC c false) s s' := by
  have hE := enter_any B w g c s 1 h
  have hN := next_start
  have hg := h.lt
  have hB := h.hB
  have ht : begC c false = { newC c 1 with tk := tk1, sends := false, sender := false } := rfl
  rw [ht]
  clear h ht
  generalize tk1 = t at *
  go_enter Tryz.func145, Tryz.ntmps145
  go_wp2_with (first
    | (go_at_call 152; (refine hE.mono ?_); rintro e w1 ⟨rfl, l1⟩)
    | (go_at_call 165; (with_reducible refine (hN _).mono ?_); rintro e w2 ⟨a2, c2, rfl, o2, g2⟩; have z1 := l1.wr.size; have z2 := g2.size; have h2 := l1.st.below g2; have h3 := ((h2.putTk t a2 c2 (o2.mono (by omega)) (ol_nb o2 (by omega))).put 13 (.bool false) { newC c 1 with tk := t, sends := false } rfl rfl rfl rfl).put 14 (.bool false) { newC c 1 with tk := t, sends := false, sender := false } rfl rfl rfl rfl; have q17 := h2.q17; have q18 := h2.q18; have q19 := h2.q19; have q20 := h2.q20; have q21 := h2.q21; have q13 := h2.q13; have q14 := h2.q14; have f := h2.fz))
  refine bodyPost_end (v := .tuple #[]) (by simp [results, Tryz.results145, go_sem]) rfl ⟨rfl, _, h3, ?_, fun k hk hn => ⟨(l1.ns k hk hn).d, (l1.ns k hk hn).w, ol_nb o2 (by omega)⟩⟩
  exact (((((((l1.wr.call g2).setCell (.inl rfl) _).setCell (.inl rfl) _).setCell (.inl rfl) _).setCell (.inl rfl) _).setCell (.inl rfl) _).setCell (.inl rfl) _).setCell (.inl rfl) _

set_option maxHeartbeats 2000000 in
theorem begin_snd (B : Nat) (w : World) (g : Nat) (c : Ct) (s : Sl) (h : StB B w g c s) (hgd : Good c.give) :
    Calls Tryz.prog 145 #[.pointer (some ⟨g, 0, none⟩), .bool true] w fun e w' => e = .returned (.tuple #[]) ∧ ∃ s', Left B w w' g (begC c true) s s' := by
  have hE := enter_any B w g c s 1 h
  have hN := next_start
  have hg := h.lt
  have hB := h.hB
  have ht : begC c true = { newC c 1 with tk := tk1, sends := true, sender := true, wire := wiL c.give, pos := 1 } := rfl
  have hW := fun (w1 : World) (a1 : Option Addr) (c1 : Nat) (h1 : RL bv w1 a1 c.give.data.length c1 c.give.data) => wire_fr w1 c.give hgd a1 c1 h1
  rw [ht]
  clear h ht hgd
  generalize tk1 = t at *
  generalize wiL c.give = W at *
  go_enter Tryz.func145, Tryz.ntmps145
  go_wp2_with (first
    | (go_at_call 152; (refine hE.mono ?_); rintro e w1 ⟨rfl, l1⟩)
    | (go_at_call 165; (with_reducible refine (hN _).mono ?_); rintro e w2 ⟨a2, c2, rfl, o2, g2⟩; have z1 := l1.wr.size; have z2 := g2.size; have h2 := l1.st.below g2; have h3 := ((h2.putTk t a2 c2 (o2.mono (by omega)) (ol_nb o2 (by omega))).put 13 (.bool true) { newC c 1 with tk := t, sends := true } rfl rfl rfl rfl).put 14 (.bool true) { newC c 1 with tk := t, sends := true, sender := true } rfl rfl rfl rfl; have q17 := h2.q17; have q18 := h2.q18; have q19 := h2.q19; have q20 := h2.q20; have q21 := h2.q21; have q13 := h2.q13; have q14 := h2.q14; have q8 := h2.q8; have q9 := h2.q9; have q10 := h2.q10; have q11 := h2.q11; have q12 := h2.q12; have f := h2.fz)
    | (go_at_call 166; (refine (hW _ _ _ h3.da.rl).mono ?_); rintro e w4 ⟨a4, c4, rfl, o4, g4⟩; have z4 := g4.size; have h4 := h3.below g4; have k4 := ((((((((l1.wr.call g2).setCell (.inl rfl) _).setCell (.inl rfl) _).setCell (.inl rfl) _).setCell (.inl rfl) _).setCell (.inl rfl) _).setCell (.inl rfl) _).setCell (.inl rfl) _).call g4; simp only [sz_set] at o4 z4; clear q17 q18 q19 q20 q21 q13 q14 q8 q9 q10 q11 q12 f; have h5 := (h4.putWi W a4 _ c4 rfl (o4.mono (by omega)) (ol_nb o4 (by omega))).put 16 (.int .i64 1) { newC c 1 with tk := t, sends := true, sender := true, wire := W, pos := 1 } rfl rfl rfl rfl; have q15 := h4.q15; have q16 := h4.q16; have f := h4.fz))
  refine bodyPost_end (v := .tuple #[]) (by simp [results, Tryz.results145, go_sem]) rfl ⟨rfl, _, h5, ?_, fun k hk hn => ⟨(l1.ns k hk hn).d, ol_nb o4 (by omega), ol_nb o2 (by omega)⟩⟩
  exact (k4.setCell (.inl rfl) _).setCell (.inl rfl) _
end Go.Proofs.YtajdbimdiodalaaGreat

namespace Go.Proofs.YtajdbimdiodalaaGreat
open Go.RowKit Go.Sort
set_option linter.unusedVariables false

theorem begin_any (B : Nat) (w : World) (g : Nat) (c : Ct) (s : Sl) (q : Bool) (h : StB B w g c s) (hg : q = true → Good c.give) :
    Calls Tryz.prog 145 #[.pointer (some ⟨g, 0, none⟩), .bool q] w fun e w' => e = .returned (.tuple #[]) ∧ ∃ s', Left B w w' g (begC c q) s s' := by
  cases q
  · exact begin_not B w g c s h
  · exact begin_snd B w g c s h (hg rfl)

theorem mo_right {c : Cf} (h : moC c ≤ 1) : riC c = true ∧ c.o = false := by
  unfold moC at h
  by_cases hc : (c.o || !riC c) = true
  · rw [if_pos hc] at h; omega
  · simp at hc; exact ⟨hc.2, hc.1⟩

theorem mo_first {c : Cf} (h : moC c ≤ 1) : moC (evC c 2) ≠ 2 := by
  obtain ⟨h1, h2⟩ := mo_right h
  obtain ⟨t, r, o, n, m⟩ := c
  dsimp only at h2
  subst h2
  intro e
  have := (mo_of_right (ri_ev h1 2)).1 e
  rw [ev_goes h1 (by omega)] at this
  simp at this

set_option maxHeartbeats 2000000 in
/-- PhaseIdle. -/
theorem idle_st (B : Nat) (w : World) (g : Nat) (c : Ct) (s : Sl) (x : Bool) (r : Ct × Hp) (hr : r = idleC c x) (h : StB B w g c s) (hmo : moC c.cf ≤ 1) (hg : c.has = true → Good c.give) :
    Calls Tryz.prog 117 #[.pointer (some ⟨g, 0, none⟩), .bool x] w (Told B w g s r) := by
  have m0 := Mb.start h
  have q7 := m0.st.q7
  have q14 := m0.st.q14
  have f := m0.st.fz
  cases x
  · have h1 : r.1 = begC c c.has := by rw [hr]; rfl
    have h2 : r.2 = (0, zeroFr) := by rw [hr]; rfl
    have hB := fun (w1 : World) (k : StB B w1 g c s) => begin_any B w1 g c s c.has k hg
    have H1 := hid h1; have H2 := hid h2
    clear hr h1 h2 h hg hmo
    go_enter Tryz.func117, Tryz.ntmps117
    go_wp2_with (go_at_call 145; (with_reducible refine (hB _ m0.st).mono ?_); rintro e w1 ⟨rfl, s1, l1⟩; have m1 := m0.left l1; obtain ⟨p0, p1, p2, p3, p4, p5⟩ := m1.hps; have fp := m1.hpf)
    exact bodyPost_ret (v := .agg (hapA (0, zeroFr) none 0)) (by simp [results, Tryz.results117, go_sem, p0, p1, p2, p3, p4, p5]; rfl) rfl (m1.six 0 H1.out H2.out _ _ _ _ _ _)
  · cases hh : c.has
    · have h1 : r.1 = c := by rw [hr]; simp [idleC, hh]
      have h2 : r.2 = (0, zeroFr) := by rw [hr]; simp [idleC, hh, noH]
      have H1 := hid h1; have H2 := hid h2
      rw [hh] at q7
      clear hr h1 h2 h hg hmo hh
      obtain ⟨p0, p1, p2, p3, p4, p5⟩ := m0.hps; have fp := m0.hpf
      go_enter Tryz.func117, Tryz.ntmps117
      go_wp2
      exact bodyPost_ret (v := .agg (hapA (0, zeroFr) none 0)) (by simp [results, Tryz.results117, go_sem, p0, p1, p2, p3, p4, p5]; rfl) rfl (m0.now 0 H1.out H2.out)
    · have hF := fun (w1 : World) (k : StB B w1 g { c with sender := true } s) => fail_st B w1 g { c with sender := true } s 4 r (by rw [hr]; simp [idleC, hh]) k hmo
      have m1 := m0.put 14 (.bool true) { c with sender := true } rfl rfl rfl rfl
      rw [hh] at q7
      clear hr h hg hmo hh
      go_enter Tryz.func117, Tryz.ntmps117
      go_wp2_with (go_at_call 146; (refine (hF _ m1.st).mono ?_); rintro e w4 ⟨s4, a4, n4, rfl, l4, o4, b4⟩; have m4 := m1.left l4; obtain ⟨p0, p1, p2, p3, p4, p5⟩ := m4.hps; have fp := m4.hpf)
      exact bodyPost_ret (v := .agg (hapA r.2 a4 n4)) (by simp [results, Tryz.results117, go_sem, p0, p1, p2, p3, p4, p5]; rfl) rfl (m1.told l4 o4 b4 _ _ _ _ _ _)

set_option maxHeartbeats 2000000 in
/-- PhaseDelim. -/
theorem delimit_st (B : Nat) (w : World) (g : Nat) (c : Ct) (s : Sl) (x : Bool) (r : Ct × Hp) (hr : r = delimC c x) (h : StB B w g c s) (hmo : moC c.cf ≤ 1) (hn : c.n < 8) :
    Calls Tryz.prog 122 #[.pointer (some ⟨g, 0, none⟩), .bool x] w (Told B w g s r) := by
  have m0 := Mb.start h
  cases x
  · by_cases h8 : c.n + 1 < 8
    · have hF := fun (w1 : World) (k : StB B w1 g c s) => fail_st B w1 g c s 6 r (by rw [hr]; simp [delimC, h8]) k hmo
      have q1 := m0.st.q1
      have hq : ¬ (c.n : Int) = 7 := by omega
      clear hr h hmo h8 hn
      go_enter Tryz.func122, Tryz.ntmps122
      go_wp2_with (go_at_call 146; (refine (hF _ m0.st).mono ?_); rintro e w4 ⟨s4, a4, n4, rfl, l4, o4, b4⟩; have m4 := m0.left l4; obtain ⟨p0, p1, p2, p3, p4, p5⟩ := m4.hps; have fp := m4.hpf)
      exact bodyPost_ret (v := .agg (hapA r.2 a4 n4)) (by simp [results, Tryz.results122, go_sem, p0, p1, p2, p3, p4, p5]; rfl) rfl (m0.told l4 o4 b4 _ _ _ _ _ _)
    · have hF := fun (w1 : World) (k : StB B w1 g c s) => (show overC c = r by rw [hr]; simp [delimC, h8]) ▸ overload_st B w1 g c s k
      have q1 := m0.st.q1
      rw [show (c.n : Int) = 7 by omega] at q1
      clear hr h hmo h8 hn
      go_enter Tryz.func122, Tryz.ntmps122
      go_wp2_with (go_at_call 154; (with_reducible refine (hF _ m0.st).mono ?_); rintro e w4 ⟨s4, a4, n4, rfl, l4, o4, b4⟩; have m4 := m0.left l4; obtain ⟨p0, p1, p2, p3, p4, p5⟩ := m4.hps; have fp := m4.hpf)
      exact bodyPost_ret (v := .agg (hapA r.2 a4 n4)) (by simp [results, Tryz.results122, go_sem, p0, p1, p2, p3, p4, p5]; rfl) rfl (m0.told l4 o4 b4 _ _ _ _ _ _)
  · by_cases h8 : c.n + 1 = 8
    · have hO : ∀ w1, StB B w1 g c s → Calls Tryz.prog 151 #[.pointer (some ⟨g, 0, none⟩), .int .i64 8, .int .u8 7] w1 fun e w' => e = .returned (.tuple #[]) ∧ Left B w1 w' g (newC c 7) s s.new := fun w1 k => oneMore_end B w1 g c s 8 7 k (by omega) (by omega)
      have H1 := hid (show r.1 = newC c 7 by rw [hr]; simp [delimC, h8])
      have H2 := hid (show r.2 = (0, zeroFr) by rw [hr]; rfl)
      clear hr h hmo h8 hn
      go_enter Tryz.func122, Tryz.ntmps122
      go_wp2_with (go_at_call 151; (with_reducible refine (hO _ m0.st).mono ?_); rintro e w1 ⟨rfl, l1⟩; have m1 := m0.left l1; obtain ⟨p0, p1, p2, p3, p4, p5⟩ := m1.hps; have fp := m1.hpf)
      exact bodyPost_ret (v := .agg (hapA (0, zeroFr) none 0)) (by simp [results, Tryz.results122, go_sem, p0, p1, p2, p3, p4, p5]; rfl) rfl (m1.six 0 H1.out H2.out _ _ _ _ _ _)
    · have hO : ∀ w1, StB B w1 g c s → Calls Tryz.prog 151 #[.pointer (some ⟨g, 0, none⟩), .int .i64 8, .int .u8 7] w1 fun e w' => e = .returned (.tuple #[]) ∧ Left B w1 w' g { c with n := c.n + 1 } s s := fun w1 k => oneMore_on B w1 g c s 8 7 k (by omega) (by omega)
      have H1 := hid (show r.1 = { c with n := c.n + 1 } by rw [hr]; simp [delimC, h8])
      have H2 := hid (show r.2 = (0, zeroFr) by rw [hr]; rfl)
      clear hr h hmo h8 hn
      go_enter Tryz.func122, Tryz.ntmps122
      go_wp2_with (go_at_call 151; (with_reducible refine (hO _ m0.st).mono ?_); rintro e w1 ⟨rfl, l1⟩; have m1 := m0.left l1; obtain ⟨p0, p1, p2, p3, p4, p5⟩ := m1.hps; have fp := m1.hpf)
      exact bodyPost_ret (v := .agg (hapA (0, zeroFr) none 0)) (by simp [results, Tryz.results122, go_sem, p0, p1, p2, p3, p4, p5]; rfl) rfl (m1.six 0 H1.out H2.out _ _ _ _ _ _)

set_option maxHeartbeats 2000000 in
/-- PhaseHold. -/
theorem hold_st (B : Nat) (w : World) (g : Nat) (c : Ct) (s : Sl) (x : Bool) (r : Ct × Hp) (hr : r = hold8C c x) (h : StB B w g c s) (hn : c.n ≤ 1000000000) :
    Calls Tryz.prog 124 #[.pointer (some ⟨g, 0, none⟩), .bool x] w (Told B w g s r) := by
  have m0 := Mb.start h
  cases x
  · have hF := fun (w1 : World) (k : StB B w1 g c s) => begin_not B w1 g c s k
    have H1 := hid (show r.1 = begC c false by rw [hr]; rfl)
    have H2 := hid (show r.2 = (0, zeroFr) by rw [hr]; rfl)
    clear hr h hn
    go_enter Tryz.func124, Tryz.ntmps124
    go_wp2_with (go_at_call 145; (with_reducible refine (hF _ m0.st).mono ?_); rintro e w1 ⟨rfl, s1, l1⟩; have m1 := m0.left l1; obtain ⟨p0, p1, p2, p3, p4, p5⟩ := m1.hps; have fp := m1.hpf)
    exact bodyPost_ret (v := .agg (hapA (0, zeroFr) none 0)) (by simp [results, Tryz.results124, go_sem, p0, p1, p2, p3, p4, p5]; rfl) rfl (m1.six 0 H1.out H2.out _ _ _ _ _ _)
  · by_cases h8 : c.n + 1 = 8
    · have hO : ∀ w1, StB B w1 g c s → Calls Tryz.prog 151 #[.pointer (some ⟨g, 0, none⟩), .int .i64 8, .int .u8 0] w1 fun e w' => e = .returned (.tuple #[]) ∧ Left B w1 w' g (newC c 0) s s.new := fun w1 k => oneMore_end B w1 g c s 8 0 k (by omega) (by omega)
      have H1 := hid (show r.1 = newC c 0 by rw [hr]; simp [hold8C, h8])
      have H2 := hid (show r.2 = (0, zeroFr) by rw [hr]; rfl)
      clear hr h h8 hn
      go_enter Tryz.func124, Tryz.ntmps124
      go_wp2_with (go_at_call 151; (with_reducible refine (hO _ m0.st).mono ?_); rintro e w1 ⟨rfl, l1⟩; have m1 := m0.left l1; obtain ⟨p0, p1, p2, p3, p4, p5⟩ := m1.hps; have fp := m1.hpf)
      exact bodyPost_ret (v := .agg (hapA (0, zeroFr) none 0)) (by simp [results, Tryz.results124, go_sem, p0, p1, p2, p3, p4, p5]; rfl) rfl (m1.six 0 H1.out H2.out _ _ _ _ _ _)
    · have hO : ∀ w1, StB B w1 g c s → Calls Tryz.prog 151 #[.pointer (some ⟨g, 0, none⟩), .int .i64 8, .int .u8 0] w1 fun e w' => e = .returned (.tuple #[]) ∧ Left B w1 w' g { c with n := c.n + 1 } s s := fun w1 k => oneMore_on B w1 g c s 8 0 k (by omega) (by omega)
      have H1 := hid (show r.1 = { c with n := c.n + 1 } by rw [hr]; simp [hold8C, h8])
      have H2 := hid (show r.2 = (0, zeroFr) by rw [hr]; rfl)
      clear hr h h8 hn
      go_enter Tryz.func124, Tryz.ntmps124
      go_wp2_with (go_at_call 151; (with_reducible refine (hO _ m0.st).mono ?_); rintro e w1 ⟨rfl, l1⟩; have m1 := m0.left l1; obtain ⟨p0, p1, p2, p3, p4, p5⟩ := m1.hps; have fp := m1.hpf)
      exact bodyPost_ret (v := .agg (hapA (0, zeroFr) none 0)) (by simp [results, Tryz.results124, go_sem, p0, p1, p2, p3, p4, p5]; rfl) rfl (m1.six 0 H1.out H2.out _ _ _ _ _ _)

set_option maxHeartbeats 2000000 in
/-- PhaseOff. -/
theorem away_st (B : Nat) (w : World) (g : Nat) (c : Ct) (s : Sl) (x : Bool) (r : Ct × Hp) (hr : r = offsC c x) (h : StB B w g c s) :
    Calls Tryz.prog 125 #[.pointer (some ⟨g, 0, none⟩), .bool x] w (Told B w g s r) := by
  have m0 := Mb.start h
  have q2 := m0.st.q2
  have q3 := m0.st.q3
  have q4 := m0.st.q4
  have q5 := m0.st.q5
  have q6 := m0.st.q6
  have hM := fun (w1 : World) (h1 : StB B w1 g { c with cf := biC c.cf x } s) => mode_st B w1 g _ s h1
  dsimp only at hM
  by_cases hm : moC (biC c.cf x) = 2
  · rw [hm] at hM
    have H1 := hid (show r.1 = { c with cf := biC c.cf x } by rw [hr]; simp [offsC, hm])
    have H2 := hid (show r.2 = (0, zeroFr) by rw [hr]; simp [offsC, hm, noH])
    clear hr h hm
    go_enter Tryz.func125, Tryz.ntmps125
    go_wp2_with (first
      | (go_at_call 156; (with_reducible refine (bit_cf _ _ _).mono ?_); rintro e w1 ⟨rfl, g1⟩; have m1 := m0.call g1; have m2 := m1.putCf (biC c.cf x); clear q2 q3 q4 q5 q6; have q2 := m1.st.q2; have q3 := m1.st.q3; have q4 := m1.st.q4; have q5 := m1.st.q5; have q6 := m1.st.q6; have f := m1.st.fz)
      | (go_at_call 155; (refine (hM _ m2.st).mono ?_); rintro e w3 ⟨rfl, g3⟩; have m3 := m2.call g3; obtain ⟨p0, p1, p2, p3, p4, p5⟩ := m3.hps; have fp := m3.hpf))
    exact bodyPost_ret (v := .agg (hapA (0, zeroFr) none 0)) (by simp [results, Tryz.results125, go_sem, p0, p1, p2, p3, p4, p5]; rfl) rfl (m3.six 0 H1.out H2.out _ _ _ _ _ _)
  · have hE := fun (w1 : World) (h1 : StB B w1 g { c with cf := biC c.cf x } s) => enter_any B w1 g _ s 0 h1
    have hq : ¬ (moC (biC c.cf x) : Int) = 2 := by omega
    have H1 := hid (show r.1 = newC { c with cf := biC c.cf x } 0 by rw [hr]; simp [offsC, hm])
    have H2 := hid (show r.2 = (11, zeroFr) by rw [hr]; simp [offsC, hm])
    generalize moC (biC c.cf x) = mo at hM hq
    clear hr h hm
    go_enter Tryz.func125, Tryz.ntmps125
    go_wp2_with (first
      | (go_at_call 156; (with_reducible refine (bit_cf _ _ _).mono ?_); rintro e w1 ⟨rfl, g1⟩; have m1 := m0.call g1; have m2 := m1.putCf (biC c.cf x); clear q2 q3 q4 q5 q6; have q2 := m1.st.q2; have q3 := m1.st.q3; have q4 := m1.st.q4; have q5 := m1.st.q5; have q6 := m1.st.q6; have f := m1.st.fz)
      | (go_at_call 155; (refine (hM _ m2.st).mono ?_); rintro e w3 ⟨rfl, g3⟩; have m3 := m2.call g3)
      | (go_at_call 152; (refine (hE _ m3.st).mono ?_); rintro e w4 ⟨rfl, l4⟩; have m4 := m3.left l4; obtain ⟨p0, p1, p2, p3, p4, p5⟩ := m4.hps; have fp := m4.hpf))
    exact bodyPost_ret (v := .agg (hapA (11, zeroFr) none 0)) (by simp [results, Tryz.results125, go_sem, p0, p1, p2, p3, p4, p5]; rfl) rfl (m4.six 11 H1.out H2.out _ _ _ _ _ _)
end Go.Proofs.YtajdbimdiodalaaGreat

namespace Go.Proofs.YtajdbimdiodalaaGreat
open Go.RowKit Go.Sort
set_option linter.unusedVariables false

/-- A method's body with a second box of what happens. -/
structure Mb2 (B : Nat) (w wr : World) (g : Nat) (c : Ct) (s s1 : Sl) : Prop where
  mb : Mb B w wr g c s s1
  hx : wr.heap[w.heap.size + 1]? = some (.cells hap0 127 (0, 0))
  nx : NBs s1 (w.heap.size + 1)

section
variable {B g : Nat} {w wr w2 : World} {c c' : Ct} {s s1 s2 : Sl}

theorem Mb2.start (h : StB B w g c s) : Mb2 B w ((w.alloc (.cells hap0 127)).alloc (.cells hap0 127)) g c s s :=
  ⟨(Mb.start h).alloc _, by have := heap_alloc_new (w.alloc (.cells hap0 127)) (.cells hap0 127); rwa [heap_size_alloc] at this, h.nbs (by omega)⟩
theorem Mb2.lt (h : Mb2 B w wr g c s s1) : w.heap.size + 1 < wr.heap.size := bx_lt h.hx
theorem Mb2.left (h : Mb2 B w wr g c s s1) (l : Left B wr w2 g c' s1 s2) : Mb2 B w w2 g c' s s2 :=
  ⟨h.mb.left l, by rw [l.wr.block _ h.lt (by have := h.mb.lt; omega)]; exact h.hx, l.ns _ h.lt h.nx⟩
theorem Mb2.call (h : Mb2 B w wr g c s s1) (k : Below wr.heap.size wr w2) : Mb2 B w w2 g c s s1 := ⟨h.mb.call k, bx_below h.hx k, h.nx⟩
theorem Mb2.hxs (h : Mb2 B w wr g c s s1) : wr.cell? ⟨w.heap.size + 1, 0, none⟩ = some (.int .u8 0) ∧ wr.cell? ⟨w.heap.size + 1, 1, none⟩ = some (.int .u32 0) ∧ wr.cell? ⟨w.heap.size + 1, 2, none⟩ = some (.bool false) ∧ wr.cell? ⟨w.heap.size + 1, 3, none⟩ = some (.bool false) ∧ wr.cell? ⟨w.heap.size + 1, 4, none⟩ = some (.int .u8 0) ∧ wr.cell? ⟨w.heap.size + 1, 5, none⟩ = some (.slice none 0 0) :=
  ⟨by rw [cell_of_row _ _ 0 _ _ _ h.hx]; rfl, by rw [cell_of_row _ _ 1 _ _ _ h.hx]; rfl, by rw [cell_of_row _ _ 2 _ _ _ h.hx]; rfl, by rw [cell_of_row _ _ 3 _ _ _ h.hx]; rfl, by rw [cell_of_row _ _ 4 _ _ _ h.hx]; rfl, by rw [cell_of_row _ _ 5 _ _ _ h.hx]; rfl⟩
theorem Mb.other (m : Mb B w wr g c s s1) {q : Nat} (hq : w.heap.size < q) (hn : NBs s1 q) (i : Nat) (v : Value) : Mb B w (wr.setCell ⟨q, i, none⟩ v) g c s s1 :=
  ⟨m.st.other (by have := m.lt; omega) hn i v, m.lt, by rw [Below.heap_setCell _ _ _ _ (by show w.heap.size ≠ q; omega)]; exact m.hp, m.wr.setCell (.inr (by show w.heap.size ≤ q; omega)) v, m.nh, m.ns⟩
end

theorem oneMore_any (B : Nat) (w : World) (g : Nat) (c : Ct) (s : Sl) (M ph : Nat) (c' : Ct) (hc : c' = if c.n + 1 = M then newC c ph else { c with n := c.n + 1 }) (h : StB B w g c s) (hn : c.n ≤ 1000000000) :
    Calls Tryz.prog 151 #[.pointer (some ⟨g, 0, none⟩), .int .i64 (M : Int), .int .u8 (ph : Int)] w fun e w' => e = .returned (.tuple #[]) ∧ ∃ s', Left B w w' g c' s s' := by
  by_cases hm : c.n + 1 = M
  · rw [hc, if_pos hm]
    exact (oneMore_end B w g c s M ph h hn (by omega)).mono fun e w' ⟨a, b⟩ => ⟨a, _, b⟩
  · rw [hc, if_neg hm]
    exact (oneMore_on B w g c s M ph h hn (by omega)).mono fun e w' ⟨a, b⟩ => ⟨a, _, b⟩

set_option maxHeartbeats 2000000 in
/-- PhaseFlag, PhaseOver. -/
theorem inFlag_st (B : Nat) (w : World) (g : Nat) (c : Ct) (s : Sl) (x : Bool) (r : Ct × Hp) (hr : r = sixC c x) (h : StB B w g c s) (hmo : moC c.cf ≤ 1) (hn : c.n ≤ 1000000000) :
    Calls Tryz.prog 119 #[.pointer (some ⟨g, 0, none⟩), .bool x] w (Told B w g s r) := by
  have m0 := Mb2.start h
  cases x
  · have hO : ∀ w1, StB B w1 g c s → Calls Tryz.prog 151 #[.pointer (some ⟨g, 0, none⟩), .int .i64 6, .int .u8 5] w1 fun e w' => e = .returned (.tuple #[]) ∧ ∃ s', Left B w1 w' g r.1 s s' := fun w1 k => oneMore_any B w1 g c s 6 5 r.1 (by rw [hr]; simp [sixC]) k hn
    have H2 := hid (show r.2 = (0, zeroFr) by rw [hr]; simp [sixC])
    clear hr h hmo hn
    go_enter Tryz.func119, Tryz.ntmps119
    go_wp2_with (go_at_call 151; (with_reducible refine (hO _ m0.mb.st).mono ?_); rintro e w1 ⟨rfl, s1, l1⟩; have m1 := m0.left l1; have m1b := m1.mb; obtain ⟨p0, p1, p2, p3, p4, p5⟩ := m1b.hps; have fp := m1b.hpf; obtain ⟨x0, x1, x2, x3, x4, x5⟩ := m1.hxs)
    exact bodyPost_ret (v := .agg (hapA (0, zeroFr) none 0)) (by simp [results, Tryz.results119, go_sem, p0, p1, p2, p3, p4, p5]; rfl) rfl (m1b.six 0 rfl H2.out _ _ _ _ _ _)
  · obtain ⟨k, hk⟩ : ∃ k, k = if c.sender then 6 else 3 := ⟨_, rfl⟩
    have hI : ∀ w1, StB B w1 g c s → Calls Tryz.prog 150 #[.pointer (some ⟨g, 0, none⟩), .int .u8 6, .int .u8 3] w1 fun e w' => e = .returned (.int .u8 (k : Int)) ∧ Below w1.heap.size w1 w' := fun w1 h1 => by rw [hk]; exact either_any B w1 g c s 6 3 h1
    have hkb : k = 6 ∨ k = 3 := by rw [hk]; split <;> simp
    unfold sixC at hr
    rw [← hk] at hr
    clear hk
    by_cases hm : moC (evC c.cf k) = 2
    · have hG := fun (w1 : World) (h1 : StB B w1 g c s) => goesOff_yes B w1 g c s k (by omega) h1 hm
      rw [if_pos ⟨rfl, hm⟩] at hr
      have hr1 : ({ newC { c with cf := evC c.cf k } 9 with sender := false } : Ct) = r.1 := by rw [hr]; rfl
      have H2 := hid (show r.2 = (10, zeroFr) by rw [hr]; rfl)
      simp only [hr1] at hG
      clear hkb hm h hr hr1 hmo hn
      go_enter Tryz.func119, Tryz.ntmps119
      go_wp2_with (first
        | (go_at_call 150; (with_reducible refine (hI _ m0.mb.st).mono ?_); rintro e w2 ⟨rfl, g2⟩; have m2 := m0.call g2)
        | (go_at_call 149; (with_reducible refine (hG _ m2.mb.st).mono ?_); rintro e w3 ⟨rfl, l3⟩; have m3 := (m2.left l3).mb; obtain ⟨p0, p1, p2, p3, p4, p5⟩ := m3.hps; have fp := m3.hpf))
      exact bodyPost_ret (v := .agg (hapA (10, zeroFr) none 0)) (by simp [results, Tryz.results119, go_sem, p0, p1, p2, p3, p4, p5]; rfl) rfl (m3.six 10 rfl H2.out _ _ _ _ _ _)
    · have hG := fun (w1 : World) (h1 : StB B w1 g c s) => goesOff_no B w1 g c s k (by omega) h1 hm
      rw [if_neg (fun h => hm h.2)] at hr
      have hO : ∀ w1, StB B w1 g { c with cf := evC c.cf k } s → Calls Tryz.prog 151 #[.pointer (some ⟨g, 0, none⟩), .int .i64 6, .int .u8 5] w1 fun e w' => e = .returned (.tuple #[]) ∧ ∃ s', Left B w1 w' g r.1 s s' := fun w1 h1 => oneMore_any B w1 g { c with cf := evC c.cf k } s 6 5 r.1 (by rw [hr]; simp) h1 hn
      have H2 := hid (show r.2 = (4, zeroFr) by rw [hr]; rfl)
      clear hkb hm h hr hmo hn
      go_enter Tryz.func119, Tryz.ntmps119
      go_wp2_with (first
        | (go_at_call 150; (with_reducible refine (hI _ m0.mb.st).mono ?_); rintro e w2 ⟨rfl, g2⟩; have m2 := m0.call g2)
        | (go_at_call 149; (with_reducible refine (hG _ m2.mb.st).mono ?_); rintro e w3 ⟨rfl, l3⟩; have m3 := m2.left l3; have m4 := m3.mb.other (Nat.lt_succ_self _) m3.nx 0 (.int .u8 4); obtain ⟨x0, x1, x2, x3, x4, x5⟩ := m3.hxs; have fx := bx_thaw m3.hx; have hx3 := m3.hx; have hl3 := m3.lt; have hg3 := m3.mb.lt)
        | (go_at_call 151; (with_reducible refine (hO _ m4.st).mono ?_); rintro e w5 ⟨rfl, s5, l5⟩; have m5 := m4.left l5; have hx5 : w5.heap[w.heap.size + 1]? = some (.cells #[.int .u8 4, .int .u32 0, .bool false, .bool false, .int .u8 0, .slice none 0 0] 127 (0, 0)) := (l5.wr.block _ (by rw [sz_set]; exact hl3) (by omega)).trans (heap_setCell_same _ _ 0 _ _ _ hx3); clear x0 x1 x2 x3 x4 x5; obtain ⟨x0, x1, x2, x3, x4, x5⟩ := bx6 hx5; obtain ⟨p0, p1, p2, p3, p4, p5⟩ := m5.hps; have fp := m5.hpf))
      exact bodyPost_ret (v := .agg (hapA (4, zeroFr) none 0)) (by simp [results, Tryz.results119, go_sem, p0, p1, p2, p3, p4, p5]; rfl) rfl (m5.six 4 rfl H2.out _ _ _ _ _ _)
end Go.Proofs.YtajdbimdiodalaaGreat

namespace Go.Proofs.YtajdbimdiodalaaGreat
open Go.RowKit Go.Sort
set_option linter.unusedVariables false

/-- What take.Next, Drive and Frame ask of what is read. -/
structure TkOK (t : Tk) : Prop where
  ri : rightA t.b t.m
  len : t.l.length ≤ 5000
  p : t.p ≤ 255
  nine : t.p = 9 → t.fi = true ∧ t.m ≠ 5

section
variable {B g : Nat} {w wr w2 : World} {c c' : Ct} {s s1 s2 : Sl}
theorem Mb.putTk (h : Mb B w wr g c s s1) (t : Tk) (a : Option Addr) (k : Nat) {b : Nat} (ho : OL .bool 4 b wr a t.l.length k t.l) (hb : w.heap.size < b) (hB : B ≤ g) :
    Mb B w (((((wr.setCell ⟨g, 17, none⟩ (.bool t.b)).setCell ⟨g, 18, none⟩ (.int .u8 (t.m : Int))).setCell ⟨g, 19, none⟩ (.slice a t.l.length k)).setCell ⟨g, 20, none⟩ (.int .u8 (t.p : Int))).setCell ⟨g, 21, none⟩ (.bool t.fi)) g { c with tk := t } s { s1 with ta := a, tc := k } := by
  have hg := h.lt
  refine ⟨h.st.putTk t a k (ho.mono (by omega)) (ol_nb ho (by omega)), hg, ?_, ((((h.wr.setCell (.inl rfl) _).setCell (.inl rfl) _).setCell (.inl rfl) _).setCell (.inl rfl) _).setCell (.inl rfl) _, ⟨h.nh.d, h.nh.w, ol_nb ho hb⟩, fun k hk hn => ⟨(h.ns k hk hn).d, (h.ns k hk hn).w, ol_nb ho (by omega)⟩⟩
  have hk : ∀ (v : World) i u, (v.setCell ⟨g, i, none⟩ u).heap[w.heap.size]? = v.heap[w.heap.size]? := fun v i u => Below.heap_setCell _ _ _ _ (by show w.heap.size ≠ g; omega)
  rw [hk, hk, hk, hk, hk]; exact h.hp

/-- What happened with a frame in new memory. -/
theorem Mb.tells {r : Ct × Hp} {a : Option Addr} {n b : Nat} (m : Mb B w wr g r.1 s s1) (ho : OL bv 5 b wr a r.2.2.data.length n r.2.2.data) (hb : w.heap.size < b) (hB : B ≤ w.heap.size) (v0 v1 v2 v3 v4 v5 : Value) :
    Told B w g s r (.returned (.agg (hapA r.2 a n))) ((((((wr.setCell ⟨w.heap.size, 0, none⟩ v0).setCell ⟨w.heap.size, 1, none⟩ v1).setCell ⟨w.heap.size, 2, none⟩ v2).setCell ⟨w.heap.size, 3, none⟩ v3).setCell ⟨w.heap.size, 4, none⟩ v4).setCell ⟨w.heap.size, 5, none⟩ v5) :=
  ⟨s1, a, n, rfl, m.fin _ _ _ _ _ _, (ho.kept fun k hk => set6_other (by have h1 := (ho.ltB hk).2; dsimp only at h1; omega) _ _ _ _ _ _).mono (by omega), fun k hk hs => ol_nb ho (by omega)⟩
end

section
variable (B : Nat) (w : World) (g : Nat) (c : Ct) (s : Sl) (x : Bool)

/-- The calls of Drive and Next, and what is stored behind them: for each of the cases below. -/
theorem read_next (w : World) (t : Tk) (a : Option Addr) (k : Nat) (x : Bool) (h : RL .bool w a t.l.length k t.l) (hT : TkOK t) :
    Calls Tryz.prog 165 #[.agg #[.bool t.b, .int .u8 (t.m : Int), .slice a t.l.length k, .int .u8 (t.p : Int), .bool t.fi], .bool x] w fun e w' => ∃ a' c',
      e = .returned (.tuple #[.agg #[.bool (nxT t x).1.b, .int .u8 ((nxT t x).1.m : Int), .slice a' (nxT t x).1.l.length c', .int .u8 ((nxT t x).1.p : Int), .bool (nxT t x).1.fi], .int .u8 ((nxT t x).2 : Int)]) ∧
      OL .bool 4 w.heap.size w' a' (nxT t x).1.l.length c' (nxT t x).1.l ∧ Below w.heap.size w w' :=
  next7_any w t x a _ k rfl h (by have := hT.len; omega) hT.ri hT.p

set_option maxHeartbeats 4000000 in
theorem read_err (r : Ct × Hp) (q e : Nat) (t' : Tk) (hq : (nxT c.tk x) = (t', q)) (he : q = 1 ∧ e = 5 ∨ q = 2 ∧ e = 6 ∨ q = 3 ∧ e = 8) (hr : r = failC { c with tk := t' } e) (h : StB B w g c s) (hT : TkOK c.tk) (hmo : moC c.cf ≤ 1) :
    Calls Tryz.prog 148 #[.pointer (some ⟨g, 0, none⟩), .bool x] w (Told B w g s r) := by
  have m0 := Mb.start h
  have hB := h.hB
  have hg := h.lt
  have hD := fun w1 => drive7_any w1 c.tk.b c.tk.m s.ta c.tk.l.length s.tc c.tk.p c.tk.fi
  have hN := fun (w1 : World) (h1 : RL .bool w1 s.ta c.tk.l.length s.tc c.tk.l) => read_next w1 c.tk s.ta s.tc x h1 hT
  rw [hq] at hN
  have hF := fun (w1 : World) (s1 : Sl) (k : StB B w1 g { c with tk := t' } s1) => fail_st B w1 g { c with tk := t' } s1 e r hr k hmo
  generalize drT c.tk.p c.tk.fi = d at hD
  have q17 := m0.st.q17
  have q18 := m0.st.q18
  have q19 := m0.st.q19
  have q20 := m0.st.q20
  have q21 := m0.st.q21
  clear hr hq hT hmo h
  rcases he with ⟨rfl, rfl⟩ | ⟨rfl, rfl⟩ | ⟨rfl, rfl⟩
  all_goals
    simp only [show ((1 : Nat) : Int) = 1 from rfl, show ((2 : Nat) : Int) = 2 from rfl, show ((3 : Nat) : Int) = 3 from rfl, show ((5 : Nat) : Int) = 5 from rfl, show ((6 : Nat) : Int) = 6 from rfl, show ((8 : Nat) : Int) = 8 from rfl] at hN hF
    go_enter Tryz.func148, Tryz.ntmps148
    go_wp2_with (first
      | (go_at_call 93; (with_reducible refine (hD _).mono ?_); rintro e w1 ⟨rfl, g1⟩; have m1 := m0.call g1; clear q17 q18 q19 q20 q21; have q17 := m1.st.q17; have q18 := m1.st.q18; have q19 := m1.st.q19; have q20 := m1.st.q20; have q21 := m1.st.q21)
      | (go_at_call 165; (with_reducible refine (hN _ m1.st.ti.rl).mono ?_); rintro e w2 ⟨a2, c2, rfl, o2, g2⟩; have z0 := m1.size; have z2 := g2.size; have m2 := (m1.call g2).alloc (.cells #[.bool t'.b, .int .u8 (t'.m : Int), .slice a2 t'.l.length c2, .int .u8 (t'.p : Int), .bool t'.fi] 40); have m3 := m2.putTk t' a2 c2 (o2.alloc (.cells #[.bool t'.b, .int .u8 (t'.m : Int), .slice a2 t'.l.length c2, .int .u8 (t'.p : Int), .bool t'.fi] 40)) (by omega) hB; obtain ⟨n0, n1, n2, n3, n4⟩ := bx5 (heap_alloc_new w2 (.cells #[.bool t'.b, .int .u8 (t'.m : Int), .slice a2 t'.l.length c2, .int .u8 (t'.p : Int), .bool t'.fi] 40)); have f := m2.st.fz; clear q17 q18 q19 q20 q21; have q17 := m2.st.q17; have q18 := m2.st.q18; have q19 := m2.st.q19; have q20 := m2.st.q20; have q21 := m2.st.q21)
      | (go_at_call 146; (with_reducible refine (hF _ _ m3.st).mono ?_); rintro e w4 ⟨s4, a4, n4, rfl, l4, o4, b4⟩; have m4 := m3.left l4; obtain ⟨p0, p1, p2, p3, p4, p5⟩ := m4.hps; have fp := m4.hpf))
    exact bodyPost_ret (v := .agg (hapA r.2 a4 n4)) (by simp [results, Tryz.results148, go_sem, p0, p1, p2, p3, p4, p5]; rfl) rfl (m3.told l4 o4 b4 _ _ _ _ _ _)

set_option maxHeartbeats 4000000 in
theorem read_more (r : Ct × Hp) (t' : Tk) (hq : (nxT c.tk x) = (t', 0)) (hr : r = if x && !drT c.tk.p c.tk.fi then failC { c with tk := t' } 4 else ({ c with tk := t' }, noH)) (h : StB B w g c s) (hT : TkOK c.tk) (hmo : moC c.cf ≤ 1) :
    Calls Tryz.prog 148 #[.pointer (some ⟨g, 0, none⟩), .bool x] w (Told B w g s r) := by
  have m0 := Mb.start h
  have hB := h.hB
  have hg := h.lt
  have hD := fun w1 => drive7_any w1 c.tk.b c.tk.m s.ta c.tk.l.length s.tc c.tk.p c.tk.fi
  have hN := fun (w1 : World) (h1 : RL .bool w1 s.ta c.tk.l.length s.tc c.tk.l) => read_next w1 c.tk s.ta s.tc x h1 hT
  rw [hq] at hN
  dsimp only at hN
  generalize drT c.tk.p c.tk.fi = d at hD hr
  have q17 := m0.st.q17
  have q18 := m0.st.q18
  have q19 := m0.st.q19
  have q20 := m0.st.q20
  have q21 := m0.st.q21
  simp only [show ((0 : Nat) : Int) = 0 from rfl] at hN
  have hF : (x && !d) = true → ∀ (w1 : World) (s1 : Sl), StB B w1 g { c with tk := t' } s1 → Calls Tryz.prog 146 #[.pointer (some ⟨g, 0, none⟩), .int .u8 4] w1 (Told B w1 g s1 r) := fun hx w1 s1 k => fail_st B w1 g { c with tk := t' } s1 4 r (by rw [hr, if_pos hx]) k hmo
  have H : (x && !d) = false → Hid (r.1 = { c with tk := t' }) ∧ Hid (r.2 = (0, zeroFr)) := fun hx => ⟨hid (by rw [hr, if_neg (by rw [hx]; decide)]), hid (by rw [hr, if_neg (by rw [hx]; decide)]; rfl)⟩
  clear hr hq hT hmo h
  cases x <;> cases d
  all_goals first
    | replace hF := hF rfl
      clear H
      go_enter Tryz.func148, Tryz.ntmps148
      go_wp2_with (first
        | (go_at_call 93; (with_reducible refine (hD _).mono ?_); rintro e w1 ⟨rfl, g1⟩; have m1 := m0.call g1; clear q17 q18 q19 q20 q21; have q17 := m1.st.q17; have q18 := m1.st.q18; have q19 := m1.st.q19; have q20 := m1.st.q20; have q21 := m1.st.q21)
        | (go_at_call 165; (with_reducible refine (hN _ m1.st.ti.rl).mono ?_); rintro e w2 ⟨a2, c2, rfl, o2, g2⟩; have z0 := m1.size; have z2 := g2.size; have m2 := (m1.call g2).alloc (.cells #[.bool t'.b, .int .u8 (t'.m : Int), .slice a2 t'.l.length c2, .int .u8 (t'.p : Int), .bool t'.fi] 40); have m3 := m2.putTk t' a2 c2 (o2.alloc (.cells #[.bool t'.b, .int .u8 (t'.m : Int), .slice a2 t'.l.length c2, .int .u8 (t'.p : Int), .bool t'.fi] 40)) (by omega) hB; obtain ⟨n0, n1, n2, n3, n4⟩ := bx5 (heap_alloc_new w2 (.cells #[.bool t'.b, .int .u8 (t'.m : Int), .slice a2 t'.l.length c2, .int .u8 (t'.p : Int), .bool t'.fi] 40)); have f := m2.st.fz; clear q17 q18 q19 q20 q21; have q17 := m2.st.q17; have q18 := m2.st.q18; have q19 := m2.st.q19; have q20 := m2.st.q20; have q21 := m2.st.q21)
        | (go_at_call 146; (with_reducible refine (hF _ _ m3.st).mono ?_); rintro e w4 ⟨s4, a4, n4, rfl, l4, o4, b4⟩; have m4 := m3.left l4; obtain ⟨p0, p1, p2, p3, p4, p5⟩ := m4.hps; have fp := m4.hpf))
      exact bodyPost_ret (v := .agg (hapA r.2 a4 n4)) (by simp [results, Tryz.results148, go_sem, p0, p1, p2, p3, p4, p5]; rfl) rfl (m3.told l4 o4 b4 _ _ _ _ _ _)
    | obtain ⟨H1, H2⟩ := H rfl
      clear hF
      go_enter Tryz.func148, Tryz.ntmps148
      go_wp2_with (first
        | (go_at_call 93; (with_reducible refine (hD _).mono ?_); rintro e w1 ⟨rfl, g1⟩; have m1 := m0.call g1; clear q17 q18 q19 q20 q21; have q17 := m1.st.q17; have q18 := m1.st.q18; have q19 := m1.st.q19; have q20 := m1.st.q20; have q21 := m1.st.q21)
        | (go_at_call 165; (with_reducible refine (hN _ m1.st.ti.rl).mono ?_); rintro e w2 ⟨a2, c2, rfl, o2, g2⟩; have z0 := m1.size; have z2 := g2.size; have m2 := (m1.call g2).alloc (.cells #[.bool t'.b, .int .u8 (t'.m : Int), .slice a2 t'.l.length c2, .int .u8 (t'.p : Int), .bool t'.fi] 40); have m3 := m2.putTk t' a2 c2 (o2.alloc (.cells #[.bool t'.b, .int .u8 (t'.m : Int), .slice a2 t'.l.length c2, .int .u8 (t'.p : Int), .bool t'.fi] 40)) (by omega) hB; obtain ⟨n0, n1, n2, n3, n4⟩ := bx5 (heap_alloc_new w2 (.cells #[.bool t'.b, .int .u8 (t'.m : Int), .slice a2 t'.l.length c2, .int .u8 (t'.p : Int), .bool t'.fi] 40)); have f := m2.st.fz; clear q17 q18 q19 q20 q21; have q17 := m2.st.q17; have q18 := m2.st.q18; have q19 := m2.st.q19; have q20 := m2.st.q20; have q21 := m2.st.q21; obtain ⟨p0, p1, p2, p3, p4, p5⟩ := m3.hps; have fp := m3.hpf))
      exact bodyPost_ret (v := .agg (hapA (0, zeroFr) none 0)) (by simp [results, Tryz.results148, go_sem, p0, p1, p2, p3, p4, p5]; rfl) rfl (m3.six 0 H1.out H2.out _ _ _ _ _ _)

set_option maxHeartbeats 4000000 in
theorem read_end (r : Ct × Hp) (q : Nat) (t' : Tk) (hq : (nxT c.tk x) = (t', q)) (he : q = 5 ∧ r = overC { c with tk := t' } ∨ q = 6 ∧ r = (newC { c with tk := t' } 7, noH)) (h : StB B w g c s) (hT : TkOK c.tk) :
    Calls Tryz.prog 148 #[.pointer (some ⟨g, 0, none⟩), .bool x] w (Told B w g s r) := by
  have m0 := Mb.start h
  have hB := h.hB
  have hg := h.lt
  have hD := fun w1 => drive7_any w1 c.tk.b c.tk.m s.ta c.tk.l.length s.tc c.tk.p c.tk.fi
  have hN := fun (w1 : World) (h1 : RL .bool w1 s.ta c.tk.l.length s.tc c.tk.l) => read_next w1 c.tk s.ta s.tc x h1 hT
  rw [hq] at hN
  dsimp only at hN
  generalize drT c.tk.p c.tk.fi = d at hD
  have q17 := m0.st.q17
  have q18 := m0.st.q18
  have q19 := m0.st.q19
  have q20 := m0.st.q20
  have q21 := m0.st.q21
  clear hq hT h
  rcases he with ⟨rfl, hr⟩ | ⟨rfl, hr⟩
  · have hF := fun (w1 : World) (s1 : Sl) (k : StB B w1 g { c with tk := t' } s1) => overload_st B w1 g { c with tk := t' } s1 k
    rw [← hr] at hF
    clear hr
    simp only [show ((5 : Nat) : Int) = 5 from rfl] at hN
    go_enter Tryz.func148, Tryz.ntmps148
    go_wp2_with (first
      | (go_at_call 93; (with_reducible refine (hD _).mono ?_); rintro e w1 ⟨rfl, g1⟩; have m1 := m0.call g1; clear q17 q18 q19 q20 q21; have q17 := m1.st.q17; have q18 := m1.st.q18; have q19 := m1.st.q19; have q20 := m1.st.q20; have q21 := m1.st.q21)
      | (go_at_call 165; (with_reducible refine (hN _ m1.st.ti.rl).mono ?_); rintro e w2 ⟨a2, c2, rfl, o2, g2⟩; have z0 := m1.size; have z2 := g2.size; have m2 := (m1.call g2).alloc (.cells #[.bool t'.b, .int .u8 (t'.m : Int), .slice a2 t'.l.length c2, .int .u8 (t'.p : Int), .bool t'.fi] 40); have m3 := m2.putTk t' a2 c2 (o2.alloc (.cells #[.bool t'.b, .int .u8 (t'.m : Int), .slice a2 t'.l.length c2, .int .u8 (t'.p : Int), .bool t'.fi] 40)) (by omega) hB; obtain ⟨n0, n1, n2, n3, n4⟩ := bx5 (heap_alloc_new w2 (.cells #[.bool t'.b, .int .u8 (t'.m : Int), .slice a2 t'.l.length c2, .int .u8 (t'.p : Int), .bool t'.fi] 40)); have f := m2.st.fz; clear q17 q18 q19 q20 q21; have q17 := m2.st.q17; have q18 := m2.st.q18; have q19 := m2.st.q19; have q20 := m2.st.q20; have q21 := m2.st.q21)
      | (go_at_call 154; (with_reducible refine (hF _ _ m3.st).mono ?_); rintro e w4 ⟨s4, a4, n4, rfl, l4, o4, b4⟩; have m4 := m3.left l4; obtain ⟨p0, p1, p2, p3, p4, p5⟩ := m4.hps; have fp := m4.hpf))
    exact bodyPost_ret (v := .agg (hapA r.2 a4 n4)) (by simp [results, Tryz.results148, go_sem, p0, p1, p2, p3, p4, p5]; rfl) rfl (m3.told l4 o4 b4 _ _ _ _ _ _)
  · have hE : ∀ (w1 : World) (s1 : Sl), StB B w1 g { c with tk := t' } s1 → Calls Tryz.prog 152 #[.pointer (some ⟨g, 0, none⟩), .int .u8 7] w1 fun e w' => e = .returned (.tuple #[]) ∧ Left B w1 w' g r.1 s1 s1.new := fun w1 s1 k => by rw [hr]; exact enter_any B w1 g { c with tk := t' } s1 7 k
    have H2 := hid (show r.2 = (0, zeroFr) by rw [hr]; rfl)
    clear hr
    simp only [show ((6 : Nat) : Int) = 6 from rfl] at hN
    go_enter Tryz.func148, Tryz.ntmps148
    go_wp2_with (first
      | (go_at_call 93; (with_reducible refine (hD _).mono ?_); rintro e w1 ⟨rfl, g1⟩; have m1 := m0.call g1; clear q17 q18 q19 q20 q21; have q17 := m1.st.q17; have q18 := m1.st.q18; have q19 := m1.st.q19; have q20 := m1.st.q20; have q21 := m1.st.q21)
      | (go_at_call 165; (with_reducible refine (hN _ m1.st.ti.rl).mono ?_); rintro e w2 ⟨a2, c2, rfl, o2, g2⟩; have z0 := m1.size; have z2 := g2.size; have m2 := (m1.call g2).alloc (.cells #[.bool t'.b, .int .u8 (t'.m : Int), .slice a2 t'.l.length c2, .int .u8 (t'.p : Int), .bool t'.fi] 40); have m3 := m2.putTk t' a2 c2 (o2.alloc (.cells #[.bool t'.b, .int .u8 (t'.m : Int), .slice a2 t'.l.length c2, .int .u8 (t'.p : Int), .bool t'.fi] 40)) (by omega) hB; obtain ⟨n0, n1, n2, n3, n4⟩ := bx5 (heap_alloc_new w2 (.cells #[.bool t'.b, .int .u8 (t'.m : Int), .slice a2 t'.l.length c2, .int .u8 (t'.p : Int), .bool t'.fi] 40)); have f := m2.st.fz; clear q17 q18 q19 q20 q21; have q17 := m2.st.q17; have q18 := m2.st.q18; have q19 := m2.st.q19; have q20 := m2.st.q20; have q21 := m2.st.q21)
      | (go_at_call 152; (with_reducible refine (hE _ _ m3.st).mono ?_); rintro e w4 ⟨rfl, l4⟩; have m4 := m3.left l4; obtain ⟨p0, p1, p2, p3, p4, p5⟩ := m4.hps; have fp := m4.hpf))
    exact bodyPost_ret (v := .agg (hapA (0, zeroFr) none 0)) (by simp [results, Tryz.results148, go_sem, p0, p1, p2, p3, p4, p5]; rfl) rfl (m4.six 0 rfl H2.out _ _ _ _ _ _)

set_option maxHeartbeats 4000000 in
theorem read_got (r : Ct × Hp) (t' : Tk) (hq : (nxT c.tk x) = (t', 4)) (hr : r = ({ c with tk := t', cf := evC c.cf 9 }, (2, paU t'.l))) (hf : t'.p ≠ 0 ∧ t'.fi = true ∧ t'.m ≠ 5) (hl : t'.l.length ≤ 10000) (hm : t'.m < 256) (h : StB B w g c s) (hT : TkOK c.tk) :
    Calls Tryz.prog 148 #[.pointer (some ⟨g, 0, none⟩), .bool x] w (Told B w g s r) := by
  have m0 := Mb.start h
  have hB := h.hB
  have hg := h.lt
  have hD := fun w1 => drive7_any w1 c.tk.b c.tk.m s.ta c.tk.l.length s.tc c.tk.p c.tk.fi
  have hN := fun (w1 : World) (h1 : RL .bool w1 s.ta c.tk.l.length s.tc c.tk.l) => read_next w1 c.tk s.ta s.tc x h1 hT
  rw [hq] at hN
  dsimp only at hN
  generalize drT c.tk.p c.tk.fi = d at hD
  have q17 := m0.st.q17
  have q18 := m0.st.q18
  have q19 := m0.st.q19
  have q20 := m0.st.q20
  have q21 := m0.st.q21
  have hC : ∀ (w1 : World) (s1 : Sl), StB B w1 g { c with tk := t' } s1 → Calls Tryz.prog 153 #[.pointer (some ⟨g, 0, none⟩), .int .u8 9] w1 fun e w' => e = .returned (.tuple #[]) ∧ Left B w1 w' g r.1 s1 s1 := fun w1 s1 k => by rw [hr]; exact count_st B w1 g { c with tk := t' } s1 9 (by omega) k
  have hR := fun (w1 : World) (a1 : Option Addr) (c1 : Nat) (h1 : RL .bool w1 a1 t'.l.length c1 t'.l) => frame7_own w1 t'.b t'.m a1 t'.l.length c1 t'.l t'.p t'.fi h1 hl hm
  have hfr : frF t'.m t'.l t'.p t'.fi = r.2.2 := by
    rw [hr]; unfold frF frN
    obtain ⟨h1, h2, h3⟩ := hf
    rw [decide_eq_false h1, decide_eq_false h3, h2]; rfl
  have htk : r.1.tk = t' := by rw [hr]
  have H2 := hid (show r.2.1 = 2 by rw [hr])
  rw [hfr] at hR
  generalize frK t'.m t'.l t'.p t'.fi = fk at hR
  have hr' : r = (r.1, r.2.1, r.2.2) := rfl
  have HTK := hid htk
  clear hr hq hT h hfr hf hl hm hr' htk
  simp only [show ((4 : Nat) : Int) = 4 from rfl] at hN
  go_enter Tryz.func148, Tryz.ntmps148
  go_wp2_with (first
    | (go_at_call 93; (with_reducible refine (hD _).mono ?_); rintro e w1 ⟨rfl, g1⟩; have m1 := m0.call g1; clear q17 q18 q19 q20 q21; have q17 := m1.st.q17; have q18 := m1.st.q18; have q19 := m1.st.q19; have q20 := m1.st.q20; have q21 := m1.st.q21)
    | (go_at_call 165; (with_reducible refine (hN _ m1.st.ti.rl).mono ?_); rintro e w2 ⟨a2, c2, rfl, o2, g2⟩; have z0 := m1.size; have z2 := g2.size; have m2 := (m1.call g2).alloc (.cells #[.bool t'.b, .int .u8 (t'.m : Int), .slice a2 t'.l.length c2, .int .u8 (t'.p : Int), .bool t'.fi] 40); have m3 := m2.putTk t' a2 c2 (o2.alloc (.cells #[.bool t'.b, .int .u8 (t'.m : Int), .slice a2 t'.l.length c2, .int .u8 (t'.p : Int), .bool t'.fi] 40)) (by omega) hB; obtain ⟨n0, n1, n2, n3, n4⟩ := bx5 (heap_alloc_new w2 (.cells #[.bool t'.b, .int .u8 (t'.m : Int), .slice a2 t'.l.length c2, .int .u8 (t'.p : Int), .bool t'.fi] 40)); have f := m2.st.fz; clear q17 q18 q19 q20 q21; have q17 := m2.st.q17; have q18 := m2.st.q18; have q19 := m2.st.q19; have q20 := m2.st.q20; have q21 := m2.st.q21)
    | (go_at_call 153; (with_reducible refine (hC _ _ m3.st).mono ?_); rintro e w4 ⟨rfl, l4⟩; have m4 := m3.left l4; have u4 := m4.st.ti.rl; clear q17 q18 q19 q20 q21 n0 n1 n2 n3 n4; have q17 := m4.st.q17; have q18 := m4.st.q18; have q19 := m4.st.q19; have q20 := m4.st.q20; have q21 := m4.st.q21; rw [HTK.out] at q17 q18 q19 q20 q21 u4)
    | (go_at_call 173; (with_reducible refine (hR _ _ _ u4).mono ?_); rintro e w5 ⟨a5, c5, rfl, o5, g5⟩; have z4 := m4.size; have z5 := g5.size; have o6 := o5.alloc (.cells #[.int .u32 (r.2.2.id : Int), .bool r.2.2.ext, .bool r.2.2.rem, .int .u8 (r.2.2.dlc : Int), .slice a5 r.2.2.data.length c5] 35); have m6 := (m4.call g5).alloc (.cells #[.int .u32 (r.2.2.id : Int), .bool r.2.2.ext, .bool r.2.2.rem, .int .u8 (r.2.2.dlc : Int), .slice a5 r.2.2.data.length c5] 35); obtain ⟨n0, n1, n2, n3, n4⟩ := bx5 (heap_alloc_new w5 (.cells #[.int .u32 (r.2.2.id : Int), .bool r.2.2.ext, .bool r.2.2.rem, .int .u8 (r.2.2.dlc : Int), .slice a5 r.2.2.data.length c5] 35)); obtain ⟨p0, p1, p2, p3, p4, p5⟩ := m6.hps; have fp := m6.hpf))
  exact bodyPost_ret (v := .agg #[.int .u8 2, .int .u32 (r.2.2.id : Int), .bool r.2.2.ext, .bool r.2.2.rem, .int .u8 (r.2.2.dlc : Int), .slice a5 r.2.2.data.length c5]) (by simp [results, Tryz.results148, go_sem, p0, p1, p2, p3, p4, p5]) rfl (by have := m6.tells o6 (by omega) (by omega) (.int .u8 2) (.int .u32 (r.2.2.id : Int)) (.bool r.2.2.ext) (.bool r.2.2.rem) (.int .u8 (r.2.2.dlc : Int)) (.slice a5 r.2.2.data.length c5); unfold hapA at this; rw [H2.out] at this; exact this)

theorem nxT_four {t : Tk} (h : (nxT t x).2 = 4) : t.p = 9 ∧ (nxT t x).1 = { t with p := 10 } := by
  unfold nxT at h ⊢
  by_cases h0 : t.p = 0
  · rw [if_pos h0] at h; split at h
    · simp at h
    · split at h <;> simp at h
  rw [if_neg h0] at h ⊢
  by_cases h2 : t.p = 2
  · rw [if_pos h2] at h; simp at h
  rw [if_neg h2] at h ⊢
  by_cases h10 : t.p = 10
  · rw [if_pos h10] at h; cases x <;> simp at h
  rw [if_neg h10] at h ⊢
  by_cases h11 : 10 < t.p
  · rw [if_pos h11] at h; simp at h
  rw [if_neg h11] at h ⊢
  by_cases hx : x = false
  · rw [if_pos hx] at h; simp at h
  rw [if_neg hx] at h ⊢
  by_cases h3 : t.p = 3 ∧ t.fi = false
  · rw [if_pos h3] at h; simp at h
  rw [if_neg h3] at h ⊢
  by_cases h9 : t.p = 9
  · exact ⟨h9, by rw [h9]⟩
  · simp [h9] at h

/-- A frame that the controller does not send: a bit. -/
theorem read_st (r : Ct × Hp) (hr : r = rcvC c x) (h : StB B w g c s) (hT : TkOK c.tk) (hmo : moC c.cf ≤ 1) :
    Calls Tryz.prog 148 #[.pointer (some ⟨g, 0, none⟩), .bool x] w (Told B w g s r) := by
  have h6 := nxT_le c.tk x
  have h4 := @nxT_four x c.tk
  obtain ⟨⟨t', q⟩, hq⟩ : ∃ z, nxT c.tk x = z := ⟨_, rfl⟩
  unfold rcvC at hr
  rw [hq] at hr h6 h4
  dsimp only at hr h6 h4
  rcases (show q = 0 ∨ q = 1 ∨ q = 2 ∨ q = 3 ∨ q = 4 ∨ q = 5 ∨ q = 6 by omega) with rfl | rfl | rfl | rfl | rfl | rfl | rfl
  · exact read_more B w g c s x r t' hq (by rw [hr]; rfl) h hT hmo
  · exact read_err B w g c s x r 1 5 t' hq (by omega) (by rw [hr]; rfl) h hT hmo
  · exact read_err B w g c s x r 2 6 t' hq (by omega) (by rw [hr]; rfl) h hT hmo
  · exact read_err B w g c s x r 3 8 t' hq (by omega) (by rw [hr]; rfl) h hT hmo
  · obtain ⟨k1, k2⟩ := h4 rfl
    obtain ⟨k3, k4⟩ := hT.nine k1
    have hL := hT.len
    have hm := hT.ri.1
    refine read_got B w g c s x r t' hq (by rw [hr]; rfl) ?_ ?_ ?_ h hT
    · rw [k2]; exact ⟨by simp, k3, k4⟩
    · rw [k2]; dsimp only; omega
    · rw [k2]; dsimp only; omega
  · exact read_end B w g c s x r 5 t' hq (.inl ⟨rfl, by rw [hr]; rfl⟩) h hT
  · exact read_end B w g c s x r 6 t' hq (.inr ⟨rfl, by rw [hr]; rfl⟩) h hT
end
end Go.Proofs.YtajdbimdiodalaaGreat

namespace Go.Proofs.YtajdbimdiodalaaGreat
open Go.RowKit Go.Sort
set_option linter.unusedVariables false

theorem atAck_st (B : Nat) (w : World) (g : Nat) (c : Ct) (s : Sl) (h : StB B w g c s) (hl : c.wire.length ≤ 100000) (hp : c.pos ≤ 100000) :
    Calls Tryz.prog 169 #[.pointer (some ⟨g, 0, none⟩)] w fun e w' => e = .returned (.bool (decide (c.pos + 9 = c.wire.length))) ∧ Below w.heap.size w w' := by
  have q16 := h.q16
  have q15 := h.q15
  have hk : decide (c.pos + 9 = c.wire.length) = decide ((c.pos : Int) = (c.wire.length : Int) - 9) := by rw [decide_eq_decide]; omega
  rw [hk]
  clear hk h
  generalize c.wire.length = n at *
  generalize c.pos = p at *
  have b0 : (0 : Int) ≤ n := by omega
  have b1 : (n : Int) ≤ 100000 := by omega
  by_cases hq : (p : Int) = (n : Int) - 9
  · rw [decide_eq_true hq]
    go_enter Tryz.func169, Tryz.ntmps169
    go_wp2_with (fail)
    go_quiet (fail)
    go_wp2
    go_ret
    exact ⟨by simp, below_drewN (Below.refl _ _) _⟩
  · rw [decide_eq_false hq]
    go_enter Tryz.func169, Tryz.ntmps169
    go_wp2_with (fail)
    go_quiet (fail)
    go_wp2
    go_ret
    exact ⟨by simp [hq], below_drewN (Below.refl _ _) _⟩

theorem inContest_st (B : Nat) (w : World) (g : Nat) (c : Ct) (s : Sl) (h : StB B w g c s) :
    Calls Tryz.prog 171 #[.pointer (some ⟨g, 0, none⟩)] w fun e w' => e = .returned (.bool (decide (c.tk.l.length ≤ if c.give.ext then 32 else 12))) ∧ Below w.heap.size w w' := by
  have q9 := h.q9
  have q19 := h.q19
  cases he : c.give.ext
  · rw [he] at q9
    simp only [Bool.false_eq_true, if_false]
    have hk : decide (c.tk.l.length ≤ 12) = decide ((c.tk.l.length : Int) ≤ 12) := by rw [decide_eq_decide]; omega
    rw [hk]
    clear hk h he
    go_enter Tryz.func171, Tryz.ntmps171
    go_wp2
    go_ret
    exact ⟨rfl, Below.refl _ _⟩
  · rw [he] at q9
    simp only [if_true]
    have hk : decide (c.tk.l.length ≤ 32) = decide ((c.tk.l.length : Int) ≤ 32) := by rw [decide_eq_decide]; omega
    rw [hk]
    clear hk h he
    go_enter Tryz.func171, Tryz.ntmps171
    go_wp2
    go_ret
    exact ⟨rfl, Below.refl _ _⟩

set_option maxRecDepth 100000 in
set_option maxHeartbeats 2000000 in
theorem onWire_any (w : World) (c : Ct) (s : Sl) (h : RL .bool w s.wa c.wire.length s.wc c.wire) (hp : c.pos < c.wire.length) :
    Calls Tryz.prog 92 #[.agg (ctA c s)] w fun e w' => e = .returned (.bool (c.wire[c.pos]?.getD false)) ∧ Below w.heap.size w w' := by
  obtain ⟨da, dc, wa, wc, ta, tc⟩ := s
  dsimp only at h
  have hb : (w.alloc (.cells (ctA c ⟨da, dc, wa, wc, ta, tc⟩) 42)).heap[w.heap.size]? = some (.cells (ctA c ⟨da, dc, wa, wc, ta, tc⟩) 42 (0, 0)) := heap_alloc_new w _
  have q15 : (w.alloc (.cells (ctA c ⟨da, dc, wa, wc, ta, tc⟩) 42)).cell? ⟨w.heap.size, 15, none⟩ = some (.slice wa c.wire.length wc) := by rw [cell_of_row _ _ 15 _ _ _ hb]; rfl
  have q16 : (w.alloc (.cells (ctA c ⟨da, dc, wa, wc, ta, tc⟩) 42)).cell? ⟨w.heap.size, 16, none⟩ = some (.int .i64 (c.pos : Int)) := by rw [cell_of_row _ _ 16 _ _ _ hb]; rfl
  have h2 := h.below (bnew0 w (.cells (ctA c ⟨da, dc, wa, wc, ta, tc⟩) 42))
  obtain ⟨b, off, y, e1, hy, hck⟩ := h2.at (k := c.pos) (by omega)
  have hg : c.wire[c.pos]?.getD false = y := by rw [hy]; rfl
  have g1 := bnew0 w (.cells (ctA c ⟨da, dc, wa, wc, ta, tc⟩) 42)
  subst e1
  rw [hg]
  have d1 : decide ((c.pos : Int) < 0) = false := decide_eq_false (by omega)
  have d2 : decide (c.wire.length ≤ c.pos) = false := decide_eq_false (by omega)
  have b0 : (0 : Int) ≤ (c.pos : Int) := by omega
  have b1 : (c.pos : Int) < (c.wire.length : Int) := by omega
  clear hg hy h h2 hp hb
  unfold ctA at *
  dsimp only at *
  go_enter Tryz.func92, Tryz.ntmps92
  go_wp2
  go_ret
  exact ⟨by simp, g1⟩
end Go.Proofs.YtajdbimdiodalaaGreat
