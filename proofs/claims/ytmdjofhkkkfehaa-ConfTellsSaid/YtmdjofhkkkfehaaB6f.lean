/-
  The document's Event at whatever counters; contracts of Bit (the program's and the document's).
-/
import Derived.Test.YtmdjofhkkkfehaaB6e
namespace Go.Proofs.Ytmdjofhkkkfehaa
open Go.RowKit
set_option linter.unusedVariables false

set_option maxHeartbeats 1000000 in
theorem refEvent_any (w : World) (t r : Int) (o : Bool) (n m : Int) (k : Nat) (hk : k < 256) : Calls Try.prog 11 #[.agg #[.int .i64 t, .int .i64 r, .bool o, .int .i64 n, .int .i64 m], .int .u8 (k : Int)] w fun e w' =>
    e = .returned (.tuple #[.agg #[.int .i64 (evC ⟨t, r, o, n, m⟩ k).t, .int .i64 (evC ⟨t, r, o, n, m⟩ k).r, .bool (evC ⟨t, r, o, n, m⟩ k).o, .int .i64 (evC ⟨t, r, o, n, m⟩ k).n, .int .i64 (evC ⟨t, r, o, n, m⟩ k).m], .int .i64 (evE ⟨t, r, o, n, m⟩ k)]) ∧ Below w.heap.size w w' := by
  have hR := fun w => refRight_any w t r o n m
  cases hr : riC ⟨t, r, o, n, m⟩
  · rw [hr] at hR
    rw [show evC ⟨t, r, o, n, m⟩ k = ⟨t, r, o, n, m⟩ by simp [evC, hr], show evE ⟨t, r, o, n, m⟩ k = 60 by simp [evE, hr]]
    clear hr
    go_enter Try.func11, Try.ntmps11
    go_wp2_with (go_at_call 13; (with_reducible refine (hR _).mono ?_); rintro e w1 ⟨rfl, g1⟩; obtain ⟨⟨c0, c1, c2, c3, c4⟩, ⟨d0, d1, d2, d3, d4⟩, f1, f2, gg1⟩ := two_five g1)
    refine bodyPost_ret (v := .tuple #[.agg #[.int .i64 t, .int .i64 r, .bool o, .int .i64 n, .int .i64 m], .int .i64 60]) (by simp [results, Try.results11, go_sem, d0, d1, d2, d3, d4]) rfl ⟨rfl, ?_⟩
    repeat (first | with_reducible exact gg1 | with_reducible refine Below.setCell ?_ (by simp) _ | with_reducible refine bnew ?_ _)
  rw [hr] at hR
  by_cases hkk : 1 ≤ k ∧ k ≤ 9
  · rw [show evE ⟨t, r, o, n, m⟩ k = 0 by unfold evE; rw [if_neg (by rw [hr]; simp; omega)]]
    cases o
    · obtain ⟨r0, r1, t0, t1, n0, m0⟩ := ri_on hr rfl
      rw [show evC ⟨t, r, false, n, m⟩ k = evO ⟨t, r, false, n, m⟩ k by unfold evC; rw [if_neg (by rw [hr]; simp; omega)]; rfl]
      unfold evO
      dsimp only
      dsimp only at r0 r1 t0 t1
      have z1 : decide (t > 255) = false := by simp; omega
      have z2 : decide (max (t - 1) 0 > 255) = false := by simp; omega
      obtain rfl | rfl | rfl | rfl | rfl | rfl | rfl | rfl | rfl : k = 1 ∨ k = 2 ∨ k = 3 ∨ k = 4 ∨ k = 5 ∨ k = 6 ∨ k = 7 ∨ k = 8 ∨ k = 9 := by omega
      · rw [show teA t 1 = t by simp [teA], show reA r 1 = min (r + 1) 255 by simp [reA], z1]
        exact refE_first w t r n m 1 r0 r1 t0 t1 hR rfl
      · rw [show teA t 2 = t by simp [teA], show reA r 2 = min (r + 8) 255 by simp [reA], z1]
        exact refE_heavy2 w t r n m 2 r0 r1 t0 t1 hR rfl
      · rw [show teA t 3 = t by simp [teA], show reA r 3 = min (r + 8) 255 by simp [reA], z1]
        exact refE_heavy3 w t r n m 3 r0 r1 t0 t1 hR rfl
      · rw [show teA t 4 = t by simp [teA], show reA r 4 = min (r + 8) 255 by simp [reA], z1]
        exact refE_heavy4 w t r n m 4 r0 r1 t0 t1 hR rfl
      · rw [show teA t 5 = t + 8 by simp [teA], show reA r 5 = r by simp [reA]]
        exact refE_send5 w t r n m 5 r0 r1 t0 t1 hR rfl
      · rw [show teA t 6 = t + 8 by simp [teA], show reA r 6 = r by simp [reA]]
        exact refE_send6 w t r n m 6 r0 r1 t0 t1 hR rfl
      · rw [show teA t 7 = t + 8 by simp [teA], show reA r 7 = r by simp [reA]]
        exact refE_send7 w t r n m 7 r0 r1 t0 t1 hR rfl
      · rw [show teA t 8 = max (t - 1) 0 by simp [teA], show reA r 8 = r by simp [reA], z2]
        exact refE_sent w t r n m 8 r0 r1 t0 t1 hR rfl
      · rw [show teA t 9 = t by simp [teA], show reA r 9 = if 127 < r then 119 else max (r - 1) 0 by simp [reA], z1]
        exact refE_took w t r n m 9 r0 r1 t0 t1 hR rfl
    · rw [show evC ⟨t, r, true, n, m⟩ k = ⟨t, r, true, n, m⟩ by simp [evC]]
      have j1 : ¬ k < 1 := by omega
      have j2 : ¬ 9 < k := by omega
      have j3 : decide (k < 1) = false := by simp; omega
      have j4 : decide (9 < k) = false := by simp; omega
      have j5 : ¬ (k : Int) < 1 := by omega
      have j6 : ¬ 9 < (k : Int) := by omega
      clear hr
      go_enter Try.func11, Try.ntmps11
      go_wp2_with (go_at_call 13; (with_reducible refine (hR _).mono ?_); rintro e w1 ⟨rfl, g1⟩; obtain ⟨⟨c0, c1, c2, c3, c4⟩, ⟨d0, d1, d2, d3, d4⟩, f1, f2, gg1⟩ := two_five g1)
      refine bodyPost_ret (v := .tuple #[.agg #[.int .i64 t, .int .i64 r, .bool true, .int .i64 n, .int .i64 m], .int .i64 0]) (by simp [results, Try.results11, go_sem, d0, d1, d2, d3, d4]) rfl ⟨rfl, ?_⟩
      repeat (first | with_reducible exact gg1 | with_reducible refine Below.setCell ?_ (by simp) _ | with_reducible refine bnew ?_ _)
  · rw [show evC ⟨t, r, o, n, m⟩ k = ⟨t, r, o, n, m⟩ by unfold evC; rw [if_pos (by omega)], show evE ⟨t, r, o, n, m⟩ k = 60 by unfold evE; rw [if_pos (by omega)]]
    clear hr
    by_cases j1 : k < 1
    · obtain rfl : k = 0 := by omega
      go_enter Try.func11, Try.ntmps11
      go_wp2_with (go_at_call 13; (with_reducible refine (hR _).mono ?_); rintro e w1 ⟨rfl, g1⟩; obtain ⟨⟨c0, c1, c2, c3, c4⟩, ⟨d0, d1, d2, d3, d4⟩, f1, f2, gg1⟩ := two_five g1)
      refine bodyPost_ret (v := .tuple #[.agg #[.int .i64 t, .int .i64 r, .bool o, .int .i64 n, .int .i64 m], .int .i64 60]) (by simp [results, Try.results11, go_sem, d0, d1, d2, d3, d4]) rfl ⟨rfl, ?_⟩
      repeat (first | with_reducible exact gg1 | with_reducible refine Below.setCell ?_ (by simp) _ | with_reducible refine bnew ?_ _)
    · have j2 : 9 < k := by omega
      have j5 : ¬ (k : Int) < 1 := by omega
      have j6 : 9 < (k : Int) := by omega
      go_enter Try.func11, Try.ntmps11
      go_wp2_with (go_at_call 13; (with_reducible refine (hR _).mono ?_); rintro e w1 ⟨rfl, g1⟩; obtain ⟨⟨c0, c1, c2, c3, c4⟩, ⟨d0, d1, d2, d3, d4⟩, f1, f2, gg1⟩ := two_five g1)
      refine bodyPost_ret (v := .tuple #[.agg #[.int .i64 t, .int .i64 r, .bool o, .int .i64 n, .int .i64 m], .int .i64 60]) (by simp [results, Try.results11, go_sem, d0, d1, d2, d3, d4]) rfl ⟨rfl, ?_⟩
      repeat (first | with_reducible exact gg1 | with_reducible refine Below.setCell ?_ (by simp) _ | with_reducible refine bnew ?_ _)

set_option maxHeartbeats 1000000 in
theorem bit_any (w : World) (t r : Int) (o : Bool) (n m : Int) (x : Bool) : Calls Try.prog 16 #[.agg #[.int .i64 t, .int .i64 r, .bool o, .int .i64 n, .int .i64 m], .bool x] w fun e w' =>
    e = .returned (.agg #[.int .i64 (biC ⟨t, r, o, n, m⟩ x).t, .int .i64 (biC ⟨t, r, o, n, m⟩ x).r, .bool (biC ⟨t, r, o, n, m⟩ x).o, .int .i64 (biC ⟨t, r, o, n, m⟩ x).n, .int .i64 (biC ⟨t, r, o, n, m⟩ x).m]) ∧ Below w.heap.size w w' := by
  have hR := fun w => right_any w t r o n m
  cases hr : riC ⟨t, r, o, n, m⟩
  · rw [hr] at hR
    rw [show biC ⟨t, r, o, n, m⟩ x = ⟨t, r, o, n, m⟩ by simp [biC, hr]]
    clear hr
    go_enter Try.func16, Try.ntmps16
    go_wp2_with (go_at_call 12; (with_reducible refine (hR _).mono ?_); rintro e w1 ⟨rfl, g1⟩; obtain ⟨⟨c0, c1, c2, c3, c4⟩, ⟨d0, d1, d2, d3, d4⟩, f1, f2, gg1⟩ := two_five g1)
    refine bodyPost_ret (v := .agg #[.int .i64 t, .int .i64 r, .bool o, .int .i64 n, .int .i64 m]) (by simp [results, Try.results16, go_sem, d0, d1, d2, d3, d4]) rfl ⟨rfl, ?_⟩
    repeat (first | with_reducible exact gg1 | with_reducible refine Below.setCell ?_ (by simp) _ | with_reducible refine bnew ?_ _)
  rw [hr] at hR
  cases o
  · rw [show biC ⟨t, r, false, n, m⟩ x = ⟨t, r, false, n, m⟩ by simp [biC]]
    clear hr
    go_enter Try.func16, Try.ntmps16
    go_wp2_with (go_at_call 12; (with_reducible refine (hR _).mono ?_); rintro e w1 ⟨rfl, g1⟩; obtain ⟨⟨c0, c1, c2, c3, c4⟩, ⟨d0, d1, d2, d3, d4⟩, f1, f2, gg1⟩ := two_five g1)
    refine bodyPost_ret (v := .agg #[.int .i64 t, .int .i64 r, .bool false, .int .i64 n, .int .i64 m]) (by simp [results, Try.results16, go_sem, d0, d1, d2, d3, d4]) rfl ⟨rfl, ?_⟩
    repeat (first | with_reducible exact gg1 | with_reducible refine Below.setCell ?_ (by simp) _ | with_reducible refine bnew ?_ _)
  obtain ⟨r0, r1, t0, t1, n0, n1, m0, m1⟩ := ri_off hr rfl
  dsimp only at r0 r1 t0 t1 n0 n1 m0 m1
  cases x
  · rw [show biC ⟨t, r, true, n, m⟩ false = ⟨t, r, true, 0, m⟩ by simp [biC, hr]]
    clear hr
    go_enter Try.func16, Try.ntmps16
    go_wp2_with (go_at_call 12; (with_reducible refine (hR _).mono ?_); rintro e w1 ⟨rfl, g1⟩; obtain ⟨⟨c0, c1, c2, c3, c4⟩, ⟨d0, d1, d2, d3, d4⟩, f1, f2, gg1⟩ := two_five g1)
    refine bodyPost_ret (v := .agg #[.int .i64 t, .int .i64 r, .bool true, .int .i64 0, .int .i64 m]) (by simp [results, Try.results16, go_sem, d0, d1, d2, d3, d4]) rfl ⟨rfl, ?_⟩
    repeat (first | with_reducible exact gg1 | with_reducible refine Below.setCell ?_ (by simp) _ | with_reducible refine bnew ?_ _)
  rw [show biC ⟨t, r, true, n, m⟩ true = upC ⟨t, r, true, n, m⟩ by simp [biC, hr]]
  clear hr
  by_cases h : n + 1 < 11
  · rw [show upC ⟨t, r, true, n, m⟩ = ⟨t, r, true, n + 1, m⟩ by unfold upC; rw [if_pos h]]
    have e1 : (n + 1 == 11) = false := by simp; omega
    have e2 : (m == 128) = false := by simp; omega
    go_enter Try.func16, Try.ntmps16
    go_wp2_with (go_at_call 12; (with_reducible refine (hR _).mono ?_); rintro e w1 ⟨rfl, g1⟩; obtain ⟨⟨c0, c1, c2, c3, c4⟩, ⟨d0, d1, d2, d3, d4⟩, f1, f2, gg1⟩ := two_five g1)
    refine bodyPost_ret (v := .agg #[.int .i64 t, .int .i64 r, .bool true, .int .i64 (n + 1), .int .i64 m]) (by simp [results, Try.results16, go_sem, d0, d1, d2, d3, d4]) rfl ⟨rfl, ?_⟩
    repeat (first | with_reducible exact gg1 | with_reducible refine Below.setCell ?_ (by simp) _ | with_reducible refine bnew ?_ _)
  have e1 : (n + 1 == 11) = true := by simp; omega
  by_cases h2 : m + 1 = 128
  · rw [show upC ⟨t, r, true, n, m⟩ = ⟨0, 0, false, 0, 0⟩ by unfold upC; rw [if_neg h, if_pos h2]]
    have e2 : (m + 1 == 128) = true := by simp; omega
    clear h2
    go_enter Try.func16, Try.ntmps16
    go_wp2_with (go_at_call 12; (with_reducible refine (hR _).mono ?_); rintro e w1 ⟨rfl, g1⟩; obtain ⟨⟨c0, c1, c2, c3, c4⟩, ⟨d0, d1, d2, d3, d4⟩, f1, f2, gg1⟩ := two_five g1)
    refine bodyPost_ret (v := .agg #[.int .i64 0, .int .i64 0, .bool false, .int .i64 0, .int .i64 0]) (by simp [results, Try.results16, go_sem, d0, d1, d2, d3, d4]) rfl ⟨rfl, ?_⟩
    repeat (first | with_reducible exact gg1 | with_reducible refine Below.setCell ?_ (by simp) _ | with_reducible refine bnew ?_ _)
  · rw [show upC ⟨t, r, true, n, m⟩ = ⟨t, r, true, 0, m + 1⟩ by unfold upC; rw [if_neg h, if_neg h2]]
    have e2 : (m + 1 == 128) = false := by simp; omega
    clear h2
    go_enter Try.func16, Try.ntmps16
    go_wp2_with (go_at_call 12; (with_reducible refine (hR _).mono ?_); rintro e w1 ⟨rfl, g1⟩; obtain ⟨⟨c0, c1, c2, c3, c4⟩, ⟨d0, d1, d2, d3, d4⟩, f1, f2, gg1⟩ := two_five g1)
    refine bodyPost_ret (v := .agg #[.int .i64 t, .int .i64 r, .bool true, .int .i64 0, .int .i64 (m + 1)]) (by simp [results, Try.results16, go_sem, d0, d1, d2, d3, d4]) rfl ⟨rfl, ?_⟩
    repeat (first | with_reducible exact gg1 | with_reducible refine Below.setCell ?_ (by simp) _ | with_reducible refine bnew ?_ _)

set_option maxHeartbeats 1000000 in
theorem refBit_any (w : World) (t r : Int) (o : Bool) (n m : Int) (x : Bool) : Calls Try.prog 17 #[.agg #[.int .i64 t, .int .i64 r, .bool o, .int .i64 n, .int .i64 m], .bool x] w fun e w' =>
    e = .returned (.agg #[.int .i64 (biC ⟨t, r, o, n, m⟩ x).t, .int .i64 (biC ⟨t, r, o, n, m⟩ x).r, .bool (biC ⟨t, r, o, n, m⟩ x).o, .int .i64 (biC ⟨t, r, o, n, m⟩ x).n, .int .i64 (biC ⟨t, r, o, n, m⟩ x).m]) ∧ Below w.heap.size w w' := by
  have hR := fun w => refRight_any w t r o n m
  cases hr : riC ⟨t, r, o, n, m⟩
  · rw [hr] at hR
    rw [show biC ⟨t, r, o, n, m⟩ x = ⟨t, r, o, n, m⟩ by simp [biC, hr]]
    clear hr
    go_enter Try.func17, Try.ntmps17
    go_wp2_with (go_at_call 13; (with_reducible refine (hR _).mono ?_); rintro e w1 ⟨rfl, g1⟩; obtain ⟨⟨c0, c1, c2, c3, c4⟩, ⟨d0, d1, d2, d3, d4⟩, f1, f2, gg1⟩ := two_five g1)
    refine bodyPost_ret (v := .agg #[.int .i64 t, .int .i64 r, .bool o, .int .i64 n, .int .i64 m]) (by simp [results, Try.results17, go_sem, d0, d1, d2, d3, d4]) rfl ⟨rfl, ?_⟩
    repeat (first | with_reducible exact gg1 | with_reducible refine Below.setCell ?_ (by simp) _ | with_reducible refine bnew ?_ _)
  rw [hr] at hR
  cases o
  · rw [show biC ⟨t, r, false, n, m⟩ x = ⟨t, r, false, n, m⟩ by simp [biC]]
    clear hr
    go_enter Try.func17, Try.ntmps17
    go_wp2_with (go_at_call 13; (with_reducible refine (hR _).mono ?_); rintro e w1 ⟨rfl, g1⟩; obtain ⟨⟨c0, c1, c2, c3, c4⟩, ⟨d0, d1, d2, d3, d4⟩, f1, f2, gg1⟩ := two_five g1)
    refine bodyPost_ret (v := .agg #[.int .i64 t, .int .i64 r, .bool false, .int .i64 n, .int .i64 m]) (by simp [results, Try.results17, go_sem, d0, d1, d2, d3, d4]) rfl ⟨rfl, ?_⟩
    repeat (first | with_reducible exact gg1 | with_reducible refine Below.setCell ?_ (by simp) _ | with_reducible refine bnew ?_ _)
  obtain ⟨r0, r1, t0, t1, n0, n1, m0, m1⟩ := ri_off hr rfl
  dsimp only at r0 r1 t0 t1 n0 n1 m0 m1
  cases x
  · rw [show biC ⟨t, r, true, n, m⟩ false = ⟨t, r, true, 0, m⟩ by simp [biC, hr]]
    clear hr
    go_enter Try.func17, Try.ntmps17
    go_wp2_with (go_at_call 13; (with_reducible refine (hR _).mono ?_); rintro e w1 ⟨rfl, g1⟩; obtain ⟨⟨c0, c1, c2, c3, c4⟩, ⟨d0, d1, d2, d3, d4⟩, f1, f2, gg1⟩ := two_five g1)
    refine bodyPost_ret (v := .agg #[.int .i64 t, .int .i64 r, .bool true, .int .i64 0, .int .i64 m]) (by simp [results, Try.results17, go_sem, d0, d1, d2, d3, d4]) rfl ⟨rfl, ?_⟩
    repeat (first | with_reducible exact gg1 | with_reducible refine Below.setCell ?_ (by simp) _ | with_reducible refine bnew ?_ _)
  rw [show biC ⟨t, r, true, n, m⟩ true = upC ⟨t, r, true, n, m⟩ by simp [biC, hr]]
  clear hr
  by_cases h : n + 1 < 11
  · rw [show upC ⟨t, r, true, n, m⟩ = ⟨t, r, true, n + 1, m⟩ by unfold upC; rw [if_pos h]]
    have e1 : (n + 1 == 11) = false := by simp; omega
    have e2 : (m == 128) = false := by simp; omega
    go_enter Try.func17, Try.ntmps17
    go_wp2_with (go_at_call 13; (with_reducible refine (hR _).mono ?_); rintro e w1 ⟨rfl, g1⟩; obtain ⟨⟨c0, c1, c2, c3, c4⟩, ⟨d0, d1, d2, d3, d4⟩, f1, f2, gg1⟩ := two_five g1)
    refine bodyPost_ret (v := .agg #[.int .i64 t, .int .i64 r, .bool true, .int .i64 (n + 1), .int .i64 m]) (by simp [results, Try.results17, go_sem, d0, d1, d2, d3, d4]) rfl ⟨rfl, ?_⟩
    repeat (first | with_reducible exact gg1 | with_reducible refine Below.setCell ?_ (by simp) _ | with_reducible refine bnew ?_ _)
  have e1 : (n + 1 == 11) = true := by simp; omega
  by_cases h2 : m + 1 = 128
  · rw [show upC ⟨t, r, true, n, m⟩ = ⟨0, 0, false, 0, 0⟩ by unfold upC; rw [if_neg h, if_pos h2]]
    have e2 : (m + 1 == 128) = true := by simp; omega
    clear h2
    go_enter Try.func17, Try.ntmps17
    go_wp2_with (go_at_call 13; (with_reducible refine (hR _).mono ?_); rintro e w1 ⟨rfl, g1⟩; obtain ⟨⟨c0, c1, c2, c3, c4⟩, ⟨d0, d1, d2, d3, d4⟩, f1, f2, gg1⟩ := two_five g1)
    refine bodyPost_ret (v := .agg #[.int .i64 0, .int .i64 0, .bool false, .int .i64 0, .int .i64 0]) (by simp [results, Try.results17, go_sem, d0, d1, d2, d3, d4]) rfl ⟨rfl, ?_⟩
    repeat (first | with_reducible exact gg1 | with_reducible refine Below.setCell ?_ (by simp) _ | with_reducible refine bnew ?_ _)
  · rw [show upC ⟨t, r, true, n, m⟩ = ⟨t, r, true, 0, m + 1⟩ by unfold upC; rw [if_neg h, if_neg h2]]
    have e2 : (m + 1 == 128) = false := by simp; omega
    clear h2
    go_enter Try.func17, Try.ntmps17
    go_wp2_with (go_at_call 13; (with_reducible refine (hR _).mono ?_); rintro e w1 ⟨rfl, g1⟩; obtain ⟨⟨c0, c1, c2, c3, c4⟩, ⟨d0, d1, d2, d3, d4⟩, f1, f2, gg1⟩ := two_five g1)
    refine bodyPost_ret (v := .agg #[.int .i64 t, .int .i64 r, .bool true, .int .i64 0, .int .i64 (m + 1)]) (by simp [results, Try.results17, go_sem, d0, d1, d2, d3, d4]) rfl ⟨rfl, ?_⟩
    repeat (first | with_reducible exact gg1 | with_reducible refine Below.setCell ?_ (by simp) _ | with_reducible refine bnew ?_ _)

end Go.Proofs.Ytmdjofhkkkfehaa
