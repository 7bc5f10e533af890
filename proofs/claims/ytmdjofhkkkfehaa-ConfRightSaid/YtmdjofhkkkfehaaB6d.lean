/-
  Contract of Event.
-/
import Derived.Test.YtmdjofhkkkfehaaB6c
namespace Go.Proofs.Ytmdjofhkkkfehaa
open Go.RowKit
set_option linter.unusedVariables false

set_option maxHeartbeats 1000000 in
theorem event_any (w : World) (t r : Int) (o : Bool) (n m : Int) (k : Nat) (hk : k < 256) : Calls Try.prog 10 #[.agg #[.int .i64 t, .int .i64 r, .bool o, .int .i64 n, .int .i64 m], .int .u8 (k : Int)] w fun e w' =>
    e = .returned (.tuple #[.agg #[.int .i64 (evC ⟨t, r, o, n, m⟩ k).t, .int .i64 (evC ⟨t, r, o, n, m⟩ k).r, .bool (evC ⟨t, r, o, n, m⟩ k).o, .int .i64 (evC ⟨t, r, o, n, m⟩ k).n, .int .i64 (evC ⟨t, r, o, n, m⟩ k).m], .int .i64 (evE ⟨t, r, o, n, m⟩ k)]) ∧ Below w.heap.size w w' := by
  have hR := fun w => right_any w t r o n m
  have hW := fun w => within_any w (k : Int) 1 9
  cases hr : riC ⟨t, r, o, n, m⟩
  · rw [hr] at hR
    rw [show evC ⟨t, r, o, n, m⟩ k = ⟨t, r, o, n, m⟩ by simp [evC, hr], show evE ⟨t, r, o, n, m⟩ k = 60 by simp [evE, hr]]
    clear hr hW
    go_enter Try.func10, Try.ntmps10
    go_wp2_with (first
      | (go_at_call 12; (with_reducible refine (hR _).mono ?_); rintro e w1 ⟨rfl, g1⟩; obtain ⟨b1, b2, gg1⟩ := two_bx g1; obtain ⟨c0, c1, c2, c3, c4⟩ := bx5 b1; obtain ⟨d0, d1, d2, d3, d4⟩ := bx5 b2; have f2 := bx_thaw b2))
    refine bodyPost_ret (v := .tuple #[.agg #[.int .i64 t, .int .i64 r, .bool o, .int .i64 n, .int .i64 m], .int .i64 60]) (by simp [results, Try.results10, go_sem, d0, d1, d2, d3, d4]) rfl ⟨rfl, ?_⟩
    repeat (first | with_reducible exact gg1 | with_reducible refine Below.setCell ?_ (by simp) _ | with_reducible refine bnew ?_ _)
  rw [hr] at hR
  by_cases hkk : 1 ≤ k ∧ k ≤ 9
  · have hwi : wi (k : Int) 1 9 = true := by rw [wi_iff]; omega
    rw [hwi] at hW
    rw [show evE ⟨t, r, o, n, m⟩ k = 0 by unfold evE; rw [if_neg (by rw [hr]; simp; omega)]]
    cases o
    · obtain ⟨r0, r1, t0, t1, n0, m0⟩ := ri_on hr rfl
      rw [show evC ⟨t, r, false, n, m⟩ k = evO ⟨t, r, false, n, m⟩ k by unfold evC; rw [if_neg (by rw [hr]; simp; omega)]; rfl]
      have hC := fun w => count_any w t r n m k r0 r1 t0 t1 hkk
      unfold evO
      dsimp only
      generalize decide (teA t k > 255) = oo at hC ⊢
      generalize teA t k = tt at hC ⊢
      generalize reA r k = rr at hC ⊢
      clear hr hwi r0 r1 t0 t1 n0 m0
      go_enter Try.func10, Try.ntmps10
      go_wp2_with (first
        | (go_at_call 12; (with_reducible refine (hR _).mono ?_); rintro e w1 ⟨rfl, g1⟩; obtain ⟨b1, b2, gg1⟩ := two_bx g1; obtain ⟨c0, c1, c2, c3, c4⟩ := bx5 b1)
        | (go_at_call 21; (with_reducible refine (hW _).mono ?_); rintro e w2 ⟨rfl, rfl⟩)
        | (go_at_call 22; (with_reducible refine (hC _).mono ?_); rintro e w2 ⟨rfl, g2⟩; have b3 := bx_below b2 g2; obtain ⟨d0, d1, d2, d3, d4⟩ := bx5 b3; have f2 := bx_thaw b3; have gg2 := bstep gg1 g2))
      refine bodyPost_ret (v := .tuple #[.agg #[.int .i64 tt, .int .i64 rr, .bool oo, .int .i64 n, .int .i64 m], .int .i64 0]) (by simp [results, Try.results10, go_sem, d0, d1, d2, d3, d4]) rfl ⟨rfl, ?_⟩
      repeat (first | with_reducible exact gg2 | with_reducible refine Below.setCell ?_ (by simp) _ | with_reducible refine bnew ?_ _)
    · rw [show evC ⟨t, r, true, n, m⟩ k = ⟨t, r, true, n, m⟩ by simp [evC]]
      clear hr hwi
      go_enter Try.func10, Try.ntmps10
      go_wp2_with (first
        | (go_at_call 12; (with_reducible refine (hR _).mono ?_); rintro e w1 ⟨rfl, g1⟩; obtain ⟨b1, b2, gg1⟩ := two_bx g1; obtain ⟨c0, c1, c2, c3, c4⟩ := bx5 b1; obtain ⟨d0, d1, d2, d3, d4⟩ := bx5 b2; have f2 := bx_thaw b2)
        | (go_at_call 21; (with_reducible refine (hW _).mono ?_); rintro e w2 ⟨rfl, rfl⟩))
      refine bodyPost_ret (v := .tuple #[.agg #[.int .i64 t, .int .i64 r, .bool true, .int .i64 n, .int .i64 m], .int .i64 0]) (by simp [results, Try.results10, go_sem, d0, d1, d2, d3, d4]) rfl ⟨rfl, ?_⟩
      repeat (first | with_reducible exact gg1 | with_reducible refine Below.setCell ?_ (by simp) _ | with_reducible refine bnew ?_ _)
  · have hwi : wi (k : Int) 1 9 = false := by rw [Bool.eq_false_iff, Ne, wi_iff]; omega
    rw [hwi] at hW
    rw [show evC ⟨t, r, o, n, m⟩ k = ⟨t, r, o, n, m⟩ by unfold evC; rw [if_pos (by omega)], show evE ⟨t, r, o, n, m⟩ k = 60 by unfold evE; rw [if_pos (by omega)]]
    clear hr hwi
    go_enter Try.func10, Try.ntmps10
    go_wp2_with (first
      | (go_at_call 12; (with_reducible refine (hR _).mono ?_); rintro e w1 ⟨rfl, g1⟩; obtain ⟨b1, b2, gg1⟩ := two_bx g1; obtain ⟨c0, c1, c2, c3, c4⟩ := bx5 b1; obtain ⟨d0, d1, d2, d3, d4⟩ := bx5 b2; have f2 := bx_thaw b2)
      | (go_at_call 21; (with_reducible refine (hW _).mono ?_); rintro e w2 ⟨rfl, rfl⟩))
    refine bodyPost_ret (v := .tuple #[.agg #[.int .i64 t, .int .i64 r, .bool o, .int .i64 n, .int .i64 m], .int .i64 60]) (by simp [results, Try.results10, go_sem, d0, d1, d2, d3, d4]) rfl ⟨rfl, ?_⟩
    repeat (first | with_reducible exact gg1 | with_reducible refine Below.setCell ?_ (by simp) _ | with_reducible refine bnew ?_ _)
end Go.Proofs.Ytmdjofhkkkfehaa
