/-
  Contracts of the functions of layer 2: each returns what a plain function on lists says.
-/
import Derived.Test.YthpgcgkgokfnpaaLow
import Derived.Test.YthpgcgkgokfnpaaM2
import Derived.Test.YthpgcgkgokfnpaaBase2
namespace Go.Proofs.Ythpgcgkgokfnpaa
open Go.RowKit
set_option linter.unusedVariables false

theorem owed_any (w : World) (b : Bool) (m : Nat) (hm : m < 256) :
    Calls Try.prog 37 #[.agg #[.bool b, .int .u8 (m : Int)]] w fun e w' => e = .returned (.tuple #[.bool (decide (m = 5) && !b), .bool (decide (m = 5))]) ∧ Below w.heap.size w w' := by
  by_cases h5 : m = 5
  · subst h5
    go_enter Try.func37, Try.ntmps37
    go_wp2
    go_ret2
    exact ⟨rfl, bnew0 _ _⟩
  · have hd : decide (m = 5) = false := by simp [h5]
    rw [hd]
    go_enter Try.func37, Try.ntmps37
    go_wp2
    go_ret2
    exact ⟨rfl, bnew0 _ _⟩

theorem right_any (w : World) (b : Bool) (m : Nat) (hm : m < 256) :
    Calls Try.prog 60 #[.agg #[.bool b, .int .u8 (m : Int)]] w fun e w' => e = .returned (.bool (decide (m ≤ 5) && (!b || !decide (m = 0)))) ∧ Below w.heap.size w w' := by
  go_enter Try.func60, Try.ntmps60
  cases b
  · by_cases h0 : m = 0
    · subst h0
      go_wp2
      go_ret
      exact ⟨rfl, bnew0 _ _⟩
    · go_wp2
      go_ret
      exact ⟨ret_bool (by simp; omega), bnew0 _ _⟩
  · by_cases h0 : m = 0
    · subst h0
      go_wp2
      go_ret
      exact ⟨rfl, bnew0 _ _⟩
    · go_wp2
      go_ret
      exact ⟨ret_bool (by simp [h0]; omega), bnew0 _ _⟩

theorem after_any (w : World) (b : Bool) (m : Nat) (x : Bool) (hm : m < 255) :
    Calls Try.prog 61 #[.agg #[.bool b, .int .u8 (m : Int)], .bool x] w fun e w' => e = .returned (.agg #[.bool x, .int .u8 (if x = b then (m : Int) + 1 else 1)]) ∧ Below w.heap.size w w' := by
  cases b <;> cases x
  all_goals
    go_enter Try.func61, Try.ntmps61
    go_wp2
  · refine bodyPost_ret (v := .agg #[.bool false, .int .u8 ((m : Int) + 1)]) (by simp [results, Try.results61, go_sem]) rfl ⟨rfl, bnew (bnew0 _ _) _⟩
  · refine bodyPost_ret (v := .agg #[.bool true, .int .u8 1]) (by simp [results, Try.results61, go_sem]) rfl ⟨rfl, bnew (bnew0 _ _) _⟩
  · refine bodyPost_ret (v := .agg #[.bool false, .int .u8 1]) (by simp [results, Try.results61, go_sem]) rfl ⟨rfl, bnew (bnew0 _ _) _⟩
  · refine bodyPost_ret (v := .agg #[.bool true, .int .u8 ((m : Int) + 1)]) (by simp [results, Try.results61, go_sem]) rfl ⟨rfl, bnew (bnew0 _ _) _⟩

theorem next_wrong (w : World) (b : Bool) (m : Nat) (x : Bool) (hm : m < 256) (hr : (decide (m ≤ 5) && (!b || !decide (m = 0))) = false) :
    Calls Try.prog 36 #[.agg #[.bool b, .int .u8 (m : Int)], .bool x] w fun e w' => e = .returned (.tuple #[.agg #[.bool false, .int .u8 0], .int .u8 2]) ∧ Below w.heap.size w w' := by
  go_enter Try.func36, Try.ntmps36
  go_wp2_with (go_at_call 60; refine (right_any _ b m hm).mono ?_; rw [hr]; rintro e w1 ⟨rfl, g1⟩; obtain ⟨h0, h1, gg1⟩ := two_bx g1; obtain ⟨c0, c1, f0, f1⟩ := bx h1; clear g1 h0 h1)
  exact bodyPost_ret (v := .tuple #[.agg #[.bool false, .int .u8 0], .int .u8 2]) (by simp [results, Try.results36, go_sem, c0, c1]) rfl ⟨rfl, (gg1.setCell (by simp) _).setCell (by simp) _⟩

theorem next_any (w : World) (b : Bool) (m : Nat) (x : Bool) (hm : rightA b m) :
    Calls Try.prog 36 #[.agg #[.bool b, .int .u8 (m : Int)], .bool x] w fun e w' => e = .returned (.tuple #[.agg #[.bool (nxt b m x).1.1, .int .u8 ((nxt b m x).1.2 : Int)], .int .u8 ((nxt b m x).2 : Int)]) ∧ Below w.heap.size w w' := by
  have hr : (decide (m ≤ 5) && (!b || !decide (m = 0))) = true := by
    obtain ⟨h1, h2⟩ := hm
    cases b
    · simp [h1]
    · simp [h1]; intro h0; simpa using h2 h0
  obtain ⟨hm5, _⟩ := hm
  by_cases h5 : m = 5
  · subst h5
    by_cases hx : x = b
    · subst hx
      rw [show nxt x 5 x = ((x, 5), 2) from by cases x <;> rfl]
      cases x
      all_goals
        go_enter Try.func36, Try.ntmps36
        go_wp2_with (first
          | (go_at_call 60; refine (right_any _ _ 5 (by omega)).mono ?_; rw [hr]; rintro e w1 ⟨rfl, g1⟩; obtain ⟨h0, h1, gg1⟩ := two_bx g1; obtain ⟨c0, c1, f0, f1⟩ := bx h0; clear g1)
          | (go_at_call 37; refine (owed_any w1 _ 5 (by omega)).mono ?_; rintro e w2 ⟨rfl, g2⟩; obtain ⟨c0', c1', f0', f1'⟩ := bx (bx_below h0 g2); obtain ⟨d0, d1, k0, k1⟩ := bx (bx_below h1 g2); have gg2 := bstep gg1 g2))
      · exact bodyPost_ret (v := .tuple #[.agg #[.bool false, .int .u8 5], .int .u8 2]) (by simp [results, Try.results36, go_sem, d0, d1]) rfl ⟨rfl, (gg2.setCell (by simp) _).setCell (by simp) _⟩
      · exact bodyPost_ret (v := .tuple #[.agg #[.bool true, .int .u8 5], .int .u8 2]) (by simp [results, Try.results36, go_sem, d0, d1]) rfl ⟨rfl, (gg2.setCell (by simp) _).setCell (by simp) _⟩
    · obtain rfl : x = !b := by cases b <;> cases x <;> simp_all
      rw [nxt_owed]
      cases b
      all_goals
        go_enter Try.func36, Try.ntmps36
        go_wp2_with (first
          | (go_at_call 60; refine (right_any _ _ 5 (by omega)).mono ?_; rw [hr]; rintro e w1 ⟨rfl, g1⟩; obtain ⟨h0, h1, gg1⟩ := two_bx g1; obtain ⟨c0, c1, f0, f1⟩ := bx h0; clear g1)
          | (go_at_call 37; refine (owed_any w1 _ 5 (by omega)).mono ?_; rintro e w2 ⟨rfl, g2⟩; have h2 := bx_below h0 g2; have h3 := bx_below h1 g2; obtain ⟨c0', c1', f0', f1'⟩ := bx h2; have gg2 := bstep gg1 g2)
          | (go_at_call 61; refine (after_any w2 _ 5 _ (by omega)).mono ?_; rintro e w3 ⟨rfl, g3⟩; obtain ⟨d0, d1, k0, k1⟩ := bx (bx_below h3 g3); have gg3 := bstep gg2 g3))
      · exact bodyPost_ret (v := .tuple #[.agg #[.bool true, .int .u8 1], .int .u8 1]) (by simp [results, Try.results36, go_sem, d0, d1]) rfl ⟨rfl, (gg3.setCell (by simp) _).setCell (by simp) _⟩
      · exact bodyPost_ret (v := .tuple #[.agg #[.bool false, .int .u8 1], .int .u8 1]) (by simp [results, Try.results36, go_sem, d0, d1]) rfl ⟨rfl, (gg3.setCell (by simp) _).setCell (by simp) _⟩
  · have hd : decide (m = 5) = false := by simp [h5]
    have e1 : Hid ((Value.agg #[.bool (nxt b m x).1.1, .int .u8 ((nxt b m x).1.2 : Int)], Value.int .u8 ((nxt b m x).2 : Int)) = (.agg #[.bool x, .int .u8 (if x = b then (m : Int) + 1 else 1)], .int .u8 0)) := by
      show _ = _
      unfold nxt
      rw [if_neg h5]
      by_cases hx : x = b
      · rw [if_pos hx, if_pos hx]; simp
      · rw [if_neg hx, if_neg hx]; simp
    obtain ⟨q, hq⟩ : ∃ q : Int, q = if x = b then (m : Int) + 1 else 1 := ⟨_, rfl⟩
    rw [← hq] at e1
    have HQ := hid hq; clear hq
    go_enter Try.func36, Try.ntmps36
    go_wp2_with (first
      | (go_at_call 60; refine (right_any _ _ m (by omega)).mono ?_; rw [hr]; rintro e w1 ⟨rfl, g1⟩; obtain ⟨h0, h1, gg1⟩ := two_bx g1; obtain ⟨c0, c1, f0, f1⟩ := bx h0; clear g1)
      | (go_at_call 37; refine (owed_any w1 _ m (by omega)).mono ?_; rw [hd]; rintro e w2 ⟨rfl, g2⟩; have h2 := bx_below h0 g2; have h3 := bx_below h1 g2; obtain ⟨c0', c1', f0', f1'⟩ := bx h2; have gg2 := bstep gg1 g2)
      | (go_at_call 61; refine (after_any w2 b m x (by omega)).mono ?_; rw [← HQ.out]; rintro e w3 ⟨rfl, g3⟩; obtain ⟨d0, d1, k0, k1⟩ := bx (bx_below h3 g3); have gg3 := bstep gg2 g3))
    refine bodyPost_ret (v := .tuple #[.agg #[.bool x, .int .u8 q], .int .u8 0]) (by simp [results, Try.results36, go_sem, d0, d1]) rfl ⟨?_, (gg3.setCell (by simp) _).setCell (by simp) _⟩
    have e2 := e1.out
    rw [Prod.mk.injEq] at e2
    rw [← e2.1, ← e2.2]
end Go.Proofs.Ythpgcgkgokfnpaa
