/-
  Contracts of the document's Right, of Mode (the program's and the document's).
-/
import Derived.Test.YtmdjofhkkkfehaaB6
namespace Go.Proofs.Ytmdjofhkkkfehaa
open Go.RowKit
set_option linter.unusedVariables false

set_option maxHeartbeats 2000000 in
theorem refRight_any (w : World) (t r : Int) (o : Bool) (n m : Int) : Calls Try.prog 13 #[.agg #[.int .i64 t, .int .i64 r, .bool o, .int .i64 n, .int .i64 m]] w fun e w' => e = .returned (.bool (riC ⟨t, r, o, n, m⟩)) ∧ Below w.heap.size w w' := by
  obtain ⟨b, hb⟩ : ∃ b, b = riC ⟨t, r, o, n, m⟩ := ⟨_, rfl⟩
  rw [← hb]
  simp only [riC, wi] at hb
  have HB := hid hb; clear hb
  by_cases h1 : t < 0
  · go_enter Try.func13, Try.ntmps13
    go_wp2
    go_ret
    exact ⟨ret_bool (by rw [HB.out]; symm; cases o <;> simp <;> omega), bnew0 w _⟩
  by_cases h2 : r < 0
  · go_enter Try.func13, Try.ntmps13
    go_wp2
    go_ret
    exact ⟨ret_bool (by rw [HB.out, Bool.eq_iff_iff]; simp; omega), bnew0 w _⟩
  by_cases h3 : 255 < r
  · go_enter Try.func13, Try.ntmps13
    go_wp2
    go_ret
    exact ⟨ret_bool (by rw [HB.out, Bool.eq_iff_iff]; simp; omega), bnew0 w _⟩
  cases o
  · by_cases h4 : t ≤ 255
    · by_cases h5 : n = 0
      · by_cases h6 : m = 0
        all_goals
          go_enter Try.func13, Try.ntmps13
          go_wp2
          go_ret
          exact ⟨ret_bool (by rw [HB.out, Bool.eq_iff_iff]; simp; omega), bnew0 w _⟩
      · go_enter Try.func13, Try.ntmps13
        go_wp2
        go_ret
        exact ⟨ret_bool (by rw [HB.out, Bool.eq_iff_iff]; simp; omega), bnew0 w _⟩
    · go_enter Try.func13, Try.ntmps13
      go_wp2
      go_ret
      exact ⟨ret_bool (by rw [HB.out, Bool.eq_iff_iff]; simp; omega), bnew0 w _⟩
  · by_cases h4 : 256 ≤ t
    · by_cases h5 : t ≤ 263
      · by_cases h6 : 0 ≤ n
        · by_cases h7 : n ≤ 10
          · by_cases h8 : 0 ≤ m
            · by_cases h9 : m ≤ 127
              all_goals
                go_enter Try.func13, Try.ntmps13
                go_wp2
                go_ret
                exact ⟨ret_bool (by rw [HB.out, Bool.eq_iff_iff]; simp; omega), bnew0 w _⟩
            · go_enter Try.func13, Try.ntmps13
              go_wp2
              go_ret
              exact ⟨ret_bool (by rw [HB.out, Bool.eq_iff_iff]; simp; omega), bnew0 w _⟩
          · go_enter Try.func13, Try.ntmps13
            go_wp2
            go_ret
            exact ⟨ret_bool (by rw [HB.out, Bool.eq_iff_iff]; simp; omega), bnew0 w _⟩
        · go_enter Try.func13, Try.ntmps13
          go_wp2
          go_ret
          exact ⟨ret_bool (by rw [HB.out, Bool.eq_iff_iff]; simp; omega), bnew0 w _⟩
      · go_enter Try.func13, Try.ntmps13
        go_wp2
        go_ret
        exact ⟨ret_bool (by rw [HB.out, Bool.eq_iff_iff]; simp; omega), bnew0 w _⟩
    · go_enter Try.func13, Try.ntmps13
      go_wp2
      go_ret
      exact ⟨ret_bool (by rw [HB.out, Bool.eq_iff_iff]; simp; omega), bnew0 w _⟩

theorem mode_any (w : World) (t r : Int) (o : Bool) (n m : Int) : Calls Try.prog 14 #[.agg #[.int .i64 t, .int .i64 r, .bool o, .int .i64 n, .int .i64 m]] w fun e w' => e = .returned (.int .u8 (moC ⟨t, r, o, n, m⟩ : Int)) ∧ Below w.heap.size w w' := by
  cases o
  · have k := fun w => right_any w t r false n m
    obtain ⟨q, hq⟩ : ∃ q, q = moC ⟨t, r, false, n, m⟩ := ⟨_, rfl⟩
    rw [← hq]
    simp only [moC, Bool.false_or] at hq
    generalize riC ⟨t, r, false, n, m⟩ = b at k hq
    cases b
    · obtain rfl : q = 2 := hq
      go_enter Try.func14, Try.ntmps14
      go_wp2_with (go_at_call 12; (with_reducible refine (k _).mono ?_); rintro e w1 ⟨rfl, g1⟩)
      go_ret
      exact ⟨rfl, (one_bx g1).2.1⟩
    · by_cases h1 : 127 < t
      · obtain rfl : q = 1 := by rw [hq]; simp; omega
        clear hq
        go_enter Try.func14, Try.ntmps14
        go_wp2_with (go_at_call 12; (with_reducible refine (k _).mono ?_); rintro e w1 ⟨rfl, g1⟩; obtain ⟨b1, gg1, _⟩ := one_bx g1; obtain ⟨c0, c1, c2, c3, c4⟩ := bx5 b1)
        go_ret
        exact ⟨rfl, gg1⟩
      by_cases h2 : 127 < r
      · obtain rfl : q = 1 := by rw [hq]; simp; omega
        clear hq
        go_enter Try.func14, Try.ntmps14
        go_wp2_with (go_at_call 12; (with_reducible refine (k _).mono ?_); rintro e w1 ⟨rfl, g1⟩; obtain ⟨b1, gg1, _⟩ := one_bx g1; obtain ⟨c0, c1, c2, c3, c4⟩ := bx5 b1)
        go_ret
        exact ⟨rfl, gg1⟩
      · obtain rfl : q = 0 := by rw [hq]; simp; omega
        clear hq
        go_enter Try.func14, Try.ntmps14
        go_wp2_with (go_at_call 12; (with_reducible refine (k _).mono ?_); rintro e w1 ⟨rfl, g1⟩; obtain ⟨b1, gg1, _⟩ := one_bx g1; obtain ⟨c0, c1, c2, c3, c4⟩ := bx5 b1)
        go_ret
        exact ⟨rfl, gg1⟩
  · rw [show moC ⟨t, r, true, n, m⟩ = 2 from rfl]
    go_enter Try.func14, Try.ntmps14
    go_wp2
    go_ret
    exact ⟨rfl, bnew0 w _⟩

theorem refMode_any (w : World) (t r : Int) (o : Bool) (n m : Int) : Calls Try.prog 15 #[.agg #[.int .i64 t, .int .i64 r, .bool o, .int .i64 n, .int .i64 m]] w fun e w' => e = .returned (.int .u8 (moC ⟨t, r, o, n, m⟩ : Int)) ∧ Below w.heap.size w w' := by
  cases o
  · have k := fun w => refRight_any w t r false n m
    obtain ⟨q, hq⟩ : ∃ q, q = moC ⟨t, r, false, n, m⟩ := ⟨_, rfl⟩
    rw [← hq]
    simp only [moC, Bool.false_or] at hq
    generalize riC ⟨t, r, false, n, m⟩ = b at k hq
    cases b
    · obtain rfl : q = 2 := hq
      go_enter Try.func15, Try.ntmps15
      go_wp2_with (go_at_call 13; (with_reducible refine (k _).mono ?_); rintro e w1 ⟨rfl, g1⟩)
      go_ret
      exact ⟨rfl, (one_bx g1).2.1⟩
    · by_cases h1 : 127 < t
      · obtain rfl : q = 1 := by rw [hq]; simp; omega
        clear hq
        go_enter Try.func15, Try.ntmps15
        go_wp2_with (go_at_call 13; (with_reducible refine (k _).mono ?_); rintro e w1 ⟨rfl, g1⟩; obtain ⟨b1, gg1, _⟩ := one_bx g1; obtain ⟨c0, c1, c2, c3, c4⟩ := bx5 b1)
        go_ret
        exact ⟨rfl, gg1⟩
      by_cases h2 : 127 < r
      · obtain rfl : q = 1 := by rw [hq]; simp; omega
        clear hq
        go_enter Try.func15, Try.ntmps15
        go_wp2_with (go_at_call 13; (with_reducible refine (k _).mono ?_); rintro e w1 ⟨rfl, g1⟩; obtain ⟨b1, gg1, _⟩ := one_bx g1; obtain ⟨c0, c1, c2, c3, c4⟩ := bx5 b1)
        go_ret
        exact ⟨rfl, gg1⟩
      · obtain rfl : q = 0 := by rw [hq]; simp; omega
        clear hq
        go_enter Try.func15, Try.ntmps15
        go_wp2_with (go_at_call 13; (with_reducible refine (k _).mono ?_); rintro e w1 ⟨rfl, g1⟩; obtain ⟨b1, gg1, _⟩ := one_bx g1; obtain ⟨c0, c1, c2, c3, c4⟩ := bx5 b1)
        go_ret
        exact ⟨rfl, gg1⟩
  · rw [show moC ⟨t, r, true, n, m⟩ = 2 from rfl]
    go_enter Try.func15, Try.ntmps15
    go_wp2
    go_ret
    exact ⟨rfl, bnew0 w _⟩
end Go.Proofs.Ytmdjofhkkkfehaa
