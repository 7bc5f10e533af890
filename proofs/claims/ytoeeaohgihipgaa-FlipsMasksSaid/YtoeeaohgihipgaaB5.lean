/-
  Contracts of the library's comparisons, and of the comparison of flips.
-/
import Derived.Test.YtoeeaohgihipgaaBaseK
import Derived.Test.YtoeeaohgihipgaaM5
import Derived.Lib.QuietBelow
namespace Go.Proofs.Ytoeeaohgihipgaa
open Go.RowKit
set_option linter.unusedVariables false

theorem tF : ElK Try.prog 22 38 2 (.agg #[.int .i64 0, .int .u8 0]) 16 := ⟨by kernel_rfl, by kernel_rfl, by kernel_rfl, by kernel_rfl, by kernel_rfl, by decide⟩
theorem tI : ElT Try.prog 36 3 (.int .i64 0) 8 := ⟨by kernel_rfl, by kernel_rfl, by kernel_rfl, by kernel_rfl, by kernel_rfl⟩

/-- A flip's two cells. -/
def fe (x : Fl) : List Value := [.int .i64 x.1, .int .u8 (x.2 : Int)]
theorem eF : EnK fe 2 := ⟨fun _ => rfl, fun x v hv => by simp [fe] at hv; rcases hv with rfl | rfl <;> rfl⟩

/-- Comparing two numbers. -/
def cmpI (a b : Int) : Int := if a < b then -1 else if b < a then 1 else 0

theorem isNaN_int (a : Int) (w : World) : Calls Try.prog 38 #[.int .i64 a] w fun e w' => e = .returned (.bool false) ∧ w = w' := by
  go_enter Try.func38, Try.ntmps38
  go_wp2
  go_ret
  exact ⟨ret_bool (by simp), rfl⟩

theorem isNaN_u8 (a : Int) (w : World) : Calls Try.prog 39 #[.int .u8 a] w fun e w' => e = .returned (.bool false) ∧ w = w' := by
  go_enter Try.func39, Try.ntmps39
  go_wp2
  go_ret
  exact ⟨ret_bool (by simp), rfl⟩

theorem cmp_int (a b : Int) (w : World) : Calls Try.prog 33 #[.int .i64 a, .int .i64 b] w fun e w' => e = .returned (.int .i64 (cmpI a b)) ∧ w = w' := by
  unfold cmpI
  by_cases h1 : a < b
  · rw [if_pos h1]
    go_enter Try.func33, Try.ntmps33
    go_wp2_with (go_at_call 38; refine (isNaN_int _ _).mono ?_; rintro e w' ⟨rfl, rfl⟩)
    go_ret
    exact ⟨rfl, rfl⟩
  · rw [if_neg h1]
    by_cases h2 : b < a
    · rw [if_pos h2]
      go_enter Try.func33, Try.ntmps33
      go_wp2_with (go_at_call 38; refine (isNaN_int _ _).mono ?_; rintro e w' ⟨rfl, rfl⟩)
      go_ret
      exact ⟨rfl, rfl⟩
    · rw [if_neg h2]
      go_enter Try.func33, Try.ntmps33
      go_wp2_with (go_at_call 38; refine (isNaN_int _ _).mono ?_; rintro e w' ⟨rfl, rfl⟩)
      go_ret
      exact ⟨rfl, rfl⟩

theorem cmp_u8 (a b : Nat) (w : World) : Calls Try.prog 34 #[.int .u8 (a : Int), .int .u8 (b : Int)] w fun e w' => e = .returned (.int .i64 (cmpI a b)) ∧ w = w' := by
  unfold cmpI
  by_cases h1 : (a : Int) < b
  · rw [if_pos h1]
    have d1 : decide (a < b) = true := by simp; omega
    go_enter Try.func34, Try.ntmps34
    go_wp2_with (go_at_call 39; refine (isNaN_u8 _ _).mono ?_; rintro e w' ⟨rfl, rfl⟩)
    go_ret
    exact ⟨rfl, rfl⟩
  · rw [if_neg h1]
    have d1 : decide (a < b) = false := by simp; omega
    by_cases h2 : (b : Int) < a
    · rw [if_pos h2]
      have d2 : decide (b < a) = true := by simp; omega
      go_enter Try.func34, Try.ntmps34
      go_wp2_with (go_at_call 39; refine (isNaN_u8 _ _).mono ?_; rintro e w' ⟨rfl, rfl⟩)
      go_ret
      exact ⟨rfl, rfl⟩
    · rw [if_neg h2]
      have d2 : decide (b < a) = false := by simp; omega
      go_enter Try.func34, Try.ntmps34
      go_wp2_with (go_at_call 39; refine (isNaN_u8 _ _).mono ?_; rintro e w' ⟨rfl, rfl⟩)
      go_ret
      exact ⟨rfl, rfl⟩

/-- The first of two numbers that is not 0. -/
def orI (a b : Int) : Int := if a = 0 then b else a

theorem or_two (g : Nat) (w : World) (a b : Int) (h : w.heap[g]? = some (.cells #[.int .i64 a, .int .i64 b] 3 (0, 0))) :
    Calls Try.prog 32 #[.slice (some ⟨g, 0, none⟩) 2 2] w fun e w' => e = .returned (.int .i64 (orI a b)) ∧ w = w' := by
  have h0 : w.cell? ⟨g, 0, none⟩ = some (.int .i64 a) := by rw [cell_of_row w g 0 _ _ _ h]; rfl
  have h1 : w.cell? ⟨g, 1, none⟩ = some (.int .i64 b) := by rw [cell_of_row w g 1 _ _ _ h]; rfl
  clear h
  unfold orI
  by_cases ha : a = 0
  · subst ha
    rw [if_pos rfl]
    by_cases hb : b = 0
    · subst hb
      go_enter Try.func32, Try.ntmps32
      go_wp2
      refine wp_loop_rounds 3 ?_
      rw [rounds_succ]
      go_wp2
      rw [rounds_succ]
      go_wp2
      rw [rounds_succ]
      go_wp2
      go_ret
      exact ⟨rfl, rfl⟩
    · have hb1 : (b != 0) = true := by simpa using hb
      clear hb
      go_enter Try.func32, Try.ntmps32
      go_wp2
      refine wp_loop_rounds 3 ?_
      rw [rounds_succ]
      go_wp2
      rw [rounds_succ]
      go_wp2
      go_ret
      exact ⟨rfl, rfl⟩
  · rw [if_neg ha]
    have hb1 : (a != 0) = true := by simpa using ha
    clear ha
    go_enter Try.func32, Try.ntmps32
    go_wp2
    refine wp_loop_rounds 3 ?_
    rw [rounds_succ]
    go_wp2
    go_ret
    exact ⟨rfl, rfl⟩

theorem orI_cmp (x y : Fl) : orI (cmpI x.1 y.1) (cmpI x.2 y.2) = cmpF x y := by
  have e1 := ltF_iff x y
  have e2 := ltF_iff y x
  unfold orI cmpI cmpF
  by_cases h1 : ltF x y = true
  · rw [if_pos h1]
    rw [e1] at h1
    repeat (any_goals (first | omega | split))
  · by_cases h2 : ltF y x = true
    · rw [if_neg h1, if_pos h2]
      rw [e1] at h1
      rw [e2] at h2
      repeat (any_goals (first | omega | split))
    · rw [if_neg h1, if_neg h2]
      rw [e1] at h1
      rw [e2] at h2
      repeat (any_goals (first | omega | split))
end Go.Proofs.Ytoeeaohgihipgaa
