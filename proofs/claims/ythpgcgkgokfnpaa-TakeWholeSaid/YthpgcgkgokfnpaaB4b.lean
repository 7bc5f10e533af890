/-
  Contracts of Right (the program's and the document's).
-/
import Derived.Test.YthpgcgkgokfnpaaB4
namespace Go.Proofs.Ythpgcgkgokfnpaa
open Go.RowKit Go.Sort
set_option linter.unusedVariables false

theorem frRight_any (w : World) (id : Nat) (ext rem : Bool) (dlc : Nat) (a : Option Addr) (n c : Nat) (hi : id < 4294967296) (hd : dlc < 256) :
    Calls Try.prog 31 #[.agg #[.int .u32 (id : Int), .bool ext, .bool rem, .int .u8 (dlc : Int), .slice a n c]] w fun e w' => e = .returned (.bool (riF id ext rem dlc n)) ∧ Below w.heap.size w w' := by
  obtain ⟨r, hr⟩ : ∃ r, r = riF id ext rem dlc n := ⟨_, rfl⟩
  rw [← hr]
  obtain ⟨L, hL⟩ : ∃ L, L = lonF rem dlc := ⟨_, rfl⟩
  obtain ⟨G, hG⟩ : ∃ G : Int, G = if ext then 536870911 else 2047 := ⟨_, rfl⟩
  have hr2 : r = (decide ((id : Int) ≤ G) && decide ((dlc : Int) ≤ 15) && decide ((n : Int) = L)) := by
    rw [hr, hL, hG]; unfold riF; rw [Bool.eq_iff_iff]; cases ext <;> simp <;> omega
  clear hr
  have HR := hid hr2
  clear hr2
  have hlong : ∀ (w0 : World) d os, Calls Try.prog 51 #[.agg #[.int .u32 (id : Int), .bool ext, .bool rem, .int .u8 (dlc : Int), .slice a n c]] (grow (redrawn w0 d) os) fun e w'' => e = .returned (.int .i64 (L : Int)) ∧ ∃ p : Regrown, w'' = grow (redrawn w0 p.d) p.os := fun w0 d os => by
    rw [hL]; exact Calls.regrown_of (frLong_any _ id ext rem dlc a n c hd)
  clear hL
  have hcases : (decide ((id : Int) ≤ G) = true ∧ decide ((dlc : Int) ≤ 15) = true) ∨ (decide ((id : Int) ≤ G) = false) ∨ (decide ((id : Int) ≤ G) = true ∧ decide ((dlc : Int) ≤ 15) = false) := by simp only [decide_eq_false_iff_not, decide_eq_true_eq]; omega
  obtain ⟨w0, hw0, hbx, c0, c1, c2, c3, c4, gg0⟩ := boxed w 36 (.int .u32 (id : Int)) (.bool ext) (.bool rem) (.int .u8 (dlc : Int)) (.slice a n c)
  clear hbx
  cases ext
  all_goals
    simp only [Bool.false_eq_true, if_false, if_true] at hG
    rcases hcases with ⟨h1, h2⟩ | h1 | ⟨h1, h2⟩
    all_goals
      subst hG
      go_enter Try.func31, Try.ntmps31
      go_wp2_with fail
      rw [hw0.out]
      refine wp_region_quiet_below (by kernel_rfl) (by kernel_rfl) ?_
      repeat (go_big_quiet_step (first
        | (go_at_call 51; exact hlong _ _ _)))
      refine wpQuiet_nil ?_
      intro w9 hw9
      have gg : Below w0.heap.size w0 w9 := by obtain ⟨p9, rfl⟩ := hw9; exact below_regrown _ _ _
      clear hw9
      go_wp2
      go_ret
      refine ⟨ret_bool ?_, bstep gg0 gg⟩
      rw [HR.out]
      first | (rw [h1, h2]; rfl) | (rw [h1, h2]; simp) | (rw [h1]; rfl)

end Go.Proofs.Ythpgcgkgokfnpaa
