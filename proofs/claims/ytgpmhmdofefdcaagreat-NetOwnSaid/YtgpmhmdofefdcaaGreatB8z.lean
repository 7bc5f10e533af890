/-
  Laws for a region that draws its order, reads rows of cells, and calls functions of the program's own text; the bus of two.
-/
import Derived.Test.YtgpmhmdofefdcaaGreatB1
import Derived.Deep.Quiet
namespace Go.Proofs.YtgpmhmdofefdcaaGreat
open Go.RowKit Go.Sort
set_option linter.unusedVariables false

theorem plain_drive : plainFn 43 = true := by kernel_rfl
theorem bus_two (w : World) (x y : Bool) (q : Nat) (hq : q = w.heap.size) : Calls Tryz.prog 28 #[.slice (some ⟨q, 0, none⟩) 2 2] (w.alloc (.cells #[.bool x, .bool y] 4)) fun e w' => e = .returned (.bool (x && y)) ∧ (w.alloc (.cells #[.bool x, .bool y] 4)) = w' := by
  subst hq
  have h2 := (ol_lit Value.bool 4 0 w [x, y] #[.bool x, .bool y] 2 rfl rfl (by omega) (Nat.zero_le _)).rl
  have := bus_any _ _ 2 2 [x, y] h2 (by omega)
  rw [show [x, y].all id = (x && y) by simp] at this
  exact this
end Go.Proofs.YtgpmhmdofefdcaaGreat
