/-
  Laws for calls in a region that draws its order; the statement CtlOverload's own function (run).
-/
import Derived.Test.YtgpmhmdofefdcaaGreatB8z
namespace Go.Proofs.YtgpmhmdofefdcaaGreat
open Go.RowKit Go.Sort
set_option linter.unusedVariables false


theorem plain_step : plainFn 29 = true := by kernel_rfl

/-- A controller behind so many bits of one kind, and what happened last. -/
def ruC (c : Ct) (x : Bool) : Nat → Ct × Nat
  | 0 => (c, 0)
  | n + 1 => ((stC (ruC c x n).1 x).1, (stC (ruC c x n).1 x).2.1)

end Go.Proofs.YtgpmhmdofefdcaaGreat
