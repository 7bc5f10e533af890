/-
  Slices of bools: for every seat.
-/
import Derived.Test.YtkojljmhgeehoaaBase
namespace Go.Proofs.Ytkojljmhgeehoaa
open Go.RowKit

theorem tB : ElT Try.prog 49 4 (.bool false) 1 := ⟨by kernel_rfl, by kernel_rfl, by kernel_rfl, by kernel_rfl, by kernel_rfl⟩
end Go.Proofs.Ytkojljmhgeehoaa
