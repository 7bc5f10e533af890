/-
  Slices of bytes: for every seat.
-/
import Derived.Test.YtkojljmhgeehoaaBase
namespace Go.Proofs.Ytkojljmhgeehoaa
open Go.RowKit

theorem tY : ElT Try.prog 32 5 (.int .u8 0) 1 := ⟨by kernel_rfl, by kernel_rfl, by kernel_rfl, by kernel_rfl, by kernel_rfl⟩
end Go.Proofs.Ytkojljmhgeehoaa
