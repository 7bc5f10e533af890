/-
  Slices of bytes: for every seat.
-/
import Derived.Test.YtmaklneiedljjaaBase
namespace Go.Proofs.Ytmaklneiedljjaa
open Go.RowKit

theorem tY : ElT Try.prog 28 5 (.int .u8 0) 1 := ⟨by kernel_rfl, by kernel_rfl, by kernel_rfl, by kernel_rfl, by kernel_rfl⟩
end Go.Proofs.Ytmaklneiedljjaa
