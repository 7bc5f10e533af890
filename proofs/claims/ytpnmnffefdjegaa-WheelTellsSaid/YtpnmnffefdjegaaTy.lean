/-
  Slices of bytes: for every seat.
-/
import Derived.Test.YtpnmnffefdjegaaBase
namespace Go.Proofs.Ytpnmnffefdjegaa
open Go.RowKit

theorem tY : ElT Try.prog 49 5 (.int .u8 0) 1 := ⟨by kernel_rfl, by kernel_rfl, by kernel_rfl, by kernel_rfl, by kernel_rfl⟩
end Go.Proofs.Ytpnmnffefdjegaa
