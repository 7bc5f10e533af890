/-
  Slices of numbers of 16 bits: for every seat.
-/
import Derived.Test.YtpnmnffefdjegaaBase
namespace Go.Proofs.Ytpnmnffefdjegaa
open Go.RowKit

theorem tU : ElT Try.prog 48 51 (.int .u16 0) 2 := ⟨by kernel_rfl, by kernel_rfl, by kernel_rfl, by kernel_rfl, by kernel_rfl⟩
end Go.Proofs.Ytpnmnffefdjegaa
