/-
  Frames, plain and as they lie in memory: for every seat.
-/
import Derived.Test.YtkojljmhgeehoaaBaseK
namespace Go.Proofs.Ytkojljmhgeehoaa
open Go.RowKit
set_option linter.unusedVariables false

/-- A frame. -/
structure Fr where
  id : Nat
  ext : Bool
  rem : Bool
  dlc : Nat
  data : List UInt8
  deriving DecidableEq

/-- The cells of a frame. -/
abbrev frV (F : Fr) (a : Option Addr) (k : Nat) : Array Value := #[.int .u32 (F.id : Int), .bool F.ext, .bool F.rem, .int .u8 (F.dlc : Int), .slice a F.data.length k]
/-- A frame as it lies in a list. -/
abbrev Ff := Fr × (Option Addr × Nat)
theorem fr_ones (F : Fr) (a : Option Addr) (k : Nat) : (frV F a k).all (·.oneCell') = true := by kernel_rfl
def enF (p : Ff) : List Value := (frV p.1 p.2.1 p.2.2).toList
theorem enF_k : EnK enF 5 := ⟨fun _ => rfl, fun p v hv => (Array.all_eq_true_iff_forall_mem.1 (fr_ones p.1 p.2.1 p.2.2)) v (by simpa [enF] using hv)⟩

end Go.Proofs.Ytkojljmhgeehoaa
