/-
  No cell of these rows narrows 'for every input' (looked for: loops, veiled, ifaces, maps, wideKeys, modest, calm, conditions, laid).
  DERIVED. THE GIVEN ROWS OF THIS SEAT. 6 by the template 'for every input the law returns true; each argument reads behind the call as it read before'; 0 by the template 'total and deterministic' (their statements: YtajdbimdiodalaaGreatTotals.lean).
  GIVEN WITH THE SEED: the statements are not yours to turn. If you find one false, say at which input.
  Laid BY PROGRAM, IN A SANDBOX (cutbox-rows.mjs): the forced cells as the released guide's own fill.sh prints them over the translation 0b9c3dfdb16130ca… (all of the seat's roots in one cut). By AI agents, Wed Nov 11 2026. No macro, syntax, notation, axiom, sorry.
-/
import Derived.Test.YtajdbimdiodalaaGreatChecked
import GoSem.Claim
import GoSem.ClaimJoined
import GoSem.ClaimMapViews
import Derived.JoinedTies
import Derived.KernelRfl
namespace Go.Proofs.YtajdbimdiodalaaGreat
/- THE CELL 'sum', in the pinned program and in every row, IS THE sha256 OF THE DUMP (.gsa) THAT YtajdbimdiodalaaGreatProg.lean LOADS. Nothing in Lean hashes anything: it is a label: what it is worth is what the hold of that sum in a sandbox is worth. -/
noncomputable def Tryz.pinned : Pinned := { name := "ytajdbimdiodalaagreat", sum := "0b9c3dfdb16130cabf90c94c6b8a839dcf64ea4f6ec39d150e00f1896ff01a81", checked := Tryz.checked }
namespace Rows
def none {H : Type} : Left H := { results := [], args := [] }

/-- 'jackstaylaw14.DrvTells': WHATEVER THE INPUT: true; the input reads as it did. -/
def drvTellsSpec : ChangeSpec := { name := "drvTells", fn := fun _ => fun
  | [d1, d2, d3, d4] => { results := [.lit (.bool true)], args := [d1, d2, d3, d4] }
  | _ => none }
def drvTellsRow : OpenClaim := { program := "ytajdbimdiodalaagreat", sum := "0b9c3dfdb16130cabf90c94c6b8a839dcf64ea4f6ec39d150e00f1896ff01a81", func := "jackstay/jackstaylaw14.DrvTells", spec := "drvTells", unfollowed := true, recurses := true, apart := false }
def DrvTellsSaid : Prop := drvTellsRow.holds Tryz.pinned (OpenSpec.ofChange drvTellsSpec)

/-- ITS FALSE NEIGHBOUR: 'it returns false'. Refute it at one input. -/
def drvTellsWrong : ChangeSpec := { name := "drvTells", fn := fun _ => fun
  | [d1, d2, d3, d4] => { results := [.lit (.bool false)], args := [d1, d2, d3, d4] }
  | _ => none }
def DrvTellsWrongFalsely : Prop := drvTellsRow.holds Tryz.pinned (OpenSpec.ofChange drvTellsWrong)

/-- 'jackstaylaw14.DrvOrder': WHATEVER THE INPUT: true; the input reads as it did. -/
def drvOrderSpec : ChangeSpec := { name := "drvOrder", fn := fun _ => fun
  | [d1, d2, d3] => { results := [.lit (.bool true)], args := [d1, d2, d3] }
  | _ => none }
def drvOrderRow : OpenClaim := { program := "ytajdbimdiodalaagreat", sum := "0b9c3dfdb16130cabf90c94c6b8a839dcf64ea4f6ec39d150e00f1896ff01a81", func := "jackstay/jackstaylaw14.DrvOrder", spec := "drvOrder", unfollowed := true, recurses := true, apart := false }
def DrvOrderSaid : Prop := drvOrderRow.holds Tryz.pinned (OpenSpec.ofChange drvOrderSpec)

/-- ITS FALSE NEIGHBOUR: 'it returns false'. Refute it at one input. -/
def drvOrderWrong : ChangeSpec := { name := "drvOrder", fn := fun _ => fun
  | [d1, d2, d3] => { results := [.lit (.bool false)], args := [d1, d2, d3] }
  | _ => none }
def DrvOrderWrongFalsely : Prop := drvOrderRow.holds Tryz.pinned (OpenSpec.ofChange drvOrderWrong)

/-- 'jackstaylaw14.DrvOnce': WHATEVER THE INPUT: true; the input reads as it did. -/
def drvOnceSpec : ChangeSpec := { name := "drvOnce", fn := fun _ => fun
  | [d1, d2, d3, d4, d5] => { results := [.lit (.bool true)], args := [d1, d2, d3, d4, d5] }
  | _ => none }
def drvOnceRow : OpenClaim := { program := "ytajdbimdiodalaagreat", sum := "0b9c3dfdb16130cabf90c94c6b8a839dcf64ea4f6ec39d150e00f1896ff01a81", func := "jackstay/jackstaylaw14.DrvOnce", spec := "drvOnce", unfollowed := true, recurses := true, apart := false }
def DrvOnceSaid : Prop := drvOnceRow.holds Tryz.pinned (OpenSpec.ofChange drvOnceSpec)

/-- ITS FALSE NEIGHBOUR: 'it returns false'. Refute it at one input. -/
def drvOnceWrong : ChangeSpec := { name := "drvOnce", fn := fun _ => fun
  | [d1, d2, d3, d4, d5] => { results := [.lit (.bool false)], args := [d1, d2, d3, d4, d5] }
  | _ => none }
def DrvOnceWrongFalsely : Prop := drvOnceRow.holds Tryz.pinned (OpenSpec.ofChange drvOnceWrong)

/-- 'jackstaylaw14.DrvFull': WHATEVER THE INPUT: true; the input reads as it did. -/
def drvFullSpec : ChangeSpec := { name := "drvFull", fn := fun _ => fun
  | [d1, d2] => { results := [.lit (.bool true)], args := [d1, d2] }
  | _ => none }
def drvFullRow : OpenClaim := { program := "ytajdbimdiodalaagreat", sum := "0b9c3dfdb16130cabf90c94c6b8a839dcf64ea4f6ec39d150e00f1896ff01a81", func := "jackstay/jackstaylaw14.DrvFull", spec := "drvFull", unfollowed := true, recurses := true, apart := false }
def DrvFullSaid : Prop := drvFullRow.holds Tryz.pinned (OpenSpec.ofChange drvFullSpec)

/-- ITS FALSE NEIGHBOUR: 'it returns false'. Refute it at one input. -/
def drvFullWrong : ChangeSpec := { name := "drvFull", fn := fun _ => fun
  | [d1, d2] => { results := [.lit (.bool false)], args := [d1, d2] }
  | _ => none }
def DrvFullWrongFalsely : Prop := drvFullRow.holds Tryz.pinned (OpenSpec.ofChange drvFullWrong)

/-- 'jackstaylaw14.DrvNone': WHATEVER THE INPUT: true; the input reads as it did. -/
def drvNoneSpec : ChangeSpec := { name := "drvNone", fn := fun _ => fun
  | [d1, d2, d3] => { results := [.lit (.bool true)], args := [d1, d2, d3] }
  | _ => none }
def drvNoneRow : OpenClaim := { program := "ytajdbimdiodalaagreat", sum := "0b9c3dfdb16130cabf90c94c6b8a839dcf64ea4f6ec39d150e00f1896ff01a81", func := "jackstay/jackstaylaw14.DrvNone", spec := "drvNone", unfollowed := true, recurses := true, apart := false }
def DrvNoneSaid : Prop := drvNoneRow.holds Tryz.pinned (OpenSpec.ofChange drvNoneSpec)

/-- ITS FALSE NEIGHBOUR: 'it returns false'. Refute it at one input. -/
def drvNoneWrong : ChangeSpec := { name := "drvNone", fn := fun _ => fun
  | [d1, d2, d3] => { results := [.lit (.bool false)], args := [d1, d2, d3] }
  | _ => none }
def DrvNoneWrongFalsely : Prop := drvNoneRow.holds Tryz.pinned (OpenSpec.ofChange drvNoneWrong)

/-- 'jackstaylaw14.DrvFlip': WHATEVER THE INPUT: true; the input reads as it did. -/
def drvFlipSpec : ChangeSpec := { name := "drvFlip", fn := fun _ => fun
  | [d1, d2, d3] => { results := [.lit (.bool true)], args := [d1, d2, d3] }
  | _ => none }
def drvFlipRow : OpenClaim := { program := "ytajdbimdiodalaagreat", sum := "0b9c3dfdb16130cabf90c94c6b8a839dcf64ea4f6ec39d150e00f1896ff01a81", func := "jackstay/jackstaylaw14.DrvFlip", spec := "drvFlip", unfollowed := true, recurses := true, apart := false }
def DrvFlipSaid : Prop := drvFlipRow.holds Tryz.pinned (OpenSpec.ofChange drvFlipSpec)

/-- ITS FALSE NEIGHBOUR: 'it returns false'. Refute it at one input. -/
def drvFlipWrong : ChangeSpec := { name := "drvFlip", fn := fun _ => fun
  | [d1, d2, d3] => { results := [.lit (.bool false)], args := [d1, d2, d3] }
  | _ => none }
def DrvFlipWrongFalsely : Prop := drvFlipRow.holds Tryz.pinned (OpenSpec.ofChange drvFlipWrong)

/- THE SECOND FORM. 'bulk': how many values and letters a reading holds, each counted each time it is reached (what is shared counts as often as it is met; a slice's spare places count too). A statement '..UptoSaid' is the law's where the arguments, and the package variables that the reading takes, are together of bulk at most 1048576: NARROWER than '..Said'. Prove '..Said' where nothing that the law and all that it calls make is longer than what came in: it says more and counts as full. Else prove '..UptoSaid'. A law counts once. -/
mutual
def uptoBulk {H : Type} : DataW H → Nat
  | .lit (.string bytes) => bytes.length + 1
  | .lit _ => 1
  | .nil => 1
  | .ptr d => uptoBulk d + 1
  | .slice elems spare => uptoBulkAll elems + uptoBulkAll spare + 1
  | .agg parts => uptoBulkAll parts + 1
  | .iface _ d => uptoBulk d + 1
  | .map entries => uptoBulkEntries entries + 1
  | .held _ => 1
def uptoBulkAll {H : Type} : List (DataW H) → Nat
  | [] => 0
  | d :: r => uptoBulk d + uptoBulkAll r
def uptoBulkEntries {H : Type} : List (Lit × DataW H) → Nat
  | [] => 0
  | x :: r => uptoBulkEntry x + uptoBulkEntries r
def uptoBulkEntry {H : Type} : Lit × DataW H → Nat
  | (.string bytes, d) => bytes.length + uptoBulk d + 1
  | (_, d) => uptoBulk d + 1
 end
def uptoSmall : (H : Type) → List (DataW H) → Bool := fun _ ds => decide (uptoBulkAll ds ≤ 1048576)
def OpenSpec.upto (s : _root_.Go.ChangeSpec) : _root_.Go.OpenSpec := { _root_.Go.OpenSpec.ofChange s with cond := some uptoSmall }

/-- 'jackstaylaw14.DrvTells', WHERE WHAT IT READS IS OF BULK AT MOST 1048576: true; the input reads as it did. -/
def drvTellsUptoRow : OpenClaim := { program := "ytajdbimdiodalaagreat", sum := "0b9c3dfdb16130cabf90c94c6b8a839dcf64ea4f6ec39d150e00f1896ff01a81", func := "jackstay/jackstaylaw14.DrvTells", spec := "drvTells", unfollowed := true, recurses := true, apart := false, narrowed := true }
def DrvTellsUptoSaid : Prop := drvTellsUptoRow.holds Tryz.pinned (OpenSpec.upto drvTellsSpec)

/-- 'jackstaylaw14.DrvOrder', WHERE WHAT IT READS IS OF BULK AT MOST 1048576: true; the input reads as it did. -/
def drvOrderUptoRow : OpenClaim := { program := "ytajdbimdiodalaagreat", sum := "0b9c3dfdb16130cabf90c94c6b8a839dcf64ea4f6ec39d150e00f1896ff01a81", func := "jackstay/jackstaylaw14.DrvOrder", spec := "drvOrder", unfollowed := true, recurses := true, apart := false, narrowed := true }
def DrvOrderUptoSaid : Prop := drvOrderUptoRow.holds Tryz.pinned (OpenSpec.upto drvOrderSpec)

/-- 'jackstaylaw14.DrvOnce', WHERE WHAT IT READS IS OF BULK AT MOST 1048576: true; the input reads as it did. -/
def drvOnceUptoRow : OpenClaim := { program := "ytajdbimdiodalaagreat", sum := "0b9c3dfdb16130cabf90c94c6b8a839dcf64ea4f6ec39d150e00f1896ff01a81", func := "jackstay/jackstaylaw14.DrvOnce", spec := "drvOnce", unfollowed := true, recurses := true, apart := false, narrowed := true }
def DrvOnceUptoSaid : Prop := drvOnceUptoRow.holds Tryz.pinned (OpenSpec.upto drvOnceSpec)

/-- 'jackstaylaw14.DrvFull', WHERE WHAT IT READS IS OF BULK AT MOST 1048576: true; the input reads as it did. -/
def drvFullUptoRow : OpenClaim := { program := "ytajdbimdiodalaagreat", sum := "0b9c3dfdb16130cabf90c94c6b8a839dcf64ea4f6ec39d150e00f1896ff01a81", func := "jackstay/jackstaylaw14.DrvFull", spec := "drvFull", unfollowed := true, recurses := true, apart := false, narrowed := true }
def DrvFullUptoSaid : Prop := drvFullUptoRow.holds Tryz.pinned (OpenSpec.upto drvFullSpec)

/-- 'jackstaylaw14.DrvNone', WHERE WHAT IT READS IS OF BULK AT MOST 1048576: true; the input reads as it did. -/
def drvNoneUptoRow : OpenClaim := { program := "ytajdbimdiodalaagreat", sum := "0b9c3dfdb16130cabf90c94c6b8a839dcf64ea4f6ec39d150e00f1896ff01a81", func := "jackstay/jackstaylaw14.DrvNone", spec := "drvNone", unfollowed := true, recurses := true, apart := false, narrowed := true }
def DrvNoneUptoSaid : Prop := drvNoneUptoRow.holds Tryz.pinned (OpenSpec.upto drvNoneSpec)

/-- 'jackstaylaw14.DrvFlip', WHERE WHAT IT READS IS OF BULK AT MOST 1048576: true; the input reads as it did. -/
def drvFlipUptoRow : OpenClaim := { program := "ytajdbimdiodalaagreat", sum := "0b9c3dfdb16130cabf90c94c6b8a839dcf64ea4f6ec39d150e00f1896ff01a81", func := "jackstay/jackstaylaw14.DrvFlip", spec := "drvFlip", unfollowed := true, recurses := true, apart := false, narrowed := true }
def DrvFlipUptoSaid : Prop := drvFlipUptoRow.holds Tryz.pinned (OpenSpec.upto drvFlipSpec)

end Rows
end Go.Proofs.YtajdbimdiodalaaGreat
