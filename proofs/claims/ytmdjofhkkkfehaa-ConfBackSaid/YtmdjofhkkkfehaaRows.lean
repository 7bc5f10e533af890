/-
  No cell of these rows narrows 'for every input' (looked for: loops, veiled, ifaces, maps, wideKeys, modest, calm, conditions, laid).
  DERIVED. THE GIVEN ROWS OF THIS SEAT. 7 by the template 'for every input the law returns true; each argument reads behind the call as it read before'; 0 by the template 'total and deterministic' (their statements: YtmdjofhkkkfehaaTotals.lean).
  GIVEN WITH THE SEED: the statements are not yours to turn. If you find one false, say at which input.
  Laid BY PROGRAM, IN A SANDBOX (cutbox-rows.mjs): the forced cells as the released guide's own fill.sh prints them over the translation b0f1ea3c1c2163f9… (all of the seat's roots in one cut). By AI agents, Wed Nov 11 2026. No macro, syntax, notation, axiom, sorry.
-/
import Derived.Test.YtmdjofhkkkfehaaChecked
import GoSem.Claim
import GoSem.ClaimJoined
import GoSem.ClaimMapViews
import Derived.JoinedTies
import Derived.KernelRfl
namespace Go.Proofs.Ytmdjofhkkkfehaa
/- THE CELL 'sum', in the pinned program and in every row, IS THE sha256 OF THE DUMP (.gsa) THAT YtmdjofhkkkfehaaProg.lean LOADS. Nothing in Lean hashes anything: it is a label: what it is worth is what the hold of that sum in a sandbox is worth. -/
noncomputable def Try.pinned : Pinned := { name := "ytmdjofhkkkfehaa", sum := "b0f1ea3c1c2163f92c3975d7021010ca165247dc6949707f89f49223ef1001cd", checked := Try.checked }
namespace Rows
def none {H : Type} : Left H := { results := [], args := [] }

/-- 'jackstaylaw06.ConfTells': WHATEVER THE INPUT: true; the input reads as it did. -/
def confTellsSpec : ChangeSpec := { name := "confTells", fn := fun _ => fun
  | [d1, d2, d3] => { results := [.lit (.bool true)], args := [d1, d2, d3] }
  | _ => none }
def confTellsRow : OpenClaim := { program := "ytmdjofhkkkfehaa", sum := "b0f1ea3c1c2163f92c3975d7021010ca165247dc6949707f89f49223ef1001cd", func := "jackstay/jackstaylaw06.ConfTells", spec := "confTells", apart := false }
def ConfTellsSaid : Prop := confTellsRow.holds Try.pinned (OpenSpec.ofChange confTellsSpec)

/-- ITS FALSE NEIGHBOUR: 'it returns false'. Refute it at one input. -/
def confTellsWrong : ChangeSpec := { name := "confTells", fn := fun _ => fun
  | [d1, d2, d3] => { results := [.lit (.bool false)], args := [d1, d2, d3] }
  | _ => none }
def ConfTellsWrongFalsely : Prop := confTellsRow.holds Try.pinned (OpenSpec.ofChange confTellsWrong)

/-- 'jackstaylaw06.ConfBack': WHATEVER THE INPUT: true; the input reads as it did. -/
def confBackSpec : ChangeSpec := { name := "confBack", fn := fun _ => fun
  | [d] => { results := [.lit (.bool true)], args := [d] }
  | _ => none }
def confBackRow : OpenClaim := { program := "ytmdjofhkkkfehaa", sum := "b0f1ea3c1c2163f92c3975d7021010ca165247dc6949707f89f49223ef1001cd", func := "jackstay/jackstaylaw06.ConfBack", spec := "confBack", apart := false }
def ConfBackSaid : Prop := confBackRow.holds Try.pinned (OpenSpec.ofChange confBackSpec)

/-- ITS FALSE NEIGHBOUR: 'it returns false'. Refute it at one input. -/
def confBackWrong : ChangeSpec := { name := "confBack", fn := fun _ => fun
  | [d] => { results := [.lit (.bool false)], args := [d] }
  | _ => none }
def ConfBackWrongFalsely : Prop := confBackRow.holds Try.pinned (OpenSpec.ofChange confBackWrong)

/-- 'jackstaylaw06.ConfRight': WHATEVER THE INPUT: true; the input reads as it did. -/
def confRightSpec : ChangeSpec := { name := "confRight", fn := fun _ => fun
  | [d1, d2] => { results := [.lit (.bool true)], args := [d1, d2] }
  | _ => none }
def confRightRow : OpenClaim := { program := "ytmdjofhkkkfehaa", sum := "b0f1ea3c1c2163f92c3975d7021010ca165247dc6949707f89f49223ef1001cd", func := "jackstay/jackstaylaw06.ConfRight", spec := "confRight", apart := false }
def ConfRightSaid : Prop := confRightRow.holds Try.pinned (OpenSpec.ofChange confRightSpec)

/-- ITS FALSE NEIGHBOUR: 'it returns false'. Refute it at one input. -/
def confRightWrong : ChangeSpec := { name := "confRight", fn := fun _ => fun
  | [d1, d2] => { results := [.lit (.bool false)], args := [d1, d2] }
  | _ => none }
def ConfRightWrongFalsely : Prop := confRightRow.holds Try.pinned (OpenSpec.ofChange confRightWrong)

/-- 'jackstaylaw06.ConfCounts': WHATEVER THE INPUT: true; the input reads as it did. -/
def confCountsSpec : ChangeSpec := { name := "confCounts", fn := fun _ => fun
  | [d1, d2, d3, d4] => { results := [.lit (.bool true)], args := [d1, d2, d3, d4] }
  | _ => none }
def confCountsRow : OpenClaim := { program := "ytmdjofhkkkfehaa", sum := "b0f1ea3c1c2163f92c3975d7021010ca165247dc6949707f89f49223ef1001cd", func := "jackstay/jackstaylaw06.ConfCounts", spec := "confCounts", apart := false }
def ConfCountsSaid : Prop := confCountsRow.holds Try.pinned (OpenSpec.ofChange confCountsSpec)

/-- ITS FALSE NEIGHBOUR: 'it returns false'. Refute it at one input. -/
def confCountsWrong : ChangeSpec := { name := "confCounts", fn := fun _ => fun
  | [d1, d2, d3, d4] => { results := [.lit (.bool false)], args := [d1, d2, d3, d4] }
  | _ => none }
def ConfCountsWrongFalsely : Prop := confCountsRow.holds Try.pinned (OpenSpec.ofChange confCountsWrong)

/-- 'jackstaylaw06.ConfPassive': WHATEVER THE INPUT: true; the input reads as it did. -/
def confPassiveSpec : ChangeSpec := { name := "confPassive", fn := fun _ => fun
  | [d1, d2] => { results := [.lit (.bool true)], args := [d1, d2] }
  | _ => none }
def confPassiveRow : OpenClaim := { program := "ytmdjofhkkkfehaa", sum := "b0f1ea3c1c2163f92c3975d7021010ca165247dc6949707f89f49223ef1001cd", func := "jackstay/jackstaylaw06.ConfPassive", spec := "confPassive", apart := false }
def ConfPassiveSaid : Prop := confPassiveRow.holds Try.pinned (OpenSpec.ofChange confPassiveSpec)

/-- ITS FALSE NEIGHBOUR: 'it returns false'. Refute it at one input. -/
def confPassiveWrong : ChangeSpec := { name := "confPassive", fn := fun _ => fun
  | [d1, d2] => { results := [.lit (.bool false)], args := [d1, d2] }
  | _ => none }
def ConfPassiveWrongFalsely : Prop := confPassiveRow.holds Try.pinned (OpenSpec.ofChange confPassiveWrong)

/-- 'jackstaylaw06.ConfBalance': WHATEVER THE INPUT: true; the input reads as it did. -/
def confBalanceSpec : ChangeSpec := { name := "confBalance", fn := fun _ => fun
  | [d] => { results := [.lit (.bool true)], args := [d] }
  | _ => none }
def confBalanceRow : OpenClaim := { program := "ytmdjofhkkkfehaa", sum := "b0f1ea3c1c2163f92c3975d7021010ca165247dc6949707f89f49223ef1001cd", func := "jackstay/jackstaylaw06.ConfBalance", spec := "confBalance", apart := false }
def ConfBalanceSaid : Prop := confBalanceRow.holds Try.pinned (OpenSpec.ofChange confBalanceSpec)

/-- ITS FALSE NEIGHBOUR: 'it returns false'. Refute it at one input. -/
def confBalanceWrong : ChangeSpec := { name := "confBalance", fn := fun _ => fun
  | [d] => { results := [.lit (.bool false)], args := [d] }
  | _ => none }
def ConfBalanceWrongFalsely : Prop := confBalanceRow.holds Try.pinned (OpenSpec.ofChange confBalanceWrong)

/-- 'jackstaylaw06.ConfMerges': WHATEVER THE INPUT: true; the input reads as it did. -/
def confMergesSpec : ChangeSpec := { name := "confMerges", fn := fun _ => fun
  | [d1, d2] => { results := [.lit (.bool true)], args := [d1, d2] }
  | _ => none }
def confMergesRow : OpenClaim := { program := "ytmdjofhkkkfehaa", sum := "b0f1ea3c1c2163f92c3975d7021010ca165247dc6949707f89f49223ef1001cd", func := "jackstay/jackstaylaw06.ConfMerges", spec := "confMerges", unfollowed := true, recurses := true, apart := false }
def ConfMergesSaid : Prop := confMergesRow.holds Try.pinned (OpenSpec.ofChange confMergesSpec)

/-- ITS FALSE NEIGHBOUR: 'it returns false'. Refute it at one input. -/
def confMergesWrong : ChangeSpec := { name := "confMerges", fn := fun _ => fun
  | [d1, d2] => { results := [.lit (.bool false)], args := [d1, d2] }
  | _ => none }
def ConfMergesWrongFalsely : Prop := confMergesRow.holds Try.pinned (OpenSpec.ofChange confMergesWrong)

/- THE SECOND FORM. 'bulk': how many values and letters a reading holds, each counted each time it is reached (what is shared counts as often as it is met; a slice's spare places count too). A statement '..UptoSaid' is the law's where the arguments, and the package variables that the reading takes, are together of bulk at most 1048576: NARROWER than '..Said'. Prove '..Said' where nothing that the law and all that it calls make is longer than what came in: it says more and counts as full. Else prove '..UptoSaid'. A law counts once. -/
mutual
def uptoBulk {H : Type} : DataW H → Nat
  | .lit (.string bytes) => bytes.length + 1
  | .lit _ => 1
  | .nil => 1
  | .ptr d => uptoBulk d + 1
  | .slice elems spare => uptoBulkAll elems + uptoBulkAll spare + 1
  | .agg parts => uptoBulkAll parts + 1
  | .iface _ d => uptoBulk d + 1
  | .map entries => uptoBulkEntries entries + 1
  | .held _ => 1
def uptoBulkAll {H : Type} : List (DataW H) → Nat
  | [] => 0
  | d :: r => uptoBulk d + uptoBulkAll r
def uptoBulkEntries {H : Type} : List (Lit × DataW H) → Nat
  | [] => 0
  | x :: r => uptoBulkEntry x + uptoBulkEntries r
def uptoBulkEntry {H : Type} : Lit × DataW H → Nat
  | (.string bytes, d) => bytes.length + uptoBulk d + 1
  | (_, d) => uptoBulk d + 1
 end
def uptoSmall : (H : Type) → List (DataW H) → Bool := fun _ ds => decide (uptoBulkAll ds ≤ 1048576)
def OpenSpec.upto (s : _root_.Go.ChangeSpec) : _root_.Go.OpenSpec := { _root_.Go.OpenSpec.ofChange s with cond := some uptoSmall }

/-- 'jackstaylaw06.ConfTells', WHERE WHAT IT READS IS OF BULK AT MOST 1048576: true; the input reads as it did. -/
def confTellsUptoRow : OpenClaim := { program := "ytmdjofhkkkfehaa", sum := "b0f1ea3c1c2163f92c3975d7021010ca165247dc6949707f89f49223ef1001cd", func := "jackstay/jackstaylaw06.ConfTells", spec := "confTells", apart := false, narrowed := true }
def ConfTellsUptoSaid : Prop := confTellsUptoRow.holds Try.pinned (OpenSpec.upto confTellsSpec)

/-- 'jackstaylaw06.ConfBack', WHERE WHAT IT READS IS OF BULK AT MOST 1048576: true; the input reads as it did. -/
def confBackUptoRow : OpenClaim := { program := "ytmdjofhkkkfehaa", sum := "b0f1ea3c1c2163f92c3975d7021010ca165247dc6949707f89f49223ef1001cd", func := "jackstay/jackstaylaw06.ConfBack", spec := "confBack", apart := false, narrowed := true }
def ConfBackUptoSaid : Prop := confBackUptoRow.holds Try.pinned (OpenSpec.upto confBackSpec)

/-- 'jackstaylaw06.ConfRight', WHERE WHAT IT READS IS OF BULK AT MOST 1048576: true; the input reads as it did. -/
def confRightUptoRow : OpenClaim := { program := "ytmdjofhkkkfehaa", sum := "b0f1ea3c1c2163f92c3975d7021010ca165247dc6949707f89f49223ef1001cd", func := "jackstay/jackstaylaw06.ConfRight", spec := "confRight", apart := false, narrowed := true }
def ConfRightUptoSaid : Prop := confRightUptoRow.holds Try.pinned (OpenSpec.upto confRightSpec)

/-- 'jackstaylaw06.ConfCounts', WHERE WHAT IT READS IS OF BULK AT MOST 1048576: true; the input reads as it did. -/
def confCountsUptoRow : OpenClaim := { program := "ytmdjofhkkkfehaa", sum := "b0f1ea3c1c2163f92c3975d7021010ca165247dc6949707f89f49223ef1001cd", func := "jackstay/jackstaylaw06.ConfCounts", spec := "confCounts", apart := false, narrowed := true }
def ConfCountsUptoSaid : Prop := confCountsUptoRow.holds Try.pinned (OpenSpec.upto confCountsSpec)

/-- 'jackstaylaw06.ConfPassive', WHERE WHAT IT READS IS OF BULK AT MOST 1048576: true; the input reads as it did. -/
def confPassiveUptoRow : OpenClaim := { program := "ytmdjofhkkkfehaa", sum := "b0f1ea3c1c2163f92c3975d7021010ca165247dc6949707f89f49223ef1001cd", func := "jackstay/jackstaylaw06.ConfPassive", spec := "confPassive", apart := false, narrowed := true }
def ConfPassiveUptoSaid : Prop := confPassiveUptoRow.holds Try.pinned (OpenSpec.upto confPassiveSpec)

/-- 'jackstaylaw06.ConfBalance', WHERE WHAT IT READS IS OF BULK AT MOST 1048576: true; the input reads as it did. -/
def confBalanceUptoRow : OpenClaim := { program := "ytmdjofhkkkfehaa", sum := "b0f1ea3c1c2163f92c3975d7021010ca165247dc6949707f89f49223ef1001cd", func := "jackstay/jackstaylaw06.ConfBalance", spec := "confBalance", apart := false, narrowed := true }
def ConfBalanceUptoSaid : Prop := confBalanceUptoRow.holds Try.pinned (OpenSpec.upto confBalanceSpec)

/-- 'jackstaylaw06.ConfMerges', WHERE WHAT IT READS IS OF BULK AT MOST 1048576: true; the input reads as it did. -/
def confMergesUptoRow : OpenClaim := { program := "ytmdjofhkkkfehaa", sum := "b0f1ea3c1c2163f92c3975d7021010ca165247dc6949707f89f49223ef1001cd", func := "jackstay/jackstaylaw06.ConfMerges", spec := "confMerges", unfollowed := true, recurses := true, apart := false, narrowed := true }
def ConfMergesUptoSaid : Prop := confMergesUptoRow.holds Try.pinned (OpenSpec.upto confMergesSpec)

end Rows
end Go.Proofs.Ytmdjofhkkkfehaa
