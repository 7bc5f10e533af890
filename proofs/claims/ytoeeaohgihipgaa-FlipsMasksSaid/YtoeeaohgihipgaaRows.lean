/-
  No cell of these rows narrows 'for every input' (looked for: loops, veiled, ifaces, maps, wideKeys, modest, calm, conditions, laid).
  DERIVED. THE GIVEN ROWS OF THIS SEAT. 5 by the template 'for every input the law returns true; each argument reads behind the call as it read before'; 0 by the template 'total and deterministic' (their statements: YtoeeaohgihipgaaTotals.lean).
  GIVEN WITH THE SEED: the statements are not yours to turn. If you find one false, say at which input.
  Laid BY PROGRAM, IN A SANDBOX (cutbox-rows.mjs): the forced cells as the released guide's own fill.sh prints them over the translation 86b80bb0b2b3fdab… (all of the seat's roots in one cut). By AI agents, Wed Nov 11 2026. No macro, syntax, notation, axiom, sorry.
-/
import Derived.Test.YtoeeaohgihipgaaChecked
import GoSem.Claim
import GoSem.ClaimJoined
import GoSem.ClaimMapViews
import Derived.JoinedTies
import Derived.KernelRfl
namespace Go.Proofs.Ytoeeaohgihipgaa
/- THE CELL 'sum', in the pinned program and in every row, IS THE sha256 OF THE DUMP (.gsa) THAT YtoeeaohgihipgaaProg.lean LOADS. Nothing in Lean hashes anything: it is a label: what it is worth is what the hold of that sum in a sandbox is worth. -/
noncomputable def Try.pinned : Pinned := { name := "ytoeeaohgihipgaa", sum := "86b80bb0b2b3fdabeb3560505eb39064603fa0b9e9c15757f4ff83e28fddf8ef", checked := Try.checked }
namespace Rows
def none {H : Type} : Left H := { results := [], args := [] }

/-- 'jackstaylaw05.FlipsTells': WHATEVER THE INPUT: true; the input reads as it did. -/
def flipsTellsSpec : ChangeSpec := { name := "flipsTells", fn := fun _ => fun
  | [d1, d2, d3, d4, d5, d6] => { results := [.lit (.bool true)], args := [d1, d2, d3, d4, d5, d6] }
  | _ => none }
def flipsTellsRow : OpenClaim := { program := "ytoeeaohgihipgaa", sum := "86b80bb0b2b3fdabeb3560505eb39064603fa0b9e9c15757f4ff83e28fddf8ef", func := "jackstay/jackstaylaw05.FlipsTells", spec := "flipsTells", unfollowed := true, recurses := true, apart := false }
def FlipsTellsSaid : Prop := flipsTellsRow.holds Try.pinned (OpenSpec.ofChange flipsTellsSpec)

/-- ITS FALSE NEIGHBOUR: 'it returns false'. Refute it at one input. -/
def flipsTellsWrong : ChangeSpec := { name := "flipsTells", fn := fun _ => fun
  | [d1, d2, d3, d4, d5, d6] => { results := [.lit (.bool false)], args := [d1, d2, d3, d4, d5, d6] }
  | _ => none }
def FlipsTellsWrongFalsely : Prop := flipsTellsRow.holds Try.pinned (OpenSpec.ofChange flipsTellsWrong)

/-- 'jackstaylaw05.FlipsMasks': WHATEVER THE INPUT: true; the input reads as it did. -/
def flipsMasksSpec : ChangeSpec := { name := "flipsMasks", fn := fun _ => fun
  | [d1, d2, d3] => { results := [.lit (.bool true)], args := [d1, d2, d3] }
  | _ => none }
def flipsMasksRow : OpenClaim := { program := "ytoeeaohgihipgaa", sum := "86b80bb0b2b3fdabeb3560505eb39064603fa0b9e9c15757f4ff83e28fddf8ef", func := "jackstay/jackstaylaw05.FlipsMasks", spec := "flipsMasks", unfollowed := true, recurses := true, apart := false }
def FlipsMasksSaid : Prop := flipsMasksRow.holds Try.pinned (OpenSpec.ofChange flipsMasksSpec)

/-- ITS FALSE NEIGHBOUR: 'it returns false'. Refute it at one input. -/
def flipsMasksWrong : ChangeSpec := { name := "flipsMasks", fn := fun _ => fun
  | [d1, d2, d3] => { results := [.lit (.bool false)], args := [d1, d2, d3] }
  | _ => none }
def FlipsMasksWrongFalsely : Prop := flipsMasksRow.holds Try.pinned (OpenSpec.ofChange flipsMasksWrong)

/-- 'jackstaylaw05.FlipsWindows': WHATEVER THE INPUT: true; the input reads as it did. -/
def flipsWindowsSpec : ChangeSpec := { name := "flipsWindows", fn := fun _ => fun
  | [d1, d2, d3] => { results := [.lit (.bool true)], args := [d1, d2, d3] }
  | _ => none }
def flipsWindowsRow : OpenClaim := { program := "ytoeeaohgihipgaa", sum := "86b80bb0b2b3fdabeb3560505eb39064603fa0b9e9c15757f4ff83e28fddf8ef", func := "jackstay/jackstaylaw05.FlipsWindows", spec := "flipsWindows", unfollowed := true, recurses := true, apart := false }
def FlipsWindowsSaid : Prop := flipsWindowsRow.holds Try.pinned (OpenSpec.ofChange flipsWindowsSpec)

/-- ITS FALSE NEIGHBOUR: 'it returns false'. Refute it at one input. -/
def flipsWindowsWrong : ChangeSpec := { name := "flipsWindows", fn := fun _ => fun
  | [d1, d2, d3] => { results := [.lit (.bool false)], args := [d1, d2, d3] }
  | _ => none }
def FlipsWindowsWrongFalsely : Prop := flipsWindowsRow.holds Try.pinned (OpenSpec.ofChange flipsWindowsWrong)

/-- 'jackstaylaw05.FlipsNodes': WHATEVER THE INPUT: true; the input reads as it did. -/
def flipsNodesSpec : ChangeSpec := { name := "flipsNodes", fn := fun _ => fun
  | [d1, d2, d3, d4] => { results := [.lit (.bool true)], args := [d1, d2, d3, d4] }
  | _ => none }
def flipsNodesRow : OpenClaim := { program := "ytoeeaohgihipgaa", sum := "86b80bb0b2b3fdabeb3560505eb39064603fa0b9e9c15757f4ff83e28fddf8ef", func := "jackstay/jackstaylaw05.FlipsNodes", spec := "flipsNodes", unfollowed := true, recurses := true, apart := false }
def FlipsNodesSaid : Prop := flipsNodesRow.holds Try.pinned (OpenSpec.ofChange flipsNodesSpec)

/-- ITS FALSE NEIGHBOUR: 'it returns false'. Refute it at one input. -/
def flipsNodesWrong : ChangeSpec := { name := "flipsNodes", fn := fun _ => fun
  | [d1, d2, d3, d4] => { results := [.lit (.bool false)], args := [d1, d2, d3, d4] }
  | _ => none }
def FlipsNodesWrongFalsely : Prop := flipsNodesRow.holds Try.pinned (OpenSpec.ofChange flipsNodesWrong)

/-- 'jackstaylaw05.FlipsShift': WHATEVER THE INPUT: true; the input reads as it did. -/
def flipsShiftSpec : ChangeSpec := { name := "flipsShift", fn := fun _ => fun
  | [d1, d2, d3, d4, d5] => { results := [.lit (.bool true)], args := [d1, d2, d3, d4, d5] }
  | _ => none }
def flipsShiftRow : OpenClaim := { program := "ytoeeaohgihipgaa", sum := "86b80bb0b2b3fdabeb3560505eb39064603fa0b9e9c15757f4ff83e28fddf8ef", func := "jackstay/jackstaylaw05.FlipsShift", spec := "flipsShift", unfollowed := true, recurses := true, apart := false }
def FlipsShiftSaid : Prop := flipsShiftRow.holds Try.pinned (OpenSpec.ofChange flipsShiftSpec)

/-- ITS FALSE NEIGHBOUR: 'it returns false'. Refute it at one input. -/
def flipsShiftWrong : ChangeSpec := { name := "flipsShift", fn := fun _ => fun
  | [d1, d2, d3, d4, d5] => { results := [.lit (.bool false)], args := [d1, d2, d3, d4, d5] }
  | _ => none }
def FlipsShiftWrongFalsely : Prop := flipsShiftRow.holds Try.pinned (OpenSpec.ofChange flipsShiftWrong)

/- THE SECOND FORM. 'bulk': how many values and letters a reading holds, each counted each time it is reached (what is shared counts as often as it is met; a slice's spare places count too). A statement '..UptoSaid' is the law's where the arguments, and the package variables that the reading takes, are together of bulk at most 1048576: NARROWER than '..Said'. Prove '..Said' where nothing that the law and all that it calls make is longer than what came in: it says more and counts as full. Else prove '..UptoSaid'. A law counts once. -/
mutual
def uptoBulk {H : Type} : DataW H → Nat
  | .lit (.string bytes) => bytes.length + 1
  | .lit _ => 1
  | .nil => 1
  | .ptr d => uptoBulk d + 1
  | .slice elems spare => uptoBulkAll elems + uptoBulkAll spare + 1
  | .agg parts => uptoBulkAll parts + 1
  | .iface _ d => uptoBulk d + 1
  | .map entries => uptoBulkEntries entries + 1
  | .held _ => 1
def uptoBulkAll {H : Type} : List (DataW H) → Nat
  | [] => 0
  | d :: r => uptoBulk d + uptoBulkAll r
def uptoBulkEntries {H : Type} : List (Lit × DataW H) → Nat
  | [] => 0
  | x :: r => uptoBulkEntry x + uptoBulkEntries r
def uptoBulkEntry {H : Type} : Lit × DataW H → Nat
  | (.string bytes, d) => bytes.length + uptoBulk d + 1
  | (_, d) => uptoBulk d + 1
 end
def uptoSmall : (H : Type) → List (DataW H) → Bool := fun _ ds => decide (uptoBulkAll ds ≤ 1048576)
def OpenSpec.upto (s : _root_.Go.ChangeSpec) : _root_.Go.OpenSpec := { _root_.Go.OpenSpec.ofChange s with cond := some uptoSmall }

/-- 'jackstaylaw05.FlipsTells', WHERE WHAT IT READS IS OF BULK AT MOST 1048576: true; the input reads as it did. -/
def flipsTellsUptoRow : OpenClaim := { program := "ytoeeaohgihipgaa", sum := "86b80bb0b2b3fdabeb3560505eb39064603fa0b9e9c15757f4ff83e28fddf8ef", func := "jackstay/jackstaylaw05.FlipsTells", spec := "flipsTells", unfollowed := true, recurses := true, apart := false, narrowed := true }
def FlipsTellsUptoSaid : Prop := flipsTellsUptoRow.holds Try.pinned (OpenSpec.upto flipsTellsSpec)

/-- 'jackstaylaw05.FlipsMasks', WHERE WHAT IT READS IS OF BULK AT MOST 1048576: true; the input reads as it did. -/
def flipsMasksUptoRow : OpenClaim := { program := "ytoeeaohgihipgaa", sum := "86b80bb0b2b3fdabeb3560505eb39064603fa0b9e9c15757f4ff83e28fddf8ef", func := "jackstay/jackstaylaw05.FlipsMasks", spec := "flipsMasks", unfollowed := true, recurses := true, apart := false, narrowed := true }
def FlipsMasksUptoSaid : Prop := flipsMasksUptoRow.holds Try.pinned (OpenSpec.upto flipsMasksSpec)

/-- 'jackstaylaw05.FlipsWindows', WHERE WHAT IT READS IS OF BULK AT MOST 1048576: true; the input reads as it did. -/
def flipsWindowsUptoRow : OpenClaim := { program := "ytoeeaohgihipgaa", sum := "86b80bb0b2b3fdabeb3560505eb39064603fa0b9e9c15757f4ff83e28fddf8ef", func := "jackstay/jackstaylaw05.FlipsWindows", spec := "flipsWindows", unfollowed := true, recurses := true, apart := false, narrowed := true }
def FlipsWindowsUptoSaid : Prop := flipsWindowsUptoRow.holds Try.pinned (OpenSpec.upto flipsWindowsSpec)

/-- 'jackstaylaw05.FlipsNodes', WHERE WHAT IT READS IS OF BULK AT MOST 1048576: true; the input reads as it did. -/
def flipsNodesUptoRow : OpenClaim := { program := "ytoeeaohgihipgaa", sum := "86b80bb0b2b3fdabeb3560505eb39064603fa0b9e9c15757f4ff83e28fddf8ef", func := "jackstay/jackstaylaw05.FlipsNodes", spec := "flipsNodes", unfollowed := true, recurses := true, apart := false, narrowed := true }
def FlipsNodesUptoSaid : Prop := flipsNodesUptoRow.holds Try.pinned (OpenSpec.upto flipsNodesSpec)

/-- 'jackstaylaw05.FlipsShift', WHERE WHAT IT READS IS OF BULK AT MOST 1048576: true; the input reads as it did. -/
def flipsShiftUptoRow : OpenClaim := { program := "ytoeeaohgihipgaa", sum := "86b80bb0b2b3fdabeb3560505eb39064603fa0b9e9c15757f4ff83e28fddf8ef", func := "jackstay/jackstaylaw05.FlipsShift", spec := "flipsShift", unfollowed := true, recurses := true, apart := false, narrowed := true }
def FlipsShiftUptoSaid : Prop := flipsShiftUptoRow.holds Try.pinned (OpenSpec.upto flipsShiftSpec)

end Rows
end Go.Proofs.Ytoeeaohgihipgaa
