/-
  No cell of these rows narrows 'for every input' (looked for: loops, veiled, ifaces, maps, wideKeys, modest, calm, conditions, laid).
  DERIVED. THE GIVEN ROWS OF THIS SEAT. 4 by the template 'for every input the law returns true; each argument reads behind the call as it read before'; 0 by the template 'total and deterministic' (their statements: YthpgcgkgokfnpaaTotals.lean).
  GIVEN WITH THE SEED: the statements are not yours to turn. If you find one false, say at which input.
  Laid BY PROGRAM, IN A SANDBOX (cutbox-rows.mjs): the forced cells as the released guide's own fill.sh prints them over the translation d7fc75cdd8fc431b… (all of the seat's roots in one cut). By AI agents, Wed Nov 11 2026. No macro, syntax, notation, axiom, sorry.
-/
import Derived.Test.YthpgcgkgokfnpaaChecked
import GoSem.Claim
import GoSem.ClaimJoined
import GoSem.ClaimMapViews
import Derived.JoinedTies
import Derived.KernelRfl
namespace Go.Proofs.Ythpgcgkgokfnpaa
/- THE CELL 'sum', in the pinned program and in every row, IS THE sha256 OF THE DUMP (.gsa) THAT YthpgcgkgokfnpaaProg.lean LOADS. Nothing in Lean hashes anything: it is a label: what it is worth is what the hold of that sum in a sandbox is worth. -/
noncomputable def Try.pinned : Pinned := { name := "ythpgcgkgokfnpaa", sum := "d7fc75cdd8fc431bfaeba79395923af65d9590d498f19c607d715eb05cd40298", checked := Try.checked }
namespace Rows
def none {H : Type} : Left H := { results := [], args := [] }

/-- 'jackstaylaw07.TakeTells': WHATEVER THE INPUT: true; the input reads as it did. -/
def takeTellsSpec : ChangeSpec := { name := "takeTells", fn := fun _ => fun
  | [d] => { results := [.lit (.bool true)], args := [d] }
  | _ => none }
def takeTellsRow : OpenClaim := { program := "ythpgcgkgokfnpaa", sum := "d7fc75cdd8fc431bfaeba79395923af65d9590d498f19c607d715eb05cd40298", func := "jackstay/jackstaylaw07.TakeTells", spec := "takeTells", unfollowed := true, recurses := true, apart := false }
def TakeTellsSaid : Prop := takeTellsRow.holds Try.pinned (OpenSpec.ofChange takeTellsSpec)

/-- ITS FALSE NEIGHBOUR: 'it returns false'. Refute it at one input. -/
def takeTellsWrong : ChangeSpec := { name := "takeTells", fn := fun _ => fun
  | [d] => { results := [.lit (.bool false)], args := [d] }
  | _ => none }
def TakeTellsWrongFalsely : Prop := takeTellsRow.holds Try.pinned (OpenSpec.ofChange takeTellsWrong)

/-- 'jackstaylaw07.TakeWhole': WHATEVER THE INPUT: true; the input reads as it did. -/
def takeWholeSpec : ChangeSpec := { name := "takeWhole", fn := fun _ => fun
  | [d1, d2] => { results := [.lit (.bool true)], args := [d1, d2] }
  | _ => none }
def takeWholeRow : OpenClaim := { program := "ythpgcgkgokfnpaa", sum := "d7fc75cdd8fc431bfaeba79395923af65d9590d498f19c607d715eb05cd40298", func := "jackstay/jackstaylaw07.TakeWhole", spec := "takeWhole", unfollowed := true, recurses := true, apart := false }
def TakeWholeSaid : Prop := takeWholeRow.holds Try.pinned (OpenSpec.ofChange takeWholeSpec)

/-- ITS FALSE NEIGHBOUR: 'it returns false'. Refute it at one input. -/
def takeWholeWrong : ChangeSpec := { name := "takeWhole", fn := fun _ => fun
  | [d1, d2] => { results := [.lit (.bool false)], args := [d1, d2] }
  | _ => none }
def TakeWholeWrongFalsely : Prop := takeWholeRow.holds Try.pinned (OpenSpec.ofChange takeWholeWrong)

/-- 'jackstaylaw07.TakeTurned': WHATEVER THE INPUT: true; the input reads as it did. -/
def takeTurnedSpec : ChangeSpec := { name := "takeTurned", fn := fun _ => fun
  | [d1, d2] => { results := [.lit (.bool true)], args := [d1, d2] }
  | _ => none }
def takeTurnedRow : OpenClaim := { program := "ythpgcgkgokfnpaa", sum := "d7fc75cdd8fc431bfaeba79395923af65d9590d498f19c607d715eb05cd40298", func := "jackstay/jackstaylaw07.TakeTurned", spec := "takeTurned", unfollowed := true, recurses := true, apart := false }
def TakeTurnedSaid : Prop := takeTurnedRow.holds Try.pinned (OpenSpec.ofChange takeTurnedSpec)

/-- ITS FALSE NEIGHBOUR: 'it returns false'. Refute it at one input. -/
def takeTurnedWrong : ChangeSpec := { name := "takeTurned", fn := fun _ => fun
  | [d1, d2] => { results := [.lit (.bool false)], args := [d1, d2] }
  | _ => none }
def TakeTurnedWrongFalsely : Prop := takeTurnedRow.holds Try.pinned (OpenSpec.ofChange takeTurnedWrong)

/-- 'jackstaylaw07.TakeOnce': WHATEVER THE INPUT: true; the input reads as it did. -/
def takeOnceSpec : ChangeSpec := { name := "takeOnce", fn := fun _ => fun
  | [d1, d2] => { results := [.lit (.bool true)], args := [d1, d2] }
  | _ => none }
def takeOnceRow : OpenClaim := { program := "ythpgcgkgokfnpaa", sum := "d7fc75cdd8fc431bfaeba79395923af65d9590d498f19c607d715eb05cd40298", func := "jackstay/jackstaylaw07.TakeOnce", spec := "takeOnce", unfollowed := true, recurses := true, apart := false }
def TakeOnceSaid : Prop := takeOnceRow.holds Try.pinned (OpenSpec.ofChange takeOnceSpec)

/-- ITS FALSE NEIGHBOUR: 'it returns false'. Refute it at one input. -/
def takeOnceWrong : ChangeSpec := { name := "takeOnce", fn := fun _ => fun
  | [d1, d2] => { results := [.lit (.bool false)], args := [d1, d2] }
  | _ => none }
def TakeOnceWrongFalsely : Prop := takeOnceRow.holds Try.pinned (OpenSpec.ofChange takeOnceWrong)

/- THE SECOND FORM. 'bulk': how many values and letters a reading holds, each counted each time it is reached (what is shared counts as often as it is met; a slice's spare places count too). A statement '..UptoSaid' is the law's where the arguments, and the package variables that the reading takes, are together of bulk at most 1048576: NARROWER than '..Said'. Prove '..Said' where nothing that the law and all that it calls make is longer than what came in: it says more and counts as full. Else prove '..UptoSaid'. A law counts once. -/
mutual
def uptoBulk {H : Type} : DataW H → Nat
  | .lit (.string bytes) => bytes.length + 1
  | .lit _ => 1
  | .nil => 1
  | .ptr d => uptoBulk d + 1
  | .slice elems spare => uptoBulkAll elems + uptoBulkAll spare + 1
  | .agg parts => uptoBulkAll parts + 1
  | .iface _ d => uptoBulk d + 1
  | .map entries => uptoBulkEntries entries + 1
  | .held _ => 1
def uptoBulkAll {H : Type} : List (DataW H) → Nat
  | [] => 0
  | d :: r => uptoBulk d + uptoBulkAll r
def uptoBulkEntries {H : Type} : List (Lit × DataW H) → Nat
  | [] => 0
  | x :: r => uptoBulkEntry x + uptoBulkEntries r
def uptoBulkEntry {H : Type} : Lit × DataW H → Nat
  | (.string bytes, d) => bytes.length + uptoBulk d + 1
  | (_, d) => uptoBulk d + 1
 end
def uptoSmall : (H : Type) → List (DataW H) → Bool := fun _ ds => decide (uptoBulkAll ds ≤ 1048576)
def OpenSpec.upto (s : _root_.Go.ChangeSpec) : _root_.Go.OpenSpec := { _root_.Go.OpenSpec.ofChange s with cond := some uptoSmall }

/-- 'jackstaylaw07.TakeTells', WHERE WHAT IT READS IS OF BULK AT MOST 1048576: true; the input reads as it did. -/
def takeTellsUptoRow : OpenClaim := { program := "ythpgcgkgokfnpaa", sum := "d7fc75cdd8fc431bfaeba79395923af65d9590d498f19c607d715eb05cd40298", func := "jackstay/jackstaylaw07.TakeTells", spec := "takeTells", unfollowed := true, recurses := true, apart := false, narrowed := true }
def TakeTellsUptoSaid : Prop := takeTellsUptoRow.holds Try.pinned (OpenSpec.upto takeTellsSpec)

/-- 'jackstaylaw07.TakeWhole', WHERE WHAT IT READS IS OF BULK AT MOST 1048576: true; the input reads as it did. -/
def takeWholeUptoRow : OpenClaim := { program := "ythpgcgkgokfnpaa", sum := "d7fc75cdd8fc431bfaeba79395923af65d9590d498f19c607d715eb05cd40298", func := "jackstay/jackstaylaw07.TakeWhole", spec := "takeWhole", unfollowed := true, recurses := true, apart := false, narrowed := true }
def TakeWholeUptoSaid : Prop := takeWholeUptoRow.holds Try.pinned (OpenSpec.upto takeWholeSpec)

/-- 'jackstaylaw07.TakeTurned', WHERE WHAT IT READS IS OF BULK AT MOST 1048576: true; the input reads as it did. -/
def takeTurnedUptoRow : OpenClaim := { program := "ythpgcgkgokfnpaa", sum := "d7fc75cdd8fc431bfaeba79395923af65d9590d498f19c607d715eb05cd40298", func := "jackstay/jackstaylaw07.TakeTurned", spec := "takeTurned", unfollowed := true, recurses := true, apart := false, narrowed := true }
def TakeTurnedUptoSaid : Prop := takeTurnedUptoRow.holds Try.pinned (OpenSpec.upto takeTurnedSpec)

/-- 'jackstaylaw07.TakeOnce', WHERE WHAT IT READS IS OF BULK AT MOST 1048576: true; the input reads as it did. -/
def takeOnceUptoRow : OpenClaim := { program := "ythpgcgkgokfnpaa", sum := "d7fc75cdd8fc431bfaeba79395923af65d9590d498f19c607d715eb05cd40298", func := "jackstay/jackstaylaw07.TakeOnce", spec := "takeOnce", unfollowed := true, recurses := true, apart := false, narrowed := true }
def TakeOnceUptoSaid : Prop := takeOnceUptoRow.holds Try.pinned (OpenSpec.upto takeOnceSpec)

end Rows
end Go.Proofs.Ythpgcgkgokfnpaa
