/-
  No cell of these rows narrows 'for every input' (looked for: loops, veiled, ifaces, maps, wideKeys, modest, calm, conditions, laid).
  DERIVED. THE GIVEN ROWS OF THIS SEAT. 5 by the template 'for every input the law returns true; each argument reads behind the call as it read before'; 0 by the template 'total and deterministic' (their statements: YtmaklneiedljjaaTotals.lean).
  GIVEN WITH THE SEED: the statements are not yours to turn. If you find one false, say at which input.
  Laid BY PROGRAM, IN A SANDBOX (cutbox-rows.mjs): the forced cells as the released guide's own fill.sh prints them over the translation f1fb0db0ea412d52… (all of the seat's roots in one cut). By AI agents, Wed Nov 11 2026. No macro, syntax, notation, axiom, sorry.
-/
import Derived.Test.YtmaklneiedljjaaChecked
import GoSem.Claim
import GoSem.ClaimJoined
import GoSem.ClaimMapViews
import Derived.JoinedTies
import Derived.KernelRfl
namespace Go.Proofs.Ytmaklneiedljjaa
/- THE CELL 'sum', in the pinned program and in every row, IS THE sha256 OF THE DUMP (.gsa) THAT YtmaklneiedljjaaProg.lean LOADS. Nothing in Lean hashes anything: it is a label: what it is worth is what the hold of that sum in a sandbox is worth. -/
noncomputable def Try.pinned : Pinned := { name := "ytmaklneiedljjaa", sum := "f1fb0db0ea412d529faec757b6a416df69f08ed11172507a84f05f8490316938", checked := Try.checked }
namespace Rows
def none {H : Type} : Left H := { results := [], args := [] }

/-- 'jackstaylaw11.FilterTells': WHATEVER THE INPUT: true; the input reads as it did. -/
def filterTellsSpec : ChangeSpec := { name := "filterTells", fn := fun _ => fun
  | [d1, d2, d3, d4, d5, d6, d7] => { results := [.lit (.bool true)], args := [d1, d2, d3, d4, d5, d6, d7] }
  | _ => none }
def filterTellsRow : OpenClaim := { program := "ytmaklneiedljjaa", sum := "f1fb0db0ea412d529faec757b6a416df69f08ed11172507a84f05f8490316938", func := "jackstay/jackstaylaw11.FilterTells", spec := "filterTells", unfollowed := true, recurses := true, apart := false }
def FilterTellsSaid : Prop := filterTellsRow.holds Try.pinned (OpenSpec.ofChange filterTellsSpec)

/-- ITS FALSE NEIGHBOUR: 'it returns false'. Refute it at one input. -/
def filterTellsWrong : ChangeSpec := { name := "filterTells", fn := fun _ => fun
  | [d1, d2, d3, d4, d5, d6, d7] => { results := [.lit (.bool false)], args := [d1, d2, d3, d4, d5, d6, d7] }
  | _ => none }
def FilterTellsWrongFalsely : Prop := filterTellsRow.holds Try.pinned (OpenSpec.ofChange filterTellsWrong)

/-- 'jackstaylaw11.FilterCovers': WHATEVER THE INPUT: true; the input reads as it did. -/
def filterCoversSpec : ChangeSpec := { name := "filterCovers", fn := fun _ => fun
  | [d1, d2, d3, d4] => { results := [.lit (.bool true)], args := [d1, d2, d3, d4] }
  | _ => none }
def filterCoversRow : OpenClaim := { program := "ytmaklneiedljjaa", sum := "f1fb0db0ea412d529faec757b6a416df69f08ed11172507a84f05f8490316938", func := "jackstay/jackstaylaw11.FilterCovers", spec := "filterCovers", unfollowed := true, recurses := true, apart := false }
def FilterCoversSaid : Prop := filterCoversRow.holds Try.pinned (OpenSpec.ofChange filterCoversSpec)

/-- ITS FALSE NEIGHBOUR: 'it returns false'. Refute it at one input. -/
def filterCoversWrong : ChangeSpec := { name := "filterCovers", fn := fun _ => fun
  | [d1, d2, d3, d4] => { results := [.lit (.bool false)], args := [d1, d2, d3, d4] }
  | _ => none }
def FilterCoversWrongFalsely : Prop := filterCoversRow.holds Try.pinned (OpenSpec.ofChange filterCoversWrong)

/-- 'jackstaylaw11.FilterOnly': WHATEVER THE INPUT: true; the input reads as it did. -/
def filterOnlySpec : ChangeSpec := { name := "filterOnly", fn := fun _ => fun
  | [d1, d2, d3] => { results := [.lit (.bool true)], args := [d1, d2, d3] }
  | _ => none }
def filterOnlyRow : OpenClaim := { program := "ytmaklneiedljjaa", sum := "f1fb0db0ea412d529faec757b6a416df69f08ed11172507a84f05f8490316938", func := "jackstay/jackstaylaw11.FilterOnly", spec := "filterOnly", unfollowed := true, recurses := true, apart := false }
def FilterOnlySaid : Prop := filterOnlyRow.holds Try.pinned (OpenSpec.ofChange filterOnlySpec)

/-- ITS FALSE NEIGHBOUR: 'it returns false'. Refute it at one input. -/
def filterOnlyWrong : ChangeSpec := { name := "filterOnly", fn := fun _ => fun
  | [d1, d2, d3] => { results := [.lit (.bool false)], args := [d1, d2, d3] }
  | _ => none }
def FilterOnlyWrongFalsely : Prop := filterOnlyRow.holds Try.pinned (OpenSpec.ofChange filterOnlyWrong)

/-- 'jackstaylaw11.FilterMore': WHATEVER THE INPUT: true; the input reads as it did. -/
def filterMoreSpec : ChangeSpec := { name := "filterMore", fn := fun _ => fun
  | [d1, d2, d3, d4] => { results := [.lit (.bool true)], args := [d1, d2, d3, d4] }
  | _ => none }
def filterMoreRow : OpenClaim := { program := "ytmaklneiedljjaa", sum := "f1fb0db0ea412d529faec757b6a416df69f08ed11172507a84f05f8490316938", func := "jackstay/jackstaylaw11.FilterMore", spec := "filterMore", unfollowed := true, recurses := true, apart := false }
def FilterMoreSaid : Prop := filterMoreRow.holds Try.pinned (OpenSpec.ofChange filterMoreSpec)

/-- ITS FALSE NEIGHBOUR: 'it returns false'. Refute it at one input. -/
def filterMoreWrong : ChangeSpec := { name := "filterMore", fn := fun _ => fun
  | [d1, d2, d3, d4] => { results := [.lit (.bool false)], args := [d1, d2, d3, d4] }
  | _ => none }
def FilterMoreWrongFalsely : Prop := filterMoreRow.holds Try.pinned (OpenSpec.ofChange filterMoreWrong)

/-- 'jackstaylaw11.FilterHalves': WHATEVER THE INPUT: true; the input reads as it did. -/
def filterHalvesSpec : ChangeSpec := { name := "filterHalves", fn := fun _ => fun
  | [d1, d2, d3] => { results := [.lit (.bool true)], args := [d1, d2, d3] }
  | _ => none }
def filterHalvesRow : OpenClaim := { program := "ytmaklneiedljjaa", sum := "f1fb0db0ea412d529faec757b6a416df69f08ed11172507a84f05f8490316938", func := "jackstay/jackstaylaw11.FilterHalves", spec := "filterHalves", unfollowed := true, recurses := true, apart := false }
def FilterHalvesSaid : Prop := filterHalvesRow.holds Try.pinned (OpenSpec.ofChange filterHalvesSpec)

/-- ITS FALSE NEIGHBOUR: 'it returns false'. Refute it at one input. -/
def filterHalvesWrong : ChangeSpec := { name := "filterHalves", fn := fun _ => fun
  | [d1, d2, d3] => { results := [.lit (.bool false)], args := [d1, d2, d3] }
  | _ => none }
def FilterHalvesWrongFalsely : Prop := filterHalvesRow.holds Try.pinned (OpenSpec.ofChange filterHalvesWrong)

/- THE SECOND FORM. 'bulk': how many values and letters a reading holds, each counted each time it is reached (what is shared counts as often as it is met; a slice's spare places count too). A statement '..UptoSaid' is the law's where the arguments, and the package variables that the reading takes, are together of bulk at most 1048576: NARROWER than '..Said'. Prove '..Said' where nothing that the law and all that it calls make is longer than what came in: it says more and counts as full. Else prove '..UptoSaid'. A law counts once. -/
mutual
def uptoBulk {H : Type} : DataW H → Nat
  | .lit (.string bytes) => bytes.length + 1
  | .lit _ => 1
  | .nil => 1
  | .ptr d => uptoBulk d + 1
  | .slice elems spare => uptoBulkAll elems + uptoBulkAll spare + 1
  | .agg parts => uptoBulkAll parts + 1
  | .iface _ d => uptoBulk d + 1
  | .map entries => uptoBulkEntries entries + 1
  | .held _ => 1
def uptoBulkAll {H : Type} : List (DataW H) → Nat
  | [] => 0
  | d :: r => uptoBulk d + uptoBulkAll r
def uptoBulkEntries {H : Type} : List (Lit × DataW H) → Nat
  | [] => 0
  | x :: r => uptoBulkEntry x + uptoBulkEntries r
def uptoBulkEntry {H : Type} : Lit × DataW H → Nat
  | (.string bytes, d) => bytes.length + uptoBulk d + 1
  | (_, d) => uptoBulk d + 1
 end
def uptoSmall : (H : Type) → List (DataW H) → Bool := fun _ ds => decide (uptoBulkAll ds ≤ 1048576)
def OpenSpec.upto (s : _root_.Go.ChangeSpec) : _root_.Go.OpenSpec := { _root_.Go.OpenSpec.ofChange s with cond := some uptoSmall }

/-- 'jackstaylaw11.FilterTells', WHERE WHAT IT READS IS OF BULK AT MOST 1048576: true; the input reads as it did. -/
def filterTellsUptoRow : OpenClaim := { program := "ytmaklneiedljjaa", sum := "f1fb0db0ea412d529faec757b6a416df69f08ed11172507a84f05f8490316938", func := "jackstay/jackstaylaw11.FilterTells", spec := "filterTells", unfollowed := true, recurses := true, apart := false, narrowed := true }
def FilterTellsUptoSaid : Prop := filterTellsUptoRow.holds Try.pinned (OpenSpec.upto filterTellsSpec)

/-- 'jackstaylaw11.FilterCovers', WHERE WHAT IT READS IS OF BULK AT MOST 1048576: true; the input reads as it did. -/
def filterCoversUptoRow : OpenClaim := { program := "ytmaklneiedljjaa", sum := "f1fb0db0ea412d529faec757b6a416df69f08ed11172507a84f05f8490316938", func := "jackstay/jackstaylaw11.FilterCovers", spec := "filterCovers", unfollowed := true, recurses := true, apart := false, narrowed := true }
def FilterCoversUptoSaid : Prop := filterCoversUptoRow.holds Try.pinned (OpenSpec.upto filterCoversSpec)

/-- 'jackstaylaw11.FilterOnly', WHERE WHAT IT READS IS OF BULK AT MOST 1048576: true; the input reads as it did. -/
def filterOnlyUptoRow : OpenClaim := { program := "ytmaklneiedljjaa", sum := "f1fb0db0ea412d529faec757b6a416df69f08ed11172507a84f05f8490316938", func := "jackstay/jackstaylaw11.FilterOnly", spec := "filterOnly", unfollowed := true, recurses := true, apart := false, narrowed := true }
def FilterOnlyUptoSaid : Prop := filterOnlyUptoRow.holds Try.pinned (OpenSpec.upto filterOnlySpec)

/-- 'jackstaylaw11.FilterMore', WHERE WHAT IT READS IS OF BULK AT MOST 1048576: true; the input reads as it did. -/
def filterMoreUptoRow : OpenClaim := { program := "ytmaklneiedljjaa", sum := "f1fb0db0ea412d529faec757b6a416df69f08ed11172507a84f05f8490316938", func := "jackstay/jackstaylaw11.FilterMore", spec := "filterMore", unfollowed := true, recurses := true, apart := false, narrowed := true }
def FilterMoreUptoSaid : Prop := filterMoreUptoRow.holds Try.pinned (OpenSpec.upto filterMoreSpec)

/-- 'jackstaylaw11.FilterHalves', WHERE WHAT IT READS IS OF BULK AT MOST 1048576: true; the input reads as it did. -/
def filterHalvesUptoRow : OpenClaim := { program := "ytmaklneiedljjaa", sum := "f1fb0db0ea412d529faec757b6a416df69f08ed11172507a84f05f8490316938", func := "jackstay/jackstaylaw11.FilterHalves", spec := "filterHalves", unfollowed := true, recurses := true, apart := false, narrowed := true }
def FilterHalvesUptoSaid : Prop := filterHalvesUptoRow.holds Try.pinned (OpenSpec.upto filterHalvesSpec)

end Rows
end Go.Proofs.Ytmaklneiedljjaa
