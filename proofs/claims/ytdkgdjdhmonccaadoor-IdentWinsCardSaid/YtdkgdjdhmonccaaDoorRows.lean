/-
  NARROWER THAN 'FOR EVERY INPUT', by the rows' own cells (each row's printed sentence says how): IdentTells: laid · IdentBack: laid · IdentWins: laid · IdentKinds: laid.
  DERIVED. THE GIVEN ROWS OF THIS SEAT. 4 by the template 'for every input the law returns true; each argument reads behind the call as it read before'; 0 by the template 'total and deterministic' (their statements: YtdkgdjdhmonccaaDoorTotals.lean).
  GIVEN WITH THE SEED: the statements are not yours to turn. If you find one false, say at which input.
  Laid BY PROGRAM, IN A SANDBOX (cutbox-rows.mjs): the forced cells as the released guide's own fill.sh prints them over the translation 23d2f604ae260a45… (all of the seat's roots in one cut). By AI agents, Wed Nov 11 2026. No macro, syntax, notation, axiom, sorry.
-/
import Derived.Test.YtdkgdjdhmonccaaDoorChecked
import GoSem.Claim
import GoSem.ClaimJoined
import GoSem.ClaimMapViews
import Derived.JoinedTies
import Derived.KernelRfl
namespace Go.Proofs.YtdkgdjdhmonccaaDoor
/- THE CELL 'sum', in the pinned program and in every row, IS THE sha256 OF THE DUMP (.gsa) THAT YtdkgdjdhmonccaaDoorProg.lean LOADS. Nothing in Lean hashes anything: it is a label: what it is worth is what the hold of that sum in a sandbox is worth. -/
noncomputable def Tryd.pinned : Pinned := { name := "ytdkgdjdhmonccaadoor", sum := "23d2f604ae260a45eceafc82c1ca05df959be7666c53995afa4e9e23fb395df1", checked := Tryd.checked }
namespace Rows
def none {H : Type} : Left H := { results := [], args := [] }

/- WHAT THE LISTED PACKAGE-LEVEL VARIABLES READ AS WHEN THE CALL BEGINS. Each datum BY PROGRAM (the guide's laid-datum.mjs) off the statement by which the dump's own 'gosem.cut.vars' lays the variable. In a bare row this is a premise. The card (YtdkgdjdhmonccaaDoorCards.lean) ties it to the program's text. -/
def laid_jackstay_ident_wide {H : Type} : DataW H := .agg [.lit (.int .u64 4), .lit (.int .u64 5), .lit (.int .u64 16), .lit (.int .u64 4)]

/-- 'jackstaylaw15.IdentTells': WHATEVER THE INPUT: true; the input reads as it did. -/
def identTellsSpec : ChangeSpec := { name := "identTells", fn := fun _ => fun
  | [d1, d2, d3, d4, d5] => { results := [.lit (.bool true)], args := [d1, d2, d3, d4, d5] }
  | _ => none }
def identTellsRow : OpenClaim := { program := "ytdkgdjdhmonccaadoor", sum := "23d2f604ae260a45eceafc82c1ca05df959be7666c53995afa4e9e23fb395df1", func := "jackstay/jackstaylaw15.IdentTells", spec := "identTells", named := ["jackstay/ident.wide"], apart := false, laid := [("jackstay/ident.wide", laid_jackstay_ident_wide)] }
def IdentTellsSaid : Prop := identTellsRow.holds Tryd.pinned (OpenSpec.ofChange identTellsSpec)

/-- ITS FALSE NEIGHBOUR: 'it returns false'. Refute it at one input. -/
def identTellsWrong : ChangeSpec := { name := "identTells", fn := fun _ => fun
  | [d1, d2, d3, d4, d5] => { results := [.lit (.bool false)], args := [d1, d2, d3, d4, d5] }
  | _ => none }
def IdentTellsWrongFalsely : Prop := identTellsRow.holds Tryd.pinned (OpenSpec.ofChange identTellsWrong)

/-- 'jackstaylaw15.IdentBack': WHATEVER THE INPUT: true; the input reads as it did. -/
def identBackSpec : ChangeSpec := { name := "identBack", fn := fun _ => fun
  | [d1, d2, d3] => { results := [.lit (.bool true)], args := [d1, d2, d3] }
  | _ => none }
def identBackRow : OpenClaim := { program := "ytdkgdjdhmonccaadoor", sum := "23d2f604ae260a45eceafc82c1ca05df959be7666c53995afa4e9e23fb395df1", func := "jackstay/jackstaylaw15.IdentBack", spec := "identBack", named := ["jackstay/ident.wide"], apart := false, laid := [("jackstay/ident.wide", laid_jackstay_ident_wide)] }
def IdentBackSaid : Prop := identBackRow.holds Tryd.pinned (OpenSpec.ofChange identBackSpec)

/-- ITS FALSE NEIGHBOUR: 'it returns false'. Refute it at one input. -/
def identBackWrong : ChangeSpec := { name := "identBack", fn := fun _ => fun
  | [d1, d2, d3] => { results := [.lit (.bool false)], args := [d1, d2, d3] }
  | _ => none }
def IdentBackWrongFalsely : Prop := identBackRow.holds Tryd.pinned (OpenSpec.ofChange identBackWrong)

/-- 'jackstaylaw15.IdentWins': WHATEVER THE INPUT: true; the input reads as it did. -/
def identWinsSpec : ChangeSpec := { name := "identWins", fn := fun _ => fun
  | [d1, d2, d3, d4, d5] => { results := [.lit (.bool true)], args := [d1, d2, d3, d4, d5] }
  | _ => none }
def identWinsRow : OpenClaim := { program := "ytdkgdjdhmonccaadoor", sum := "23d2f604ae260a45eceafc82c1ca05df959be7666c53995afa4e9e23fb395df1", func := "jackstay/jackstaylaw15.IdentWins", spec := "identWins", named := ["jackstay/ident.wide"], apart := false, laid := [("jackstay/ident.wide", laid_jackstay_ident_wide)] }
def IdentWinsSaid : Prop := identWinsRow.holds Tryd.pinned (OpenSpec.ofChange identWinsSpec)

/-- ITS FALSE NEIGHBOUR: 'it returns false'. Refute it at one input. -/
def identWinsWrong : ChangeSpec := { name := "identWins", fn := fun _ => fun
  | [d1, d2, d3, d4, d5] => { results := [.lit (.bool false)], args := [d1, d2, d3, d4, d5] }
  | _ => none }
def IdentWinsWrongFalsely : Prop := identWinsRow.holds Tryd.pinned (OpenSpec.ofChange identWinsWrong)

/-- 'jackstaylaw15.IdentKinds': WHATEVER THE INPUT: true; the input reads as it did. -/
def identKindsSpec : ChangeSpec := { name := "identKinds", fn := fun _ => fun
  | [d1, d2, d3, d4] => { results := [.lit (.bool true)], args := [d1, d2, d3, d4] }
  | _ => none }
def identKindsRow : OpenClaim := { program := "ytdkgdjdhmonccaadoor", sum := "23d2f604ae260a45eceafc82c1ca05df959be7666c53995afa4e9e23fb395df1", func := "jackstay/jackstaylaw15.IdentKinds", spec := "identKinds", named := ["jackstay/ident.wide"], apart := false, laid := [("jackstay/ident.wide", laid_jackstay_ident_wide)] }
def IdentKindsSaid : Prop := identKindsRow.holds Tryd.pinned (OpenSpec.ofChange identKindsSpec)

/-- ITS FALSE NEIGHBOUR: 'it returns false'. Refute it at one input. -/
def identKindsWrong : ChangeSpec := { name := "identKinds", fn := fun _ => fun
  | [d1, d2, d3, d4] => { results := [.lit (.bool false)], args := [d1, d2, d3, d4] }
  | _ => none }
def IdentKindsWrongFalsely : Prop := identKindsRow.holds Tryd.pinned (OpenSpec.ofChange identKindsWrong)

/- THE SECOND FORM. 'bulk': how many values and letters a reading holds, each counted each time it is reached (what is shared counts as often as it is met; a slice's spare places count too). A statement '..UptoSaid' is the law's where the arguments, and the package variables that the reading takes, are together of bulk at most 1048576: NARROWER than '..Said'. Prove '..Said' where nothing that the law and all that it calls make is longer than what came in: it says more and counts as full. Else prove '..UptoSaid'. A law counts once. -/
mutual
def uptoBulk {H : Type} : DataW H → Nat
  | .lit (.string bytes) => bytes.length + 1
  | .lit _ => 1
  | .nil => 1
  | .ptr d => uptoBulk d + 1
  | .slice elems spare => uptoBulkAll elems + uptoBulkAll spare + 1
  | .agg parts => uptoBulkAll parts + 1
  | .iface _ d => uptoBulk d + 1
  | .map entries => uptoBulkEntries entries + 1
  | .held _ => 1
def uptoBulkAll {H : Type} : List (DataW H) → Nat
  | [] => 0
  | d :: r => uptoBulk d + uptoBulkAll r
def uptoBulkEntries {H : Type} : List (Lit × DataW H) → Nat
  | [] => 0
  | x :: r => uptoBulkEntry x + uptoBulkEntries r
def uptoBulkEntry {H : Type} : Lit × DataW H → Nat
  | (.string bytes, d) => bytes.length + uptoBulk d + 1
  | (_, d) => uptoBulk d + 1
 end
def uptoSmall : (H : Type) → List (DataW H) → Bool := fun _ ds => decide (uptoBulkAll ds ≤ 1048576)
def OpenSpec.upto (s : _root_.Go.ChangeSpec) : _root_.Go.OpenSpec := { _root_.Go.OpenSpec.ofChange s with cond := some uptoSmall }

/-- 'jackstaylaw15.IdentTells', WHERE WHAT IT READS IS OF BULK AT MOST 1048576: true; the input reads as it did. -/
def identTellsUptoRow : OpenClaim := { program := "ytdkgdjdhmonccaadoor", sum := "23d2f604ae260a45eceafc82c1ca05df959be7666c53995afa4e9e23fb395df1", func := "jackstay/jackstaylaw15.IdentTells", spec := "identTells", named := ["jackstay/ident.wide"], apart := false, laid := [("jackstay/ident.wide", laid_jackstay_ident_wide)], narrowed := true }
def IdentTellsUptoSaid : Prop := identTellsUptoRow.holds Tryd.pinned (OpenSpec.upto identTellsSpec)

/-- 'jackstaylaw15.IdentBack', WHERE WHAT IT READS IS OF BULK AT MOST 1048576: true; the input reads as it did. -/
def identBackUptoRow : OpenClaim := { program := "ytdkgdjdhmonccaadoor", sum := "23d2f604ae260a45eceafc82c1ca05df959be7666c53995afa4e9e23fb395df1", func := "jackstay/jackstaylaw15.IdentBack", spec := "identBack", named := ["jackstay/ident.wide"], apart := false, laid := [("jackstay/ident.wide", laid_jackstay_ident_wide)], narrowed := true }
def IdentBackUptoSaid : Prop := identBackUptoRow.holds Tryd.pinned (OpenSpec.upto identBackSpec)

/-- 'jackstaylaw15.IdentWins', WHERE WHAT IT READS IS OF BULK AT MOST 1048576: true; the input reads as it did. -/
def identWinsUptoRow : OpenClaim := { program := "ytdkgdjdhmonccaadoor", sum := "23d2f604ae260a45eceafc82c1ca05df959be7666c53995afa4e9e23fb395df1", func := "jackstay/jackstaylaw15.IdentWins", spec := "identWins", named := ["jackstay/ident.wide"], apart := false, laid := [("jackstay/ident.wide", laid_jackstay_ident_wide)], narrowed := true }
def IdentWinsUptoSaid : Prop := identWinsUptoRow.holds Tryd.pinned (OpenSpec.upto identWinsSpec)

/-- 'jackstaylaw15.IdentKinds', WHERE WHAT IT READS IS OF BULK AT MOST 1048576: true; the input reads as it did. -/
def identKindsUptoRow : OpenClaim := { program := "ytdkgdjdhmonccaadoor", sum := "23d2f604ae260a45eceafc82c1ca05df959be7666c53995afa4e9e23fb395df1", func := "jackstay/jackstaylaw15.IdentKinds", spec := "identKinds", named := ["jackstay/ident.wide"], apart := false, laid := [("jackstay/ident.wide", laid_jackstay_ident_wide)], narrowed := true }
def IdentKindsUptoSaid : Prop := identKindsUptoRow.holds Tryd.pinned (OpenSpec.upto identKindsSpec)

end Rows
end Go.Proofs.YtdkgdjdhmonccaaDoor
