/-
  No cell of these rows narrows 'for every input' (looked for: loops, veiled, ifaces, maps, wideKeys, modest, calm, conditions, laid).
  DERIVED. THE GIVEN ROWS OF THIS SEAT. 6 by the template 'for every input the law returns true; each argument reads behind the call as it read before'; 0 by the template 'total and deterministic' (their statements: YtjekkjmjiljaeaaTotals.lean).
  GIVEN WITH THE SEED: the statements are not yours to turn. If you find one false, say at which input.
  Laid BY PROGRAM, IN A SANDBOX (cutbox-rows.mjs): the forced cells as the released guide's own fill.sh prints them over the translation ba41f004558e02f2… (all of the seat's roots in one cut). By AI agents, Wed Nov 11 2026. No macro, syntax, notation, axiom, sorry.
-/
import Derived.Test.YtjekkjmjiljaeaaChecked
import GoSem.Claim
import GoSem.ClaimJoined
import GoSem.ClaimMapViews
import Derived.JoinedTies
import Derived.KernelRfl
namespace Go.Proofs.Ytjekkjmjiljaeaa
/- THE CELL 'sum', in the pinned program and in every row, IS THE sha256 OF THE DUMP (.gsa) THAT YtjekkjmjiljaeaaProg.lean LOADS. Nothing in Lean hashes anything: it is a label: what it is worth is what the hold of that sum in a sandbox is worth. -/
noncomputable def Try.pinned : Pinned := { name := "ytjekkjmjiljaeaa", sum := "ba41f004558e02f2773df7086e462551e7ee796e795a54656752ffd7580b5baa", checked := Try.checked }
namespace Rows
def none {H : Type} : Left H := { results := [], args := [] }

/-- 'jackstaylaw10.MailTells': WHATEVER THE INPUT: true; the input reads as it did. -/
def mailTellsSpec : ChangeSpec := { name := "mailTells", fn := fun _ => fun
  | [d1, d2] => { results := [.lit (.bool true)], args := [d1, d2] }
  | _ => none }
def mailTellsRow : OpenClaim := { program := "ytjekkjmjiljaeaa", sum := "ba41f004558e02f2773df7086e462551e7ee796e795a54656752ffd7580b5baa", func := "jackstay/jackstaylaw10.MailTells", spec := "mailTells", unfollowed := true, recurses := true, apart := false }
def MailTellsSaid : Prop := mailTellsRow.holds Try.pinned (OpenSpec.ofChange mailTellsSpec)

/-- ITS FALSE NEIGHBOUR: 'it returns false'. Refute it at one input. -/
def mailTellsWrong : ChangeSpec := { name := "mailTells", fn := fun _ => fun
  | [d1, d2] => { results := [.lit (.bool false)], args := [d1, d2] }
  | _ => none }
def MailTellsWrongFalsely : Prop := mailTellsRow.holds Try.pinned (OpenSpec.ofChange mailTellsWrong)

/-- 'jackstaylaw10.MailWins': WHATEVER THE INPUT: true; the input reads as it did. -/
def mailWinsSpec : ChangeSpec := { name := "mailWins", fn := fun _ => fun
  | [d1, d2] => { results := [.lit (.bool true)], args := [d1, d2] }
  | _ => none }
def mailWinsRow : OpenClaim := { program := "ytjekkjmjiljaeaa", sum := "ba41f004558e02f2773df7086e462551e7ee796e795a54656752ffd7580b5baa", func := "jackstay/jackstaylaw10.MailWins", spec := "mailWins", unfollowed := true, recurses := true, apart := false }
def MailWinsSaid : Prop := mailWinsRow.holds Try.pinned (OpenSpec.ofChange mailWinsSpec)

/-- ITS FALSE NEIGHBOUR: 'it returns false'. Refute it at one input. -/
def mailWinsWrong : ChangeSpec := { name := "mailWins", fn := fun _ => fun
  | [d1, d2] => { results := [.lit (.bool false)], args := [d1, d2] }
  | _ => none }
def MailWinsWrongFalsely : Prop := mailWinsRow.holds Try.pinned (OpenSpec.ofChange mailWinsWrong)

/-- 'jackstaylaw10.MailOrder': WHATEVER THE INPUT: true; the input reads as it did. -/
def mailOrderSpec : ChangeSpec := { name := "mailOrder", fn := fun _ => fun
  | [d1, d2] => { results := [.lit (.bool true)], args := [d1, d2] }
  | _ => none }
def mailOrderRow : OpenClaim := { program := "ytjekkjmjiljaeaa", sum := "ba41f004558e02f2773df7086e462551e7ee796e795a54656752ffd7580b5baa", func := "jackstay/jackstaylaw10.MailOrder", spec := "mailOrder", unfollowed := true, recurses := true, apart := false }
def MailOrderSaid : Prop := mailOrderRow.holds Try.pinned (OpenSpec.ofChange mailOrderSpec)

/-- ITS FALSE NEIGHBOUR: 'it returns false'. Refute it at one input. -/
def mailOrderWrong : ChangeSpec := { name := "mailOrder", fn := fun _ => fun
  | [d1, d2] => { results := [.lit (.bool false)], args := [d1, d2] }
  | _ => none }
def MailOrderWrongFalsely : Prop := mailOrderRow.holds Try.pinned (OpenSpec.ofChange mailOrderWrong)

/-- 'jackstaylaw10.MailGone': WHATEVER THE INPUT: true; the input reads as it did. -/
def mailGoneSpec : ChangeSpec := { name := "mailGone", fn := fun _ => fun
  | [d1, d2, d3] => { results := [.lit (.bool true)], args := [d1, d2, d3] }
  | _ => none }
def mailGoneRow : OpenClaim := { program := "ytjekkjmjiljaeaa", sum := "ba41f004558e02f2773df7086e462551e7ee796e795a54656752ffd7580b5baa", func := "jackstay/jackstaylaw10.MailGone", spec := "mailGone", unfollowed := true, recurses := true, apart := false }
def MailGoneSaid : Prop := mailGoneRow.holds Try.pinned (OpenSpec.ofChange mailGoneSpec)

/-- ITS FALSE NEIGHBOUR: 'it returns false'. Refute it at one input. -/
def mailGoneWrong : ChangeSpec := { name := "mailGone", fn := fun _ => fun
  | [d1, d2, d3] => { results := [.lit (.bool false)], args := [d1, d2, d3] }
  | _ => none }
def MailGoneWrongFalsely : Prop := mailGoneRow.holds Try.pinned (OpenSpec.ofChange mailGoneWrong)

/-- 'jackstaylaw10.MailNone': WHATEVER THE INPUT: true; the input reads as it did. -/
def mailNoneSpec : ChangeSpec := { name := "mailNone", fn := fun _ => fun
  | [d1, d2] => { results := [.lit (.bool true)], args := [d1, d2] }
  | _ => none }
def mailNoneRow : OpenClaim := { program := "ytjekkjmjiljaeaa", sum := "ba41f004558e02f2773df7086e462551e7ee796e795a54656752ffd7580b5baa", func := "jackstay/jackstaylaw10.MailNone", spec := "mailNone", unfollowed := true, recurses := true, apart := false }
def MailNoneSaid : Prop := mailNoneRow.holds Try.pinned (OpenSpec.ofChange mailNoneSpec)

/-- ITS FALSE NEIGHBOUR: 'it returns false'. Refute it at one input. -/
def mailNoneWrong : ChangeSpec := { name := "mailNone", fn := fun _ => fun
  | [d1, d2] => { results := [.lit (.bool false)], args := [d1, d2] }
  | _ => none }
def MailNoneWrongFalsely : Prop := mailNoneRow.holds Try.pinned (OpenSpec.ofChange mailNoneWrong)

/-- 'jackstaylaw10.MailShuffled': WHATEVER THE INPUT: true; the input reads as it did. -/
def mailShuffledSpec : ChangeSpec := { name := "mailShuffled", fn := fun _ => fun
  | [d1, d2, d3] => { results := [.lit (.bool true)], args := [d1, d2, d3] }
  | _ => none }
def mailShuffledRow : OpenClaim := { program := "ytjekkjmjiljaeaa", sum := "ba41f004558e02f2773df7086e462551e7ee796e795a54656752ffd7580b5baa", func := "jackstay/jackstaylaw10.MailShuffled", spec := "mailShuffled", unfollowed := true, recurses := true, apart := false }
def MailShuffledSaid : Prop := mailShuffledRow.holds Try.pinned (OpenSpec.ofChange mailShuffledSpec)

/-- ITS FALSE NEIGHBOUR: 'it returns false'. Refute it at one input. -/
def mailShuffledWrong : ChangeSpec := { name := "mailShuffled", fn := fun _ => fun
  | [d1, d2, d3] => { results := [.lit (.bool false)], args := [d1, d2, d3] }
  | _ => none }
def MailShuffledWrongFalsely : Prop := mailShuffledRow.holds Try.pinned (OpenSpec.ofChange mailShuffledWrong)

/- THE SECOND FORM. 'bulk': how many values and letters a reading holds, each counted each time it is reached (what is shared counts as often as it is met; a slice's spare places count too). A statement '..UptoSaid' is the law's where the arguments, and the package variables that the reading takes, are together of bulk at most 1048576: NARROWER than '..Said'. Prove '..Said' where nothing that the law and all that it calls make is longer than what came in: it says more and counts as full. Else prove '..UptoSaid'. A law counts once. -/
mutual
def uptoBulk {H : Type} : DataW H → Nat
  | .lit (.string bytes) => bytes.length + 1
  | .lit _ => 1
  | .nil => 1
  | .ptr d => uptoBulk d + 1
  | .slice elems spare => uptoBulkAll elems + uptoBulkAll spare + 1
  | .agg parts => uptoBulkAll parts + 1
  | .iface _ d => uptoBulk d + 1
  | .map entries => uptoBulkEntries entries + 1
  | .held _ => 1
def uptoBulkAll {H : Type} : List (DataW H) → Nat
  | [] => 0
  | d :: r => uptoBulk d + uptoBulkAll r
def uptoBulkEntries {H : Type} : List (Lit × DataW H) → Nat
  | [] => 0
  | x :: r => uptoBulkEntry x + uptoBulkEntries r
def uptoBulkEntry {H : Type} : Lit × DataW H → Nat
  | (.string bytes, d) => bytes.length + uptoBulk d + 1
  | (_, d) => uptoBulk d + 1
 end
def uptoSmall : (H : Type) → List (DataW H) → Bool := fun _ ds => decide (uptoBulkAll ds ≤ 1048576)
def OpenSpec.upto (s : _root_.Go.ChangeSpec) : _root_.Go.OpenSpec := { _root_.Go.OpenSpec.ofChange s with cond := some uptoSmall }

/-- 'jackstaylaw10.MailTells', WHERE WHAT IT READS IS OF BULK AT MOST 1048576: true; the input reads as it did. -/
def mailTellsUptoRow : OpenClaim := { program := "ytjekkjmjiljaeaa", sum := "ba41f004558e02f2773df7086e462551e7ee796e795a54656752ffd7580b5baa", func := "jackstay/jackstaylaw10.MailTells", spec := "mailTells", unfollowed := true, recurses := true, apart := false, narrowed := true }
def MailTellsUptoSaid : Prop := mailTellsUptoRow.holds Try.pinned (OpenSpec.upto mailTellsSpec)

/-- 'jackstaylaw10.MailWins', WHERE WHAT IT READS IS OF BULK AT MOST 1048576: true; the input reads as it did. -/
def mailWinsUptoRow : OpenClaim := { program := "ytjekkjmjiljaeaa", sum := "ba41f004558e02f2773df7086e462551e7ee796e795a54656752ffd7580b5baa", func := "jackstay/jackstaylaw10.MailWins", spec := "mailWins", unfollowed := true, recurses := true, apart := false, narrowed := true }
def MailWinsUptoSaid : Prop := mailWinsUptoRow.holds Try.pinned (OpenSpec.upto mailWinsSpec)

/-- 'jackstaylaw10.MailOrder', WHERE WHAT IT READS IS OF BULK AT MOST 1048576: true; the input reads as it did. -/
def mailOrderUptoRow : OpenClaim := { program := "ytjekkjmjiljaeaa", sum := "ba41f004558e02f2773df7086e462551e7ee796e795a54656752ffd7580b5baa", func := "jackstay/jackstaylaw10.MailOrder", spec := "mailOrder", unfollowed := true, recurses := true, apart := false, narrowed := true }
def MailOrderUptoSaid : Prop := mailOrderUptoRow.holds Try.pinned (OpenSpec.upto mailOrderSpec)

/-- 'jackstaylaw10.MailGone', WHERE WHAT IT READS IS OF BULK AT MOST 1048576: true; the input reads as it did. -/
def mailGoneUptoRow : OpenClaim := { program := "ytjekkjmjiljaeaa", sum := "ba41f004558e02f2773df7086e462551e7ee796e795a54656752ffd7580b5baa", func := "jackstay/jackstaylaw10.MailGone", spec := "mailGone", unfollowed := true, recurses := true, apart := false, narrowed := true }
def MailGoneUptoSaid : Prop := mailGoneUptoRow.holds Try.pinned (OpenSpec.upto mailGoneSpec)

/-- 'jackstaylaw10.MailNone', WHERE WHAT IT READS IS OF BULK AT MOST 1048576: true; the input reads as it did. -/
def mailNoneUptoRow : OpenClaim := { program := "ytjekkjmjiljaeaa", sum := "ba41f004558e02f2773df7086e462551e7ee796e795a54656752ffd7580b5baa", func := "jackstay/jackstaylaw10.MailNone", spec := "mailNone", unfollowed := true, recurses := true, apart := false, narrowed := true }
def MailNoneUptoSaid : Prop := mailNoneUptoRow.holds Try.pinned (OpenSpec.upto mailNoneSpec)

/-- 'jackstaylaw10.MailShuffled', WHERE WHAT IT READS IS OF BULK AT MOST 1048576: true; the input reads as it did. -/
def mailShuffledUptoRow : OpenClaim := { program := "ytjekkjmjiljaeaa", sum := "ba41f004558e02f2773df7086e462551e7ee796e795a54656752ffd7580b5baa", func := "jackstay/jackstaylaw10.MailShuffled", spec := "mailShuffled", unfollowed := true, recurses := true, apart := false, narrowed := true }
def MailShuffledUptoSaid : Prop := mailShuffledUptoRow.holds Try.pinned (OpenSpec.upto mailShuffledSpec)

end Rows
end Go.Proofs.Ytjekkjmjiljaeaa
