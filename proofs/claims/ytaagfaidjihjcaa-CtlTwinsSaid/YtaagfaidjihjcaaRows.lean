/-
  No cell of these rows narrows 'for every input' (looked for: loops, veiled, ifaces, maps, wideKeys, modest, calm, conditions, laid).
  DERIVED. THE GIVEN ROWS OF THIS SEAT. 7 by the template 'for every input the law returns true; each argument reads behind the call as it read before'; 0 by the template 'total and deterministic' (their statements: YtaagfaidjihjcaaTotals.lean).
  GIVEN WITH THE SEED: the statements are not yours to turn. If you find one false, say at which input.
  Laid BY PROGRAM, IN A SANDBOX (cutbox-rows.mjs): the forced cells as the released guide's own fill.sh prints them over the translation c5583771729e4b1d… (all of the seat's roots in one cut). By AI agents, Wed Nov 11 2026. No macro, syntax, notation, axiom, sorry.
-/
import Derived.Test.YtaagfaidjihjcaaChecked
import GoSem.Claim
import GoSem.ClaimJoined
import GoSem.ClaimMapViews
import Derived.JoinedTies
import Derived.KernelRfl
namespace Go.Proofs.Ytaagfaidjihjcaa
/- THE CELL 'sum', in the pinned program and in every row, IS THE sha256 OF THE DUMP (.gsa) THAT YtaagfaidjihjcaaProg.lean LOADS. Nothing in Lean hashes anything: it is a label: what it is worth is what the hold of that sum in a sandbox is worth. -/
noncomputable def Try.pinned : Pinned := { name := "ytaagfaidjihjcaa", sum := "c5583771729e4b1d612722c068daf43447cfacd6855f22b610f63bb37824ef20", checked := Try.checked }
namespace Rows
def none {H : Type} : Left H := { results := [], args := [] }

/-- 'jackstaylaw08.CtlSends': WHATEVER THE INPUT: true; the input reads as it did. -/
def ctlSendsSpec : ChangeSpec := { name := "ctlSends", fn := fun _ => fun
  | [d] => { results := [.lit (.bool true)], args := [d] }
  | _ => none }
def ctlSendsRow : OpenClaim := { program := "ytaagfaidjihjcaa", sum := "c5583771729e4b1d612722c068daf43447cfacd6855f22b610f63bb37824ef20", func := "jackstay/jackstaylaw08.CtlSends", spec := "ctlSends", unfollowed := true, recurses := true, apart := false }
def CtlSendsSaid : Prop := ctlSendsRow.holds Try.pinned (OpenSpec.ofChange ctlSendsSpec)

/-- ITS FALSE NEIGHBOUR: 'it returns false'. Refute it at one input. -/
def ctlSendsWrong : ChangeSpec := { name := "ctlSends", fn := fun _ => fun
  | [d] => { results := [.lit (.bool false)], args := [d] }
  | _ => none }
def CtlSendsWrongFalsely : Prop := ctlSendsRow.holds Try.pinned (OpenSpec.ofChange ctlSendsWrong)

/-- 'jackstaylaw08.CtlTwo': WHATEVER THE INPUT: true; the input reads as it did. -/
def ctlTwoSpec : ChangeSpec := { name := "ctlTwo", fn := fun _ => fun
  | [d1, d2] => { results := [.lit (.bool true)], args := [d1, d2] }
  | _ => none }
def ctlTwoRow : OpenClaim := { program := "ytaagfaidjihjcaa", sum := "c5583771729e4b1d612722c068daf43447cfacd6855f22b610f63bb37824ef20", func := "jackstay/jackstaylaw08.CtlTwo", spec := "ctlTwo", unfollowed := true, recurses := true, apart := false }
def CtlTwoSaid : Prop := ctlTwoRow.holds Try.pinned (OpenSpec.ofChange ctlTwoSpec)

/-- ITS FALSE NEIGHBOUR: 'it returns false'. Refute it at one input. -/
def ctlTwoWrong : ChangeSpec := { name := "ctlTwo", fn := fun _ => fun
  | [d1, d2] => { results := [.lit (.bool false)], args := [d1, d2] }
  | _ => none }
def CtlTwoWrongFalsely : Prop := ctlTwoRow.holds Try.pinned (OpenSpec.ofChange ctlTwoWrong)

/-- 'jackstaylaw08.CtlUnheard': WHATEVER THE INPUT: true; the input reads as it did. -/
def ctlUnheardSpec : ChangeSpec := { name := "ctlUnheard", fn := fun _ => fun
  | [d1, d2] => { results := [.lit (.bool true)], args := [d1, d2] }
  | _ => none }
def ctlUnheardRow : OpenClaim := { program := "ytaagfaidjihjcaa", sum := "c5583771729e4b1d612722c068daf43447cfacd6855f22b610f63bb37824ef20", func := "jackstay/jackstaylaw08.CtlUnheard", spec := "ctlUnheard", unfollowed := true, recurses := true, apart := false }
def CtlUnheardSaid : Prop := ctlUnheardRow.holds Try.pinned (OpenSpec.ofChange ctlUnheardSpec)

/-- ITS FALSE NEIGHBOUR: 'it returns false'. Refute it at one input. -/
def ctlUnheardWrong : ChangeSpec := { name := "ctlUnheard", fn := fun _ => fun
  | [d1, d2] => { results := [.lit (.bool false)], args := [d1, d2] }
  | _ => none }
def CtlUnheardWrongFalsely : Prop := ctlUnheardRow.holds Try.pinned (OpenSpec.ofChange ctlUnheardWrong)

/-- 'jackstaylaw08.CtlTail': WHATEVER THE INPUT: true; the input reads as it did. -/
def ctlTailSpec : ChangeSpec := { name := "ctlTail", fn := fun _ => fun
  | [d1, d2] => { results := [.lit (.bool true)], args := [d1, d2] }
  | _ => none }
def ctlTailRow : OpenClaim := { program := "ytaagfaidjihjcaa", sum := "c5583771729e4b1d612722c068daf43447cfacd6855f22b610f63bb37824ef20", func := "jackstay/jackstaylaw08.CtlTail", spec := "ctlTail", unfollowed := true, recurses := true, apart := false }
def CtlTailSaid : Prop := ctlTailRow.holds Try.pinned (OpenSpec.ofChange ctlTailSpec)

/-- ITS FALSE NEIGHBOUR: 'it returns false'. Refute it at one input. -/
def ctlTailWrong : ChangeSpec := { name := "ctlTail", fn := fun _ => fun
  | [d1, d2] => { results := [.lit (.bool false)], args := [d1, d2] }
  | _ => none }
def CtlTailWrongFalsely : Prop := ctlTailRow.holds Try.pinned (OpenSpec.ofChange ctlTailWrong)

/-- 'jackstaylaw08.CtlBreaks': WHATEVER THE INPUT: true; the input reads as it did. -/
def ctlBreaksSpec : ChangeSpec := { name := "ctlBreaks", fn := fun _ => fun
  | [d1, d2] => { results := [.lit (.bool true)], args := [d1, d2] }
  | _ => none }
def ctlBreaksRow : OpenClaim := { program := "ytaagfaidjihjcaa", sum := "c5583771729e4b1d612722c068daf43447cfacd6855f22b610f63bb37824ef20", func := "jackstay/jackstaylaw08.CtlBreaks", spec := "ctlBreaks", unfollowed := true, recurses := true, apart := false }
def CtlBreaksSaid : Prop := ctlBreaksRow.holds Try.pinned (OpenSpec.ofChange ctlBreaksSpec)

/-- ITS FALSE NEIGHBOUR: 'it returns false'. Refute it at one input. -/
def ctlBreaksWrong : ChangeSpec := { name := "ctlBreaks", fn := fun _ => fun
  | [d1, d2] => { results := [.lit (.bool false)], args := [d1, d2] }
  | _ => none }
def CtlBreaksWrongFalsely : Prop := ctlBreaksRow.holds Try.pinned (OpenSpec.ofChange ctlBreaksWrong)

/-- 'jackstaylaw08.CtlOverload': WHATEVER THE INPUT: true; the input reads as it did. -/
def ctlOverloadSpec : ChangeSpec := { name := "ctlOverload", fn := fun _ => fun
  | [d1, d2, d3] => { results := [.lit (.bool true)], args := [d1, d2, d3] }
  | _ => none }
def ctlOverloadRow : OpenClaim := { program := "ytaagfaidjihjcaa", sum := "c5583771729e4b1d612722c068daf43447cfacd6855f22b610f63bb37824ef20", func := "jackstay/jackstaylaw08.CtlOverload", spec := "ctlOverload", unfollowed := true, recurses := true, apart := false }
def CtlOverloadSaid : Prop := ctlOverloadRow.holds Try.pinned (OpenSpec.ofChange ctlOverloadSpec)

/-- ITS FALSE NEIGHBOUR: 'it returns false'. Refute it at one input. -/
def ctlOverloadWrong : ChangeSpec := { name := "ctlOverload", fn := fun _ => fun
  | [d1, d2, d3] => { results := [.lit (.bool false)], args := [d1, d2, d3] }
  | _ => none }
def CtlOverloadWrongFalsely : Prop := ctlOverloadRow.holds Try.pinned (OpenSpec.ofChange ctlOverloadWrong)

/-- 'jackstaylaw08.CtlTwins': WHATEVER THE INPUT: true; the input reads as it did. -/
def ctlTwinsSpec : ChangeSpec := { name := "ctlTwins", fn := fun _ => fun
  | [d1, d2] => { results := [.lit (.bool true)], args := [d1, d2] }
  | _ => none }
def ctlTwinsRow : OpenClaim := { program := "ytaagfaidjihjcaa", sum := "c5583771729e4b1d612722c068daf43447cfacd6855f22b610f63bb37824ef20", func := "jackstay/jackstaylaw08.CtlTwins", spec := "ctlTwins", unfollowed := true, recurses := true, apart := false }
def CtlTwinsSaid : Prop := ctlTwinsRow.holds Try.pinned (OpenSpec.ofChange ctlTwinsSpec)

/-- ITS FALSE NEIGHBOUR: 'it returns false'. Refute it at one input. -/
def ctlTwinsWrong : ChangeSpec := { name := "ctlTwins", fn := fun _ => fun
  | [d1, d2] => { results := [.lit (.bool false)], args := [d1, d2] }
  | _ => none }
def CtlTwinsWrongFalsely : Prop := ctlTwinsRow.holds Try.pinned (OpenSpec.ofChange ctlTwinsWrong)

/- THE SECOND FORM. 'bulk': how many values and letters a reading holds, each counted each time it is reached (what is shared counts as often as it is met; a slice's spare places count too). A statement '..UptoSaid' is the law's where the arguments, and the package variables that the reading takes, are together of bulk at most 1048576: NARROWER than '..Said'. Prove '..Said' where nothing that the law and all that it calls make is longer than what came in: it says more and counts as full. Else prove '..UptoSaid'. A law counts once. -/
mutual
def uptoBulk {H : Type} : DataW H → Nat
  | .lit (.string bytes) => bytes.length + 1
  | .lit _ => 1
  | .nil => 1
  | .ptr d => uptoBulk d + 1
  | .slice elems spare => uptoBulkAll elems + uptoBulkAll spare + 1
  | .agg parts => uptoBulkAll parts + 1
  | .iface _ d => uptoBulk d + 1
  | .map entries => uptoBulkEntries entries + 1
  | .held _ => 1
def uptoBulkAll {H : Type} : List (DataW H) → Nat
  | [] => 0
  | d :: r => uptoBulk d + uptoBulkAll r
def uptoBulkEntries {H : Type} : List (Lit × DataW H) → Nat
  | [] => 0
  | x :: r => uptoBulkEntry x + uptoBulkEntries r
def uptoBulkEntry {H : Type} : Lit × DataW H → Nat
  | (.string bytes, d) => bytes.length + uptoBulk d + 1
  | (_, d) => uptoBulk d + 1
 end
def uptoSmall : (H : Type) → List (DataW H) → Bool := fun _ ds => decide (uptoBulkAll ds ≤ 1048576)
def OpenSpec.upto (s : _root_.Go.ChangeSpec) : _root_.Go.OpenSpec := { _root_.Go.OpenSpec.ofChange s with cond := some uptoSmall }

/-- 'jackstaylaw08.CtlSends', WHERE WHAT IT READS IS OF BULK AT MOST 1048576: true; the input reads as it did. -/
def ctlSendsUptoRow : OpenClaim := { program := "ytaagfaidjihjcaa", sum := "c5583771729e4b1d612722c068daf43447cfacd6855f22b610f63bb37824ef20", func := "jackstay/jackstaylaw08.CtlSends", spec := "ctlSends", unfollowed := true, recurses := true, apart := false, narrowed := true }
def CtlSendsUptoSaid : Prop := ctlSendsUptoRow.holds Try.pinned (OpenSpec.upto ctlSendsSpec)

/-- 'jackstaylaw08.CtlTwo', WHERE WHAT IT READS IS OF BULK AT MOST 1048576: true; the input reads as it did. -/
def ctlTwoUptoRow : OpenClaim := { program := "ytaagfaidjihjcaa", sum := "c5583771729e4b1d612722c068daf43447cfacd6855f22b610f63bb37824ef20", func := "jackstay/jackstaylaw08.CtlTwo", spec := "ctlTwo", unfollowed := true, recurses := true, apart := false, narrowed := true }
def CtlTwoUptoSaid : Prop := ctlTwoUptoRow.holds Try.pinned (OpenSpec.upto ctlTwoSpec)

/-- 'jackstaylaw08.CtlUnheard', WHERE WHAT IT READS IS OF BULK AT MOST 1048576: true; the input reads as it did. -/
def ctlUnheardUptoRow : OpenClaim := { program := "ytaagfaidjihjcaa", sum := "c5583771729e4b1d612722c068daf43447cfacd6855f22b610f63bb37824ef20", func := "jackstay/jackstaylaw08.CtlUnheard", spec := "ctlUnheard", unfollowed := true, recurses := true, apart := false, narrowed := true }
def CtlUnheardUptoSaid : Prop := ctlUnheardUptoRow.holds Try.pinned (OpenSpec.upto ctlUnheardSpec)

/-- 'jackstaylaw08.CtlTail', WHERE WHAT IT READS IS OF BULK AT MOST 1048576: true; the input reads as it did. -/
def ctlTailUptoRow : OpenClaim := { program := "ytaagfaidjihjcaa", sum := "c5583771729e4b1d612722c068daf43447cfacd6855f22b610f63bb37824ef20", func := "jackstay/jackstaylaw08.CtlTail", spec := "ctlTail", unfollowed := true, recurses := true, apart := false, narrowed := true }
def CtlTailUptoSaid : Prop := ctlTailUptoRow.holds Try.pinned (OpenSpec.upto ctlTailSpec)

/-- 'jackstaylaw08.CtlBreaks', WHERE WHAT IT READS IS OF BULK AT MOST 1048576: true; the input reads as it did. -/
def ctlBreaksUptoRow : OpenClaim := { program := "ytaagfaidjihjcaa", sum := "c5583771729e4b1d612722c068daf43447cfacd6855f22b610f63bb37824ef20", func := "jackstay/jackstaylaw08.CtlBreaks", spec := "ctlBreaks", unfollowed := true, recurses := true, apart := false, narrowed := true }
def CtlBreaksUptoSaid : Prop := ctlBreaksUptoRow.holds Try.pinned (OpenSpec.upto ctlBreaksSpec)

/-- 'jackstaylaw08.CtlOverload', WHERE WHAT IT READS IS OF BULK AT MOST 1048576: true; the input reads as it did. -/
def ctlOverloadUptoRow : OpenClaim := { program := "ytaagfaidjihjcaa", sum := "c5583771729e4b1d612722c068daf43447cfacd6855f22b610f63bb37824ef20", func := "jackstay/jackstaylaw08.CtlOverload", spec := "ctlOverload", unfollowed := true, recurses := true, apart := false, narrowed := true }
def CtlOverloadUptoSaid : Prop := ctlOverloadUptoRow.holds Try.pinned (OpenSpec.upto ctlOverloadSpec)

/-- 'jackstaylaw08.CtlTwins', WHERE WHAT IT READS IS OF BULK AT MOST 1048576: true; the input reads as it did. -/
def ctlTwinsUptoRow : OpenClaim := { program := "ytaagfaidjihjcaa", sum := "c5583771729e4b1d612722c068daf43447cfacd6855f22b610f63bb37824ef20", func := "jackstay/jackstaylaw08.CtlTwins", spec := "ctlTwins", unfollowed := true, recurses := true, apart := false, narrowed := true }
def CtlTwinsUptoSaid : Prop := ctlTwinsUptoRow.holds Try.pinned (OpenSpec.upto ctlTwinsSpec)

end Rows
end Go.Proofs.Ytaagfaidjihjcaa
