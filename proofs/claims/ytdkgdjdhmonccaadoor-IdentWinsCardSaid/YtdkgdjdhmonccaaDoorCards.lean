/-
  DERIVED. GIVEN WITH THE SEED: THE CARDS: each row of YtdkgdjdhmonccaaDoorRows.lean that lists a variable, with what it lists TIED to the program's text (the seventh form; the later family's looks); each row that meets fmt, with fmt's text TOLD by the authors' own Lean function (tested against real Go, not proved from fmt's source: count such statements apart). THE CARD IS WHAT COUNTS. Prove the row's statement (the work); the ties are given (YtdkgdjdhmonccaaDoorTie.lean); close each card by the builder's one call (the guide's Derived/Test/ToyasCard.lean, 'card_holds'). Laid BY PROGRAM, IN A SANDBOX (cutbox-door.mjs). By AI agents, Wed Nov 11 2026. No macro, syntax, notation, axiom, sorry.
-/
import Derived.Test.YtdkgdjdhmonccaaDoorRows
import GoSem.ClaimSeven
namespace Go.Proofs.YtdkgdjdhmonccaaDoor
namespace Rows

/-- THE TIED CARD OF 'jackstaylaw15.IdentTells'. -/
def identTellsCard : Claim7 := { stood := { row := identTellsRow, standIns := [], harness := (true, "21fc0cf072aac5ddabc0d0f172a3bce6a13573233954dac8e7cc977da073377e"), looks := false }, kinds := [], alts := [], laidByText := true, laidKinds := [.data], laidTests := true, laidLooks := .later }
def IdentTellsCardSaid : Prop := Claim7.holds Tryd.pinned (.plain (OpenSpec.ofChange identTellsSpec)) identTellsCard

/-- THE TIED CARD OF 'jackstaylaw15.IdentBack'. -/
def identBackCard : Claim7 := { stood := { row := identBackRow, standIns := [], harness := (true, "21fc0cf072aac5ddabc0d0f172a3bce6a13573233954dac8e7cc977da073377e"), looks := false }, kinds := [], alts := [], laidByText := true, laidKinds := [.data], laidTests := true, laidLooks := .later }
def IdentBackCardSaid : Prop := Claim7.holds Tryd.pinned (.plain (OpenSpec.ofChange identBackSpec)) identBackCard

/-- THE TIED CARD OF 'jackstaylaw15.IdentWins'. -/
def identWinsCard : Claim7 := { stood := { row := identWinsRow, standIns := [], harness := (true, "21fc0cf072aac5ddabc0d0f172a3bce6a13573233954dac8e7cc977da073377e"), looks := false }, kinds := [], alts := [], laidByText := true, laidKinds := [.data], laidTests := true, laidLooks := .later }
def IdentWinsCardSaid : Prop := Claim7.holds Tryd.pinned (.plain (OpenSpec.ofChange identWinsSpec)) identWinsCard

/-- THE TIED CARD OF 'jackstaylaw15.IdentKinds'. -/
def identKindsCard : Claim7 := { stood := { row := identKindsRow, standIns := [], harness := (true, "21fc0cf072aac5ddabc0d0f172a3bce6a13573233954dac8e7cc977da073377e"), looks := false }, kinds := [], alts := [], laidByText := true, laidKinds := [.data], laidTests := true, laidLooks := .later }
def IdentKindsCardSaid : Prop := Claim7.holds Tryd.pinned (.plain (OpenSpec.ofChange identKindsSpec)) identKindsCard

/-- THE SECOND FORM's CARD OF 'jackstaylaw15.IdentTells'. -/
def identTellsUptoCard : Claim7 := { stood := { row := identTellsUptoRow, standIns := [], harness := (true, "21fc0cf072aac5ddabc0d0f172a3bce6a13573233954dac8e7cc977da073377e"), looks := false }, kinds := [], alts := [], laidByText := true, laidKinds := [.data], laidTests := true, laidLooks := .later }
def IdentTellsUptoCardSaid : Prop := Claim7.holds Tryd.pinned (.plain (OpenSpec.upto identTellsSpec)) identTellsUptoCard

/-- THE SECOND FORM's CARD OF 'jackstaylaw15.IdentBack'. -/
def identBackUptoCard : Claim7 := { stood := { row := identBackUptoRow, standIns := [], harness := (true, "21fc0cf072aac5ddabc0d0f172a3bce6a13573233954dac8e7cc977da073377e"), looks := false }, kinds := [], alts := [], laidByText := true, laidKinds := [.data], laidTests := true, laidLooks := .later }
def IdentBackUptoCardSaid : Prop := Claim7.holds Tryd.pinned (.plain (OpenSpec.upto identBackSpec)) identBackUptoCard

/-- THE SECOND FORM's CARD OF 'jackstaylaw15.IdentWins'. -/
def identWinsUptoCard : Claim7 := { stood := { row := identWinsUptoRow, standIns := [], harness := (true, "21fc0cf072aac5ddabc0d0f172a3bce6a13573233954dac8e7cc977da073377e"), looks := false }, kinds := [], alts := [], laidByText := true, laidKinds := [.data], laidTests := true, laidLooks := .later }
def IdentWinsUptoCardSaid : Prop := Claim7.holds Tryd.pinned (.plain (OpenSpec.upto identWinsSpec)) identWinsUptoCard

/-- THE SECOND FORM's CARD OF 'jackstaylaw15.IdentKinds'. -/
def identKindsUptoCard : Claim7 := { stood := { row := identKindsUptoRow, standIns := [], harness := (true, "21fc0cf072aac5ddabc0d0f172a3bce6a13573233954dac8e7cc977da073377e"), looks := false }, kinds := [], alts := [], laidByText := true, laidKinds := [.data], laidTests := true, laidLooks := .later }
def IdentKindsUptoCardSaid : Prop := Claim7.holds Tryd.pinned (.plain (OpenSpec.upto identKindsSpec)) identKindsUptoCard
end Rows
end Go.Proofs.YtdkgdjdhmonccaaDoor
