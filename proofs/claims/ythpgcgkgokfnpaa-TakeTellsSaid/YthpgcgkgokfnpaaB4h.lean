/-
  Contract of the document's Before.
-/
import Derived.Test.YthpgcgkgokfnpaaB4g
namespace Go.Proofs.Ythpgcgkgokfnpaa
open Go.RowKit Go.Sort
set_option linter.unusedVariables false

theorem heL_con {id : Nat} {ext rem : Bool} {dlc k : Nat} {x : Bool} (hk : k < (conL id ext rem).length) (h : (heL id ext rem dlc)[k]? = some x) : (conL id ext rem)[k]? = some x := by
  unfold heL at h
  rw [List.append_assoc, List.append_assoc, List.getElem?_append_left hk] at h
  exact h

end Go.Proofs.Ythpgcgkgokfnpaa
