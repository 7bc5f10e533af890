/-
  Contract: the closure of FilterCovers: does a filter let an identifier in, of the kind that a box holds?
-/
import Derived.Test.YtmaklneiedljjaaB11h
import Derived.Test.YtmaklneiedljjaaM11f
import Derived.Test.YtmaklneiedljjaaRst
namespace Go.Proofs.Ytmaklneiedljjaa
open Go.RowKit Go.Sort
set_option linter.unusedVariables false

set_option maxRecDepth 100000 in
set_option maxHeartbeats 1000000 in
theorem clo11_any (w : World) (b : Nat) (x : Fi) (id : Nat) (e : Bool) (hx : x.Ok) (hid' : id < 4294967296) (hc : w.cell? ⟨b, 0, none⟩ = some (.bool e)) :
    Calls Try.prog 21 #[.agg (fiV x), .int .u32 (id : Int), .pointer (some ⟨b, 0, none⟩)] w fun q w' => q = .returned (.bool (letsF id e x)) ∧ RowKit.Below w.heap.size w w' := by
  have hbl := block_lt_of_cell hc
  obtain ⟨w0, hw0, b0, g0⟩ := boxed11 w 25 (fiV x)
  have hc0 := (g0.cell (p := ⟨b, 0, none⟩) hbl).trans hc
  have hl := lit1Fi w0 x
  have hc1 := ((bnew0 w0 (.cells (fiV x) 25)).cell (p := ⟨b, 0, none⟩) (block_lt_of_cell hc0)).trans hc0
  have kP := fiPass_any (w0.alloc (.cells (fiV x) 25)) (some ⟨w0.heap.size, 0, none⟩) 1 1 [x] id e false (.int .u8 0) (.slice none 0 0) hl (fun y hy => by simp at hy; subst hy; exact hx) (by omega) hid'
  rw [passF1] at kP
  have g1 := bnew g0 (.cells (fiV x) 25)
  clear hc hl
  go_enter Try.func21, Try.ntmps21
  go_wp2_with (first
    | (rw [hw0.out])
    | (with_reducible refine wpList_loadR rowFi rfl _ rfl _ rfl b0 rfl ?_)
    | (go_at_call 13; (with_reducible refine kP.mono ?_); rintro q w2 ⟨rfl, g2⟩))
  go_ret
  exact ⟨rfl, bstep g1 g2⟩
end Go.Proofs.Ytmaklneiedljjaa
