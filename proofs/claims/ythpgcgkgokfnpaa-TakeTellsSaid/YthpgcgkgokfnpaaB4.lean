/-
  Frames: what the functions of layer 4 say as plain functions; contracts of Long and Right (the program's and the document's).
-/
import Derived.Test.YthpgcgkgokfnpaaB1n
import Derived.Test.YthpgcgkgokfnpaaB2b
import Derived.Test.YthpgcgkgokfnpaaB2e
import Derived.Test.YthpgcgkgokfnpaaB3d
import Derived.Test.YthpgcgkgokfnpaaB1g
import Derived.Lib.QuietBelow
namespace Go.Proofs.Ythpgcgkgokfnpaa
open Go.RowKit Go.Sort
set_option linter.unusedVariables false

/-- A frame. -/
structure Fr where
  id : Nat
  ext : Bool
  rem : Bool
  dlc : Nat
  data : List UInt8
  deriving DecidableEq

/-- How many bytes a frame has. -/
def lonF (rem : Bool) (dlc : Nat) : Nat := if rem then 0 else min dlc 8

/-- Whether a frame with n bytes is right. -/
def riF (id : Nat) (ext rem : Bool) (dlc n : Nat) : Bool := decide (id ≤ if ext then 536870911 else 2047) && decide (dlc ≤ 15) && decide (n = lonF rem dlc)

/-- A box of five cells. -/
theorem bx5 {w : World} {g : Nat} {E : TypeId} {v0 v1 v2 v3 v4 : Value} (h : w.heap[g]? = some (.cells #[v0, v1, v2, v3, v4] E (0, 0))) :
    w.cell? ⟨g, 0, none⟩ = some v0 ∧ w.cell? ⟨g, 1, none⟩ = some v1 ∧ w.cell? ⟨g, 2, none⟩ = some v2 ∧ w.cell? ⟨g, 3, none⟩ = some v3 ∧ w.cell? ⟨g, 4, none⟩ = some v4 :=
  ⟨by rw [cell_of_row w g 0 _ _ _ h]; rfl, by rw [cell_of_row w g 1 _ _ _ h]; rfl, by rw [cell_of_row w g 2 _ _ _ h]; rfl, by rw [cell_of_row w g 3 _ _ _ h]; rfl, by rw [cell_of_row w g 4 _ _ _ h]; rfl⟩

theorem bx_thaw {w : World} {g : Nat} {E : TypeId} {vs : Array Value} (h : w.heap[g]? = some (.cells vs E (0, 0))) (i : Nat) : w.frozen? ⟨g, i, none⟩ = false := frozen_of_row w g i _ _ h

/-- A frame that was laid in a new box: its cells, in every world that has only grown and drawn since. -/
theorem boxed (w : World) (E : TypeId) (v0 v1 v2 v3 v4 : Value) : ∃ w0, Hid (w.alloc (.cells #[v0, v1, v2, v3, v4] E) = w0) ∧ w0.heap[w.heap.size]? = some (.cells #[v0, v1, v2, v3, v4] E (0, 0)) ∧
    (∀ d os, (grow (redrawn w0 d) os).cell? ⟨w.heap.size, 0, none⟩ = some v0) ∧ (∀ d os, (grow (redrawn w0 d) os).cell? ⟨w.heap.size, 1, none⟩ = some v1) ∧ (∀ d os, (grow (redrawn w0 d) os).cell? ⟨w.heap.size, 2, none⟩ = some v2) ∧
    (∀ d os, (grow (redrawn w0 d) os).cell? ⟨w.heap.size, 3, none⟩ = some v3) ∧ (∀ d os, (grow (redrawn w0 d) os).cell? ⟨w.heap.size, 4, none⟩ = some v4) ∧ Below w.heap.size w w0 := by
  have h := heap_alloc_new w (.cells #[v0, v1, v2, v3, v4] E)
  obtain ⟨k0, k1, k2, k3, k4⟩ := bx5 h
  exact ⟨_, rfl, h, fun d os => cell_regrown k0 d os, fun d os => cell_regrown k1 d os, fun d os => cell_regrown k2 d os, fun d os => cell_regrown k3 d os, fun d os => cell_regrown k4 d os, bnew0 _ _⟩

theorem frLong_any (w : World) (id : Nat) (ext rem : Bool) (dlc : Nat) (a : Option Addr) (n c : Nat) (hd : dlc < 256) :
    Calls Try.prog 51 #[.agg #[.int .u32 (id : Int), .bool ext, .bool rem, .int .u8 (dlc : Int), .slice a n c]] w fun e w' => e = .returned (.int .i64 (lonF rem dlc : Int)) ∧ Below w.heap.size w w' := by
  obtain ⟨p, hp⟩ : ∃ p, p = min dlc 8 := ⟨_, rfl⟩
  have hp8 : p ≤ 8 := by omega
  have hmin : ∀ (ts : Array TypeId) (t : TypeId) (w' : World), (Builtin.min_ ts t #[.int .u8 (dlc : Int), .int .u8 8]).run Try.prog w' = .ok (.int .u8 (p : Int)) w' := fun ts t w' => by
    rw [run_min_int2]; congr 2; split <;> omega
  cases rem
  · have hl : lonF false dlc = p := by rw [hp]; rfl
    rw [hl]
    clear hl hp
    go_enter Try.func51, Try.ntmps51
    go_wp2
    go_ret
    exact ⟨rfl, bnew0 _ _⟩
  · go_enter Try.func51, Try.ntmps51
    go_wp2
    go_ret
    exact ⟨rfl, bnew0 _ _⟩

theorem refLong_any (w : World) (id : Nat) (ext rem : Bool) (dlc : Nat) (a : Option Addr) (n c : Nat) (hd : dlc < 256) :
    Calls Try.prog 62 #[.agg #[.int .u32 (id : Int), .bool ext, .bool rem, .int .u8 (dlc : Int), .slice a n c]] w fun e w' => e = .returned (.int .i64 (lonF rem dlc : Int)) ∧ Below w.heap.size w w' := by
  cases rem
  · by_cases h8 : dlc > 8
    · have hl : lonF false dlc = 8 := by unfold lonF; simp; omega
      rw [hl]
      clear hl
      go_enter Try.func62, Try.ntmps62
      go_wp2
      go_ret
      exact ⟨rfl, bnew0 _ _⟩
    · have hl : lonF false dlc = dlc := by unfold lonF; simp; omega
      rw [hl]
      clear hl
      go_enter Try.func62, Try.ntmps62
      go_wp2
      go_ret
      exact ⟨rfl, bnew0 _ _⟩
  · go_enter Try.func62, Try.ntmps62
    go_wp2
    go_ret
    exact ⟨rfl, bnew0 _ _⟩
end Go.Proofs.Ythpgcgkgokfnpaa
