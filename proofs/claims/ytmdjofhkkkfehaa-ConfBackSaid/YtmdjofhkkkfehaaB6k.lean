/-
  Slices of steps: how a step stands in memory, and where the walk loads it.
-/
import Derived.Test.YtmdjofhkkkfehaaB6j
import Derived.Test.YtmdjofhkkkfehaaBaseK
namespace Go.Proofs.Ytmdjofhkkkfehaa
open Go.RowKit Go.Sort
set_option linter.unusedVariables false

/-- A step: what, recessive, times. -/
structure Stp where
  k : Nat
  x : Bool
  q : Nat

theorem tS : ElK Try.prog 32 34 3 (.agg #[.int .u8 0, .bool false, .int .u8 0]) 3 := ⟨by kernel_rfl, by kernel_rfl, by kernel_rfl, by kernel_rfl, by kernel_rfl, by decide⟩

/-- A step's three cells. -/
def se (s : Stp) : List Value := [.int .u8 (s.k : Int), .bool s.x, .int .u8 (s.q : Int)]
theorem eS : EnK se 3 := ⟨fun _ => rfl, fun s v hv => by simp [se] at hv; rcases hv with rfl | rfl | rfl <;> rfl⟩

/-- A step of a slice, where the walk loads it. -/
theorem step_at {w : World} {a : Option Addr} {n c : Nat} {l : List Stp} (h : RK se 3 w a n c l) {k : Nat} (hk : k < n) :
    ∃ b off e x q, a = some ⟨b, off, none⟩ ∧ l[k]? = some ⟨e, x, q⟩ ∧ b < w.heap.size ∧ w.cell? ⟨b, off + k * 3, none⟩ = some (.int .u8 (e : Int)) ∧ w.cell? ⟨b, off + k * 3 + 1, none⟩ = some (.bool x) ∧ w.cell? ⟨b, off + k * 3 + 2, none⟩ = some (.int .u8 (q : Int)) := by
  obtain ⟨b, off, ha, hb, hc⟩ := h.cell (by omega)
  have hl : k < l.length := by rw [h.len]; exact hk
  refine ⟨b, off, l[k].k, l[k].x, l[k].q, ha, by simp [hl], hb, ?_, ?_, ?_⟩
  · simpa using hc k _ 0 _ (List.getElem?_eq_getElem hl) rfl
  · have := hc k _ 1 _ (List.getElem?_eq_getElem hl) rfl
    rwa [← Nat.add_assoc] at this
  · have := hc k _ 2 _ (List.getElem?_eq_getElem hl) rfl
    rwa [← Nat.add_assoc] at this

/-- Three cells of a box. -/
theorem bx3 {w : World} {g : Nat} {E : TypeId} {v0 v1 v2 : Value} (h : w.heap[g]? = some (.cells #[v0, v1, v2] E (0, 0))) :
    w.cell? ⟨g, 0, none⟩ = some v0 ∧ w.cell? ⟨g, 1, none⟩ = some v1 ∧ w.cell? ⟨g, 2, none⟩ = some v2 :=
  ⟨by rw [cell_of_row w g 0 _ _ _ h]; rfl, by rw [cell_of_row w g 1 _ _ _ h]; rfl, by rw [cell_of_row w g 2 _ _ _ h]; rfl⟩

/-- The run of 'v[:hi]' at whatever world, as an equation. -/
theorem run_cutToK {α : Type} {enc : α → List Value} {k : Nat} {T E : TypeId} {z : Value} {bytes : Nat} {w : World} {P : Program} {l : List α} {n c : Nat} {a : Option Addr} (hT : ElK P T E k z bytes) (hr : RK enc k w a n c l) (kh : IntKind) (h0 : Nat) (h2 : h0 ≤ n) :
    ∃ a', (∀ w', (Instr.sliceAt T (.slice a n c) none (some (.int kh (h0 : Int))) none).run P w' = .ok (.slice a' h0 c) w') ∧ (∀ w', (Instr.slice T (.slice a n c) none (some (.int kh (h0 : Int))) none).run P w' = .ok (.slice a' h0 c) w') ∧ RK enc k w a' h0 c (l.take h0) := by
  obtain ⟨a', he, hr'⟩ := hr.sliced 0 h0 k rfl (Nat.zero_le _) h2
  have hu : P.underlying T = some (.slice (P.elem T)) := by rw [hT.und, hT.el]
  have key : ∀ w', (Instr.slice T (.slice a n c) none (some (.int kh (h0 : Int))) none).run P w' = .ok (.slice a' h0 c) w' := fun w' => by
    have hrun := run_slice_h (P := P) w' T a n c hu kh h0 (by omega) (by have := hr.cap; omega)
    simp only [Int.toNat_natCast, run_sizeOf_k hT, Result.andThen] at hrun
    rw [hrun, he]; simp
  exact ⟨a', fun w' => by rw [run_sliceAt_slice w' T _ _ _ _ hu]; exact key w', key, by simpa using hr'⟩

theorem cell_new_o {w : World} {a : Addr} {v : Value} (h : w.cell? a = some v) (o : Obj) : (w.alloc o).cell? a = some v := by
  rw [(bnew0 w o).cell (block_lt_of_cell h)]; exact h
end Go.Proofs.Ytmdjofhkkkfehaa
