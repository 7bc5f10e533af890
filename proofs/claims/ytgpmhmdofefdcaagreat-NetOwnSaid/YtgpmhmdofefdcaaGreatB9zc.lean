/-
  For NetOwn: what is written into a net of the list; a box read as a row.
-/
import Derived.Test.YtgpmhmdofefdcaaGreatB9zb
namespace Go.Proofs.YtgpmhmdofefdcaaGreat
open Go.RowKit Go.Sort
set_option linter.unusedVariables false
set_option linter.unusedSimpArgs false

section
variable {w8 w w1 : World} {M n c i j g : Nat} {a : Option Addr} {xs : List (Na × Int)} {x : Na × Int}
theorem Wr.same (h : Wr g w w1) (hz : w1.heap.size = w.heap.size) (q : Nat) (hq : q ≠ g) : w1.heap[q]? = w.heap[q]? := by
  by_cases hl : q < w.heap.size
  · exact h.block q hl hq
  · rw [Array.getElem?_eq_none (by omega), Array.getElem?_eq_none (by omega)]
/-- One of its lists is written over. -/
theorem Oth.wr (h : Oth w8 w M a n c xs) (hi : xs[i]? = some x) (hL : ∃ p, Lies x.1 p ∧ p.block = g) (k : Wr g w w1) (hz : w1.heap.size = w.heap.size) (hw : Wn w8.heap.size w.heap.size w1 M x.1) : Oth w8 w1 M a n c xs := by
  have hx := List.mem_of_getElem? hi
  obtain ⟨p, hp, rfl⟩ := hL
  have hge := (h.wl.each x hx).ge hp
  refine ⟨h.own.kept fun q hq => k.same hz q fun e => h.nb x hx p hp _ hq (by simpa using e), ?_, h.nb, h.bel.trans ⟨k.os, k.tape, k.output, k.size, fun q hq => k.same hz q (by omega)⟩⟩
  rw [hz]
  exact h.wl.put hi hw ⟨p, hp, rfl⟩ (fun q hq => k.same hz q hq)
theorem Oth.nodes (h : Oth w8 w M a n c xs) (hi : xs[i]? = some x) (hna : x.1.na = some ⟨g, 0, none⟩) {ps : List Nd} (o : OK enC 26 54 w8.heap.size w1 (some ⟨g, 0, none⟩) M x.1.nc ps) (k : Wr g w w1) (hz : w1.heap.size = w.heap.size) : Oth w8 w1 M a n c xs := by
  have hW := h.wl.each x (List.mem_of_getElem? hi)
  refine h.wr hi ⟨_, .inl hna, rfl⟩ k hz ⟨⟨ps, hna ▸ o⟩, ?_, hW.ap, hW.nhi, hW.chi⟩
  obtain ⟨cr, hc, h2⟩ := hW.cra
  exact ⟨cr, hc, h2.kept fun q hq => k.same hz q fun e => hW.ap _ _ hna hq (by simpa using e.symm)⟩
theorem Oth.crs (h : Oth w8 w M a n c xs) (hi : xs[i]? = some x) (hca : x.1.ca = some ⟨g, 0, none⟩) (v : Bool) : Oth w8 (w.setCell ⟨g, j, none⟩ (.bool v)) M a n c xs := by
  have hW := h.wl.each x (List.mem_of_getElem? hi)
  have k : Wr g w (w.setCell ⟨g, j, none⟩ (.bool v)) := (Wr.refl g w).setCell (.inl rfl) _
  have hz : (w.setCell ⟨g, j, none⟩ (.bool v)).heap.size = w.heap.size := by simp [World.setCell]
  refine h.wr hi ⟨_, .inr hca, rfl⟩ k hz ⟨?_, ?_, hW.ap, hW.nhi, hW.chi⟩
  · obtain ⟨ps, h1⟩ := hW.nod
    exact ⟨ps, h1.kept fun q hq => k.same hz q fun e => hW.ap _ _ hq hca (by simpa using e)⟩
  · obtain ⟨cr, hc, h2⟩ := hW.cra
    rw [hca] at h2
    exact ⟨cr.set j v, by rw [List.length_set]; exact hc, by rw [hca]; exact h2.set v⟩
theorem range_box {b : Nat} {cs : Array Value} {E : TypeId} (h : w.heap[b]? = some (.cells cs E (0, 0))) : w.rangeAt b 0 cs.toList := fun j v hv => by
  rw [Nat.zero_add, cell_of_row w b j _ _ _ h]
  simpa using hv
/-- A controller that is off. -/
def offN : Nd := ({ c0 with ph := 9 }, ⟨none, 0, none, 0, none, 0⟩)
abbrev offA : Array Value := #[.int .u8 9, .int .i64 0, .int .i64 0, .int .i64 0, .bool false, .int .i64 0, .int .i64 0, .bool false, .int .u32 0, .bool false, .bool false, .int .u8 0, .slice none 0 0, .bool false, .bool false, .slice none 0 0, .int .i64 0, .bool false, .int .u8 0, .slice none 0 0, .int .u8 0, .bool false, .bool false, .int .u8 0, .bool false, .bool false]
theorem offA_en : (offA).toList = enC offN := by kernel_rfl
theorem offA_ones : (offA).all (·.oneCell') = true := by kernel_rfl
end
end Go.Proofs.YtgpmhmdofefdcaaGreat
