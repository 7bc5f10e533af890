/-
  A row of numbers of 32 bits that a call owns, as an array, in the hands of the library's sort: what it holds, what a swap makes of it; cmp.Less.
-/
import Derived.Test.YtmaklneiedljjaaBaseK
import Derived.Test.YtmaklneiedljjaaRw
import Derived.Sort.LotD3
import Derived.CellFam
import Derived.BigQuiet
import Derived.BigGuard
import Derived.Deep.QuietTactic
import Derived.Deep.Draws
namespace Go.Proofs.Ytmaklneiedljjaa
open Go.RowKit Go.Sort
set_option linter.unusedVariables false

theorem tW : ElT Try.prog 26 23 (.int .u32 0) 4 := ⟨by kernel_rfl, by kernel_rfl, by kernel_rfl, by kernel_rfl, by kernel_rfl⟩
/-- A number of 32 bits as a cell. -/
def wv (x : Nat) : Value := .int .u32 (x : Int)
/-- Less. -/
def ltN (x y : Nat) : Bool := decide (x < y)
theorem swoN : SWO ltN where
  irrefl x := by simp [ltN]
  trans x y z h1 h2 := by simp only [ltN, decide_eq_true_eq] at *; omega
  ntrans x y z h1 h2 := by simp only [ltN, decide_eq_false_iff_not] at *; omega

/-- The row lies in block g and holds d; of what was there at w0 nothing but that block has changed. (off: nought, under a name.) -/
structure Sr (off g c N : Nat) (w0 w : World) (d : Array Nat) : Prop where
  zero : off = 0
  size : d.size = N
  row : OL wv 23 g w (some ⟨g, 0, none⟩) N c d.toList
  wr : Wr g w0 w

section
variable {off g c N : Nat} {w0 w w' : World} {d d' : Array Nat}

theorem Sr.get (h : Sr off g c N w0 w d) {t : Nat} (ht : t < N) : d.toList[t]? = some d[t]! := by
  have hs : t < d.size := by rw [h.size]; exact ht
  rw [Array.getElem?_toList, Array.getElem?_eq_getElem hs]; simp [hs]
/-- Its cells. -/
theorem Sr.fam (h : Sr off g c N w0 w d) : ∃ G : Nat → Nat, Hid (∀ t, G t = d[t]!) ∧ (∀ t, t < N → w.cell? ⟨g, off + t, none⟩ = some (.int .u32 (G t : Int))) ∧ (∀ t, t < N → w.frozen? ⟨g, off + t, none⟩ = false) := by
  refine ⟨fun t => d[t]!, fun t => rfl, fun t ht => ?_, fun t ht => ?_⟩
  · rw [h.zero, Nat.zero_add]; exact (h.row.cellAt (h.get ht)).1
  · rw [h.zero, Nat.zero_add]; exact (h.row.cellAt (h.get ht)).2
theorem Sr.reads (h : Sr off g c N w0 w d) {G : Nat → Nat} (HG : Hid (∀ t, G t = d[t]!)) : (∀ t, t < N → w.cell? ⟨g, off + t, none⟩ = some (.int .u32 (G t : Int))) ∧ (∀ t, t < N → w.frozen? ⟨g, off + t, none⟩ = false) := by
  obtain ⟨G', HG', h1, h2⟩ := h.fam
  obtain rfl : G' = G := funext fun t => by rw [HG.out, HG'.out]
  exact ⟨h1, h2⟩
theorem Sr.start (h : Sr off g c N w0 w d) : Sr off g c N w w d := ⟨h.zero, h.size, h.row, Wr.refl _ _⟩
theorem Sr.call (h : Sr off g c N w0 w d) (k : Sr off g c N w w' d') : Sr off g c N w0 w' d' := ⟨k.zero, k.size, k.row, h.wr.trans k.wr⟩
theorem Sr.below (h : Sr off g c N w0 w d) (k : Below w.heap.size w w') : Sr off g c N w0 w' d := ⟨h.zero, h.size, h.row.below k, h.wr.call k⟩
theorem Sr.drewN (h : Sr off g c N w0 w d) (q : Nat) : Sr off g c N w0 (w.drewN q) d := ⟨h.zero, h.size, h.row.drewN q, ⟨h.wr.os, h.wr.tape, h.wr.output, h.wr.size, h.wr.block⟩⟩
theorem Sr.lt (h : Sr off g c N w0 w d) : g < w.heap.size := (h.row.ltB rfl).1
/-- One number is written. -/
theorem Sr.set (h : Sr off g c N w0 w d) (i x : Nat) : Sr off g c N w0 (w.setCell ⟨g, off + i, none⟩ (.int .u32 (x : Int))) (d.setIfInBounds i x) := by
  refine ⟨h.zero, by rw [Array.size_setIfInBounds]; exact h.size, ?_, h.wr.setCell (.inl rfl) _⟩
  rw [Array.toList_setIfInBounds, h.zero, Nat.zero_add]
  exact h.row.set x
/-- Two of them are exchanged. -/
theorem Sr.swp (h : Sr off g c N w0 w d) (q i j : Nat) {x y : Nat} (hx : x = d[j]!) (hy : y = d[i]!) : Sr off g c N w0 (((w.drewN q).setCell ⟨g, off + i, none⟩ (.int .u32 (x : Int))).setCell ⟨g, off + j, none⟩ (.int .u32 (y : Int))) (Sort.swp d i j) := by
  subst hx
  subst hy
  exact ((h.drewN q).set i _).set j _
end

theorem isNaN_u32s (a : Int) (w : World) : Calls Try.prog 53 #[.int .u32 a] w fun e w' => e = .returned (.bool false) ∧ w' = w := by
  go_enter Try.func53, Try.ntmps53
  go_wp2
  go_ret
  exact ⟨ret_bool (by simp), rfl⟩

theorem less_u32 (a b : Nat) (w : World) : Calls Try.prog 43 #[.int .u32 (a : Int), .int .u32 (b : Int)] w fun e w' => e = .returned (.bool (ltN a b)) ∧ w' = w := by
  have h : decide ((a : Int) < (b : Int)) = ltN a b := by simp [ltN]
  go_enter Try.func43, Try.ntmps43
  go_wp2_with (go_at_call 53; refine (isNaN_u32s _ _).mono ?_; rintro e w' ⟨rfl, rfl⟩)
  go_ret
  exact ⟨ret_bool (by rw [← h]; simp), rfl⟩
end Go.Proofs.Ytmaklneiedljjaa
