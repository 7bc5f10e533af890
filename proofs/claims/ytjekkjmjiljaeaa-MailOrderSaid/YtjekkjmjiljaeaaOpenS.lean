/-
  A row of bits that came in, and its size.
-/
import Derived.Test.YtjekkjmjiljaeaaOpen4
import Derived.SizedLaws
namespace Go.Proofs.Ytjekkjmjiljaeaa
open Go.RowKit Go.ChangeShapes Go.WideShapes Go.ChangeAt Go.Deep
set_option linter.unusedVariables false

section
variable {H : Type} {enc : TypeId × Value → H} {P : Program} {W : World}

theorem arg_boolsS {T e : TypeId} {r : Reach} {b0 : Nat} {v : Value} {d : DataW H} {ps : List MemPlace} (ht : P.underlying T = some (.slice e)) (he : P.underlying e = some .bool) (hc : P.cellsOf e = 1)
    (hval : Value.okWide P W r b0 T v) (h : DataW.Trod enc P W 0 (fun _ => true) true T v d ps) : ∃ a n c l, v = .slice a n c ∧ RL .bool W a n c l ∧ n ≤ 9223372036854775807 ∧ (n = 0 ∨ ∃ elems spare, d = .slice elems spare ∧ n ≤ elems.length + spare.length) := by
  obtain ⟨a, n, c, rfl⟩ := okWide_slice ht hval
  obtain ⟨fuel, hf⟩ := h
  rcases Go.Deep.open_bools ht he hc hf with ⟨hcs, _⟩ | ⟨ad, len, cap, B, hcs, _, hl, hm, hd, hcell⟩
  · simp [Value.cells] at hcs
    obtain ⟨rfl, rfl, rfl⟩ := hcs
    exact ⟨none, 0, 0, [], rfl, RL.nil _ _ _ _, by omega, .inl rfl⟩
  · simp [Value.cells] at hcs
    obtain ⟨rfl, rfl, rfl⟩ := hcs
    refine ⟨some ad, n, c, (List.range n).map B, rfl, ⟨by simp, hl, fun hn => ?_⟩, by unfold maxLen at hm; omega, .inr ?_⟩
    · obtain ⟨b, off, spot⟩ := ad
      have hspot : spot = none := by simpa [Addr.add] using World.cell?_spot (hcell 0 (by omega))
      subst hspot
      refine ⟨b, off, rfl, ?_, fun i x hx => ?_⟩
      · have := World.block_lt_of_cell? W _ (hcell 0 (by omega))
        simpa [Addr.add] using this
      · have hi : i < n := by simpa using (List.getElem?_eq_some_iff.1 hx).1
        have := hcell i (by omega)
        rw [Addr.add_lit] at this
        rw [this]
        simp [hi] at hx
        rw [hx]
    · simp only [Prod.mk.injEq] at hd
      exact ⟨_, _, hd.1, by simp⟩
end
end Go.Proofs.Ytjekkjmjiljaeaa
