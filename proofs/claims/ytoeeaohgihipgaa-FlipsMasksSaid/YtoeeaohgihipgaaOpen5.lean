/-
  A slice of flips that came in as an argument.
-/
import Derived.Test.YtoeeaohgihipgaaOpen
import Derived.Test.YtoeeaohgihipgaaB5
import Derived.Deep.SlicePairs
namespace Go.Proofs.Ytoeeaohgihipgaa
open Go.RowKit Go.ChangeShapes Go.WideShapes Go.ChangeAt Go.Deep
set_option linter.unusedVariables false

theorem arg_flips {H : Type} {enc : TypeId × Value → H} {W : World} {r : Reach} {b0 : Nat} {v : Value} {d : DataW H} {ps : List MemPlace}
    (hval : Value.okWide Try.prog W r b0 22 v) (h : DataW.Trod enc Try.prog W 0 (fun _ => true) true 22 v d ps) :
    ∃ a n c l, v = .slice a n c ∧ RK fe 2 W a n c l ∧ (∀ x ∈ l, x.2 < 256) ∧ n ≤ 9223372036854775807 := by
  obtain ⟨a, n, c, rfl⟩ := okWide_slice tF.und hval
  obtain ⟨fuel, hf⟩ := h
  rcases open_slice_pairs tF.und Try.underlying38 tF.size rfl rfl (by kernel_rfl) (by kernel_rfl) hf with ⟨hcs, _⟩ | ⟨ad, len, cap, m, k, V0, V1, D0, D1, P0, P1, hcs, _, hl, hm, hmm, _, hcell⟩
  · simp [Value.cells] at hcs
    obtain ⟨rfl, rfl, rfl⟩ := hcs
    exact ⟨none, 0, 0, [], rfl, RK.nil _ _ _ _ _, by simp, by omega⟩
  · simp [Value.cells] at hcs
    obtain ⟨rfl, rfl, rfl⟩ := hcs
    simp only [if_true] at hmm
    subst hmm
    have each : ∀ i, i < m → ∃ q : Int × Nat, W.cell? (ad.add (i * 2)) = some (.int .i64 q.1) ∧ W.cell? (ad.add (i * 2 + 1)) = some (.int .u8 (q.2 : Int)) ∧ q.2 < 256 := fun i hi => by
      obtain ⟨h0, h1, t0, t1⟩ := hcell i hi
      obtain ⟨x0, k0, _, z0⟩ := DataW.trod_int (show Try.prog.underlying 3 = some (.int .i64) by kernel_rfl) t0
      obtain ⟨x1, k1, _, z1⟩ := DataW.trod_int (show Try.prog.underlying 5 = some (.int .u8) by kernel_rfl) t1
      simp at k0 k1
      rw [k0] at h0
      rw [k1] at h1
      have w1 : 0 ≤ x1 ∧ x1 ≤ 255 := by simpa [Lit.wf, IntKind.min, IntKind.max, IntKind.signed, IntKind.bits] using z1
      obtain ⟨y1, rfl⟩ := Int.eq_ofNat_of_zero_le w1.1
      exact ⟨(x0, y1), h0, h1, by simp only; omega⟩
    obtain ⟨q, hq⟩ := choose_lt each
    refine ⟨some ad, n, m, (List.range n).map q, rfl, ⟨by simp, hl, fun hn => ?_⟩, fun x hx => ?_, by unfold maxLen at hm; omega⟩
    · obtain ⟨b, off, spot⟩ := ad
      have hspot : spot = none := by simpa [Addr.add] using World.cell?_spot (hq 0 (by omega)).1
      subst hspot
      refine ⟨b, off, rfl, ?_, fun i x j v hx hv => ?_⟩
      · have := World.block_lt_of_cell? W _ (hq 0 (by omega)).1
        simpa [Addr.add] using this
      · have hi : i < n := by
          have := (List.getElem?_eq_some_iff.1 hx).1
          simpa using this
        obtain ⟨h0, h1, _⟩ := hq i (by omega)
        rw [Addr.add_lit] at h0 h1
        simp [hi] at hx
        subst hx
        match j, hv with
        | 0, hv => simp [fe] at hv; subst hv; simpa using h0
        | 1, hv => simp [fe] at hv; subst hv; exact h1
        | j + 2, hv => simp [fe] at hv
    · obtain ⟨i, hi, rfl⟩ := List.mem_map.1 hx
      exact (hq i (by have := List.mem_range.1 hi; omega)).2.2
end Go.Proofs.Ytoeeaohgihipgaa
