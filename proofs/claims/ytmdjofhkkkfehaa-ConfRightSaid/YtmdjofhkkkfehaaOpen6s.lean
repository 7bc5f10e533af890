/-
  A slice of steps that came in as an argument.
-/
import Derived.Test.YtmdjofhkkkfehaaOpen
import Derived.Test.YtmdjofhkkkfehaaB6k
import Derived.Deep.SlicePairs
namespace Go.Proofs.Ytmdjofhkkkfehaa
open Go.RowKit Go.ChangeShapes Go.WideShapes Go.ChangeAt Go.Deep
set_option linter.unusedVariables false

section
variable {H : Type} {enc : TypeId × Value → H} {P : Program} {w : World} {base : Nat} {spare : Nat → Bool} {held : Bool}

theorem open_slice_triples {t e : TypeId} {f0 f1 f2 : Field} {fuel : Nat} {cs : List Value} {x : DataW H × List MemPlace} (ht : P.underlying t = some (.slice e)) (he : P.underlying e = some (.struct #[f0, f1, f2]))
    (ce : P.cellsOf e = 3) (o0 : f0.offset = 0) (o1 : f1.offset = 1) (o2 : f2.offset = 2) (c0 : P.cellsOf f0.type = 1) (c1 : P.cellsOf f1.type = 1) (c2 : P.cellsOf f2.type = 1)
    (h : DataW.trod enc P w base spare held fuel t cs = some x) :
    cs = [.slice none 0 0] ∨
    ∃ (a : Addr) (len cap m : Nat), cs = [.slice (some a) len cap] ∧ len ≤ cap ∧ cap ≤ maxLen ∧ m = (if spare a.block then cap else len) ∧
      ∀ i, i < m → ∃ (n : Nat) (v0 v1 v2 : Value) (y0 y1 y2 : DataW H × List MemPlace), w.cell? (a.add (i * 3)) = some v0 ∧ w.cell? (a.add (i * 3 + 1)) = some v1 ∧ w.cell? (a.add (i * 3 + 2)) = some v2 ∧
        DataW.trod enc P w base spare held n f0.type [v0] = some y0 ∧ DataW.trod enc P w base spare held n f1.type [v1] = some y1 ∧ DataW.trod enc P w base spare held n f2.type [v2] = some y2 := by
  rcases open_slice ht h with ⟨h0, _⟩ | ⟨a, len, cap, m, n, D, Pl, rfl, hb, hl, hm, hmm, rfl, hx⟩
  · exact Or.inl h0
  refine Or.inr ⟨a, len, cap, m, rfl, hl, hm, hmm, fun i hi => ?_⟩
  obtain ⟨cs', h1, h2⟩ := hx i hi
  rw [ce] at h1
  obtain ⟨_, hlen, hcell⟩ := World.cells?_some h1
  obtain ⟨xs, k, hk, hxy, _, hxl, hf⟩ := DataW.trod_struct he h2
  match xs, hxl, cs', hlen with
  | [y0, y1, y2], _, [v0, v1, v2], _ =>
    have g0 := hf 0 f0 rfl
    have g1 := hf 1 f1 rfl
    have g2 := hf 2 f2 rfl
    simp [o0, o1, o2, c0, c1, c2] at g0 g1 g2
    have e0 := hcell 0 (by omega)
    have e1 := hcell 1 (by omega)
    have e2 := hcell 2 (by omega)
    rw [add_add] at e0 e1 e2
    exact ⟨k, v0, v1, v2, y0, y1, y2, by simpa using e0, by simpa using e1, by simpa using e2, g0, g1, g2⟩
end

theorem arg_steps {H : Type} {enc : TypeId × Value → H} {W : World} {r : Reach} {b0 : Nat} {v : Value} {d : DataW H} {ps : List MemPlace}
    (hval : Value.okWide Try.prog W r b0 32 v) (h : DataW.Trod enc Try.prog W 0 (fun _ => true) true 32 v d ps) :
    ∃ a n c l, v = .slice a n c ∧ RK se 3 W a n c l ∧ (∀ x ∈ l, x.k < 256 ∧ x.q < 256) ∧ n ≤ 9223372036854775807 := by
  obtain ⟨a, n, c, rfl⟩ := okWide_slice tS.und hval
  obtain ⟨fuel, hf⟩ := h
  rcases open_slice_triples tS.und Try.underlying34 tS.size rfl rfl rfl (by kernel_rfl) (by kernel_rfl) (by kernel_rfl) hf with hcs | ⟨ad, len, cap, m, hcs, hl, hm, hmm, hcell⟩
  · simp [Value.cells] at hcs
    obtain ⟨rfl, rfl, rfl⟩ := hcs
    exact ⟨none, 0, 0, [], rfl, RK.nil _ _ _ _ _, by simp, by omega⟩
  · simp [Value.cells] at hcs
    obtain ⟨rfl, rfl, rfl⟩ := hcs
    simp only [if_true] at hmm
    subst hmm
    have each : ∀ i, i < m → ∃ q : Stp, W.cell? (ad.add (i * 3)) = some (.int .u8 (q.k : Int)) ∧ W.cell? (ad.add (i * 3 + 1)) = some (.bool q.x) ∧ W.cell? (ad.add (i * 3 + 2)) = some (.int .u8 (q.q : Int)) ∧ q.k < 256 ∧ q.q < 256 := fun i hi => by
      obtain ⟨nn, v0, v1, v2, y0, y1, y2, h0, h1, h2, t0, t1, t2⟩ := hcell i hi
      obtain ⟨x0, k0, _, z0⟩ := DataW.trod_int (show Try.prog.underlying 5 = some (.int .u8) by kernel_rfl) t0
      obtain ⟨x1, k1, _⟩ := DataW.trod_bool (show Try.prog.underlying 4 = some .bool by kernel_rfl) t1
      obtain ⟨x2, k2, _, z2⟩ := DataW.trod_int (show Try.prog.underlying 5 = some (.int .u8) by kernel_rfl) t2
      simp at k0 k1 k2
      rw [k0] at h0
      rw [k1] at h1
      rw [k2] at h2
      have w0 : 0 ≤ x0 ∧ x0 ≤ 255 := by simpa [Lit.wf, IntKind.min, IntKind.max, IntKind.signed, IntKind.bits] using z0
      have w2 : 0 ≤ x2 ∧ x2 ≤ 255 := by simpa [Lit.wf, IntKind.min, IntKind.max, IntKind.signed, IntKind.bits] using z2
      obtain ⟨y0, rfl⟩ := Int.eq_ofNat_of_zero_le w0.1
      obtain ⟨y2, rfl⟩ := Int.eq_ofNat_of_zero_le w2.1
      exact ⟨⟨y0, x1, y2⟩, h0, h1, h2, by simp only; omega, by simp only; omega⟩
    have : ∃ q : Nat → Stp, ∀ i, i < m → W.cell? (ad.add (i * 3)) = some (.int .u8 ((q i).k : Int)) ∧ W.cell? (ad.add (i * 3 + 1)) = some (.bool (q i).x) ∧ W.cell? (ad.add (i * 3 + 2)) = some (.int .u8 ((q i).q : Int)) ∧ (q i).k < 256 ∧ (q i).q < 256 := by
      refine ⟨fun i => if hi : i < m then Classical.choose (each i hi) else ⟨0, false, 0⟩, fun i hi => ?_⟩
      have := Classical.choose_spec (each i hi)
      simpa [hi] using this
    obtain ⟨q, hq⟩ := this
    refine ⟨some ad, n, m, (List.range n).map q, rfl, ⟨by simp, hl, fun hn => ?_⟩, fun x hx => ?_, by unfold maxLen at hm; omega⟩
    · obtain ⟨b, off, spot⟩ := ad
      have hspot : spot = none := by simpa [Addr.add] using World.cell?_spot (hq 0 (by omega)).1
      subst hspot
      refine ⟨b, off, rfl, ?_, fun i x j v hx hv => ?_⟩
      · have := World.block_lt_of_cell? W _ (hq 0 (by omega)).1
        simpa [Addr.add] using this
      · have hi : i < n := by
          have := (List.getElem?_eq_some_iff.1 hx).1
          simpa using this
        obtain ⟨h0, h1, h2, _⟩ := hq i (by omega)
        rw [Addr.add_lit] at h0 h1 h2
        simp [hi] at hx
        subst hx
        match j, hv with
        | 0, hv => simp [se] at hv; subst hv; simpa using h0
        | 1, hv => simp [se] at hv; subst hv; exact h1
        | 2, hv => simp [se] at hv; subst hv; exact h2
        | j + 3, hv => simp [se] at hv
    · obtain ⟨i, hi, rfl⟩ := List.mem_map.1 hx
      exact (hq i (by have := List.mem_range.1 hi; omega)).2.2.2
end Go.Proofs.Ytmdjofhkkkfehaa
