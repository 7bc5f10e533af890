/-
  Filters, slices of filters and of numbers of 32 bits that came in as arguments.
-/
import Derived.Test.YtmaklneiedljjaaOpen
import Derived.Test.YtmaklneiedljjaaB11
import Derived.Test.YtmaklneiedljjaaSr
import Derived.Deep.SlicePairs
import Derived.Lib.SmallJoins
namespace Go.Proofs.Ytmaklneiedljjaa
open Go.RowKit Go.ChangeShapes Go.WideShapes Go.ChangeAt Go.Deep
set_option linter.unusedVariables false

section
variable {H : Type} {enc : TypeId × Value → H} {P : Program} {w : World} {base : Nat} {spare : Nat → Bool} {held : Bool}

theorem open_slice_triplesF {t e : TypeId} {f0 f1 f2 : Field} {fuel : Nat} {cs : List Value} {x : DataW H × List MemPlace} (ht : P.underlying t = some (.slice e)) (he : P.underlying e = some (.struct #[f0, f1, f2]))
    (ce : P.cellsOf e = 3) (o0 : f0.offset = 0) (o1 : f1.offset = 1) (o2 : f2.offset = 2) (c0 : P.cellsOf f0.type = 1) (c1 : P.cellsOf f1.type = 1) (c2 : P.cellsOf f2.type = 1)
    (h : DataW.trod enc P w base spare held fuel t cs = some x) :
    cs = [.slice none 0 0] ∨
    ∃ (a : Addr) (len cap m : Nat), cs = [.slice (some a) len cap] ∧ len ≤ cap ∧ cap ≤ maxLen ∧ m = (if spare a.block then cap else len) ∧
      ∀ i, i < m → ∃ (n : Nat) (v0 v1 v2 : Value) (y0 y1 y2 : DataW H × List MemPlace), w.cell? (a.add (i * 3)) = some v0 ∧ w.cell? (a.add (i * 3 + 1)) = some v1 ∧ w.cell? (a.add (i * 3 + 2)) = some v2 ∧
        DataW.trod enc P w base spare held n f0.type [v0] = some y0 ∧ DataW.trod enc P w base spare held n f1.type [v1] = some y1 ∧ DataW.trod enc P w base spare held n f2.type [v2] = some y2 := by
  rcases open_slice ht h with ⟨h0, _⟩ | ⟨a, len, cap, m, n, D, Pl, rfl, hb, hl, hm, hmm, rfl, hx⟩
  · exact Or.inl h0
  refine Or.inr ⟨a, len, cap, m, rfl, hl, hm, hmm, fun i hi => ?_⟩
  obtain ⟨cs', h1, h2⟩ := hx i hi
  rw [ce] at h1
  obtain ⟨_, hlen, hcell⟩ := World.cells?_some h1
  obtain ⟨xs, k, hk, hxy, _, hxl, hf⟩ := DataW.trod_struct he h2
  match xs, hxl, cs', hlen with
  | [y0, y1, y2], _, [v0, v1, v2], _ =>
    have g0 := hf 0 f0 rfl
    have g1 := hf 1 f1 rfl
    have g2 := hf 2 f2 rfl
    simp [o0, o1, o2, c0, c1, c2] at g0 g1 g2
    have e0 := hcell 0 (by omega)
    have e1 := hcell 1 (by omega)
    have e2 := hcell 2 (by omega)
    rw [add_add] at e0 e1 e2
    exact ⟨k, v0, v1, v2, y0, y1, y2, by simpa using e0, by simpa using e1, by simpa using e2, g0, g1, g2⟩
end

set_option maxRecDepth 100000 in
theorem arg_filters {H : Type} {enc : TypeId × Value → H} {W : World} {r : Reach} {b0 : Nat} {v : Value} {d : DataW H} {ps : List MemPlace}
    (hval : Value.okWide Try.prog W r b0 22 v) (h : DataW.Trod enc Try.prog W 0 (fun _ => true) true 22 v d ps) :
    ∃ a n c l, v = .slice a n c ∧ RK fiE 3 W a n c l ∧ (∀ x ∈ l, x.Ok) ∧ n ≤ 9223372036854775807 := by
  obtain ⟨a, n, c, rfl⟩ := okWide_slice tFi.und hval
  obtain ⟨fuel, hf⟩ := h
  rcases open_slice_triplesF tFi.und Try.underlying25 tFi.size rfl rfl rfl (by kernel_rfl) (by kernel_rfl) (by kernel_rfl) hf with hcs | ⟨ad, len, cap, m, hcs, hl, hm, hmm, hcell⟩
  · simp [Value.cells] at hcs
    obtain ⟨rfl, rfl, rfl⟩ := hcs
    exact ⟨none, 0, 0, [], rfl, RK.nil _ _ _ _ _, by simp, by omega⟩
  · simp [Value.cells] at hcs
    obtain ⟨rfl, rfl, rfl⟩ := hcs
    simp only [if_true] at hmm
    subst hmm
    have each : ∀ i, i < m → ∃ q : Fi, W.cell? (ad.add (i * 3)) = some (.bool q.ext) ∧ W.cell? (ad.add (i * 3 + 1)) = some (.int .u32 (q.mask : Int)) ∧ W.cell? (ad.add (i * 3 + 2)) = some (.int .u32 (q.mat : Int)) ∧ q.Ok := fun i hi => by
      obtain ⟨nn, v0, v1, v2, y0, y1, y2, h0, h1, h2, t0, t1, t2⟩ := hcell i hi
      obtain ⟨x0, k0, _⟩ := DataW.trod_bool (show Try.prog.underlying 4 = some .bool by kernel_rfl) t0
      obtain ⟨x1, k1, _, z1⟩ := DataW.trod_int (show Try.prog.underlying 23 = some (.int .u32) by kernel_rfl) t1
      obtain ⟨x2, k2, _, z2⟩ := DataW.trod_int (show Try.prog.underlying 23 = some (.int .u32) by kernel_rfl) t2
      simp at k0 k1 k2
      rw [k0] at h0
      rw [k1] at h1
      rw [k2] at h2
      have w1 : 0 ≤ x1 ∧ x1 ≤ 4294967295 := by simpa [Lit.wf, IntKind.min, IntKind.max, IntKind.signed, IntKind.bits] using z1
      have w2 : 0 ≤ x2 ∧ x2 ≤ 4294967295 := by simpa [Lit.wf, IntKind.min, IntKind.max, IntKind.signed, IntKind.bits] using z2
      obtain ⟨y1, rfl⟩ := Int.eq_ofNat_of_zero_le w1.1
      obtain ⟨y2, rfl⟩ := Int.eq_ofNat_of_zero_le w2.1
      exact ⟨⟨x0, y1, y2⟩, h0, h1, h2, by simp only; omega, by simp only; omega⟩
    have : ∃ q : Nat → Fi, ∀ i, i < m → W.cell? (ad.add (i * 3)) = some (.bool (q i).ext) ∧ W.cell? (ad.add (i * 3 + 1)) = some (.int .u32 ((q i).mask : Int)) ∧ W.cell? (ad.add (i * 3 + 2)) = some (.int .u32 ((q i).mat : Int)) ∧ (q i).Ok := by
      refine ⟨fun i => if hi : i < m then Classical.choose (each i hi) else ⟨false, 0, 0⟩, fun i hi => ?_⟩
      have := Classical.choose_spec (each i hi)
      simpa [hi] using this
    obtain ⟨q, hq⟩ := this
    refine ⟨some ad, n, m, (List.range n).map q, rfl, ⟨by simp, hl, fun hn => ?_⟩, fun x hx => ?_, by unfold maxLen at hm; omega⟩
    · obtain ⟨b, off, spot⟩ := ad
      have hspot : spot = none := by simpa [Addr.add] using World.cell?_spot (hq 0 (by omega)).1
      subst hspot
      refine ⟨b, off, rfl, ?_, fun i x j v hx hv => ?_⟩
      · have := World.block_lt_of_cell? W _ (hq 0 (by omega)).1
        simpa [Addr.add] using this
      · have hi : i < n := by
          have := (List.getElem?_eq_some_iff.1 hx).1
          simpa using this
        obtain ⟨h0, h1, h2, _⟩ := hq i (by omega)
        rw [Addr.add_lit] at h0 h1 h2
        simp [hi] at hx
        subst hx
        match j, hv with
        | 0, hv => simp [fiE] at hv; subst hv; simpa using h0
        | 1, hv => simp [fiE] at hv; subst hv; exact h1
        | 2, hv => simp [fiE] at hv; subst hv; exact h2
        | j + 3, hv => simp [fiE] at hv
    · obtain ⟨i, hi, rfl⟩ := List.mem_map.1 hx
      exact (hq i (by have := List.mem_range.1 hi; omega)).2.2.2

set_option maxRecDepth 100000 in
theorem arg_filter {H : Type} {enc : TypeId × Value → H} {W : World} {r : Reach} {b0 : Nat} {v : Value} {d : DataW H} {p : List MemPlace} (hv : Value.okWide Try.prog W r b0 25 v) (h : DataW.Trod enc Try.prog W 0 (fun _ => true) true 25 v d p) :
    ∃ x : Fi, v = .agg (fiV x) ∧ x.Ok := by
  obtain ⟨v0, v1, v2, d0, d1, d2, p0, rfl, _, _, h0, h1, h2⟩ := Go.Joins.open_agg3 Try.underlying25 (by kernel_rfl) (show Try.prog.cellsOf 25 = 3 by kernel_rfl) hv h
  obtain ⟨x0, k0, _⟩ := DataW.trod_bool (show Try.prog.underlying 4 = some .bool by kernel_rfl) h0
  obtain ⟨x1, k1, _, z1⟩ := DataW.trod_int (show Try.prog.underlying 23 = some (.int .u32) by kernel_rfl) h1
  obtain ⟨x2, k2, _, z2⟩ := DataW.trod_int (show Try.prog.underlying 23 = some (.int .u32) by kernel_rfl) h2
  simp at k0 k1 k2
  subst k0 k1 k2
  have w1 : 0 ≤ x1 ∧ x1 ≤ 4294967295 := by simpa [Lit.wf, IntKind.min, IntKind.max, IntKind.signed, IntKind.bits] using z1
  have w2 : 0 ≤ x2 ∧ x2 ≤ 4294967295 := by simpa [Lit.wf, IntKind.min, IntKind.max, IntKind.signed, IntKind.bits] using z2
  obtain ⟨y1, rfl⟩ := Int.eq_ofNat_of_zero_le w1.1
  obtain ⟨y2, rfl⟩ := Int.eq_ofNat_of_zero_le w2.1
  exact ⟨⟨x0, y1, y2⟩, rfl, by simp only; omega, by simp only; omega⟩

/-- A slice of numbers of 32 bits that came in. -/
theorem arg_u32s {H : Type} {enc : TypeId × Value → H} {P : Program} {W : World} {T e : TypeId} {r : Reach} {b0 : Nat} {v : Value} {d : DataW H} {ps : List MemPlace} (ht : P.underlying T = some (.slice e)) (he : P.underlying e = some (.int .u32)) (hc : P.cellsOf e = 1)
    (hval : Value.okWide P W r b0 T v) (h : DataW.Trod enc P W 0 (fun _ => true) true T v d ps) : ∃ a n c l, v = .slice a n c ∧ RL wv W a n c l ∧ (∀ x ∈ l, x < 4294967296) ∧ n ≤ 9223372036854775807 := by
  obtain ⟨a, n, c, rfl⟩ := okWide_slice ht hval
  obtain ⟨fuel, hf⟩ := h
  rcases open_ints ht he hc hf with ⟨hcs, _⟩ | ⟨ad, len, cap, zs, hcs, _, hl, hm, hz, _, hcell, hwz⟩
  · simp [Value.cells] at hcs
    obtain ⟨rfl, rfl, rfl⟩ := hcs
    exact ⟨none, 0, 0, [], rfl, RL.nil _ _ _ _, by simp, by omega⟩
  · simp [Value.cells] at hcs
    obtain ⟨rfl, rfl, rfl⟩ := hcs
    simp only [if_true] at hz
    have each : ∀ z ∈ zs, 0 ≤ z ∧ z ≤ 4294967295 := fun z hz => by
      have hw := hwz z hz
      simpa [Lit.wf, IntKind.min, IntKind.max, IntKind.signed, IntKind.bits] using hw
    refine ⟨some ad, n, c, (zs.take n).map (fun z => z.toNat), rfl, ⟨by simp; omega, hl, fun hn => ?_⟩, fun x hx => ?_, by unfold maxLen at hm; omega⟩
    · obtain ⟨b, off, spot⟩ := ad
      have hspot : spot = none := by simpa [Addr.add] using World.cell?_spot (hcell 0 (by omega))
      subst hspot
      refine ⟨b, off, rfl, ?_, fun i x hx => ?_⟩
      · have := World.block_lt_of_cell? W _ (hcell 0 (by omega))
        simpa [Addr.add] using this
      · have hi : i < n := by
          have := (List.getElem?_eq_some_iff.1 hx).1
          simp at this
          omega
        have hiz : i < zs.length := by omega
        have := hcell i (by omega)
        rw [Addr.add_lit] at this
        rw [this]
        simp [hi, hiz] at hx
        subst hx
        have hw := each (zs[i]) (List.getElem_mem hiz)
        simp [wv, hiz]
        omega
    · obtain ⟨z, hz, rfl⟩ := List.mem_map.1 hx
      have := each z (List.mem_of_mem_take hz)
      omega
end Go.Proofs.Ytmaklneiedljjaa
