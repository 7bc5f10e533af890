/-
  Lists of frames: as they lie in memory, and as an argument that came in.
-/
import Derived.Test.YtgpmhmdofefdcaaGreatOpen4
import Derived.Test.YtgpmhmdofefdcaaGreatB1f
import Derived.Test.YtgpmhmdofefdcaaGreatM4
import Derived.Deep.SlicePairs
namespace Go.Proofs.YtgpmhmdofefdcaaGreat
open Go.RowKit Go.ChangeShapes Go.WideShapes Go.ChangeAt Go.Deep
set_option linter.unusedVariables false

/-- A list of frames, read. -/
structure FrR (w : World) (a : Option Addr) (n c : Nat) (fs : List Ff) : Prop where
  row : RK enF 5 w a n c fs
  dat : ∀ p ∈ fs, RL bv w p.2.1 p.1.data.length p.2.2 p.1.data
  id : ∀ p ∈ fs, p.1.id < 4294967296
  dl : ∀ p ∈ fs, p.1.dlc < 256
theorem FrR.below {w w1 : World} {a : Option Addr} {n c : Nat} {fs : List Ff} (h : FrR w a n c fs) (g : Below w.heap.size w w1) : FrR w1 a n c fs := ⟨h.row.below g, fun p hp => (h.dat p hp).below g, h.id, h.dl⟩

section
variable {H : Type} {enc : TypeId × Value → H} {P : Program} {w : World} {base : Nat} {spare : Nat → Bool} {held : Bool}

theorem open_slice_fives {t e : TypeId} {f0 f1 f2 f3 f4 : Field} {fuel : Nat} {cs : List Value} {x : DataW H × List MemPlace} (ht : P.underlying t = some (.slice e)) (he : P.underlying e = some (.struct #[f0, f1, f2, f3, f4]))
    (ce : P.cellsOf e = 5) (o0 : f0.offset = 0) (o1 : f1.offset = 1) (o2 : f2.offset = 2) (o3 : f3.offset = 3) (o4 : f4.offset = 4) (c0 : P.cellsOf f0.type = 1) (c1 : P.cellsOf f1.type = 1) (c2 : P.cellsOf f2.type = 1) (c3 : P.cellsOf f3.type = 1) (c4 : P.cellsOf f4.type = 1)
    (h : DataW.trod enc P w base spare held fuel t cs = some x) :
    cs = [.slice none 0 0] ∨
    ∃ (a : Addr) (len cap m : Nat), cs = [.slice (some a) len cap] ∧ len ≤ cap ∧ cap ≤ maxLen ∧ m = (if spare a.block then cap else len) ∧
      ∀ i, i < m → ∃ (n : Nat) (v0 v1 v2 v3 v4 : Value) (y0 y1 y2 y3 y4 : DataW H × List MemPlace), w.cell? (a.add (i * 5)) = some v0 ∧ w.cell? (a.add (i * 5 + 1)) = some v1 ∧ w.cell? (a.add (i * 5 + 2)) = some v2 ∧ w.cell? (a.add (i * 5 + 3)) = some v3 ∧ w.cell? (a.add (i * 5 + 4)) = some v4 ∧
        DataW.trod enc P w base spare held n f0.type [v0] = some y0 ∧ DataW.trod enc P w base spare held n f1.type [v1] = some y1 ∧ DataW.trod enc P w base spare held n f2.type [v2] = some y2 ∧ DataW.trod enc P w base spare held n f3.type [v3] = some y3 ∧ DataW.trod enc P w base spare held n f4.type [v4] = some y4 := by
  rcases open_slice ht h with ⟨h0, _⟩ | ⟨a, len, cap, m, n, D, plc, rfl, hb, hl, hm, hmm, rfl, hx⟩
  · exact Or.inl h0
  refine Or.inr ⟨a, len, cap, m, rfl, hl, hm, hmm, fun i hi => ?_⟩
  obtain ⟨cs', h1, h2⟩ := hx i hi
  rw [ce] at h1
  obtain ⟨_, hlen, hcell⟩ := World.cells?_some h1
  obtain ⟨xs, k, hk, hxy, _, hxl, hf⟩ := DataW.trod_struct he h2
  match xs, hxl, cs', hlen with
  | [y0, y1, y2, y3, y4], _, [v0, v1, v2, v3, v4], _ =>
    have g0 := hf 0 f0 rfl
    have g1 := hf 1 f1 rfl
    have g2 := hf 2 f2 rfl
    have g3 := hf 3 f3 rfl
    have g4 := hf 4 f4 rfl
    simp [o0, o1, o2, o3, o4, c0, c1, c2, c3, c4] at g0 g1 g2 g3 g4
    have e0 := hcell 0 (by omega)
    have e1 := hcell 1 (by omega)
    have e2 := hcell 2 (by omega)
    have e3 := hcell 3 (by omega)
    have e4 := hcell 4 (by omega)
    rw [add_add] at e0 e1 e2 e3 e4
    exact ⟨k, v0, v1, v2, v3, v4, y0, y1, y2, y3, y4, by simpa using e0, by simpa using e1, by simpa using e2, by simpa using e3, by simpa using e4, g0, g1, g2, g3, g4⟩
end

set_option maxRecDepth 100000 in
theorem arg_frames {H : Type} {enc : TypeId × Value → H} {W : World} {r : Reach} {b0 : Nat} {v : Value} {d : DataW H} {ps : List MemPlace}
    (hval : Value.okWide Tryz.prog W r b0 22 v) (h : DataW.Trod enc Tryz.prog W 0 (fun _ => true) true 22 v d ps) :
    ∃ a n c fs, v = .slice a n c ∧ FrR W a n c fs ∧ (∀ p ∈ fs, p.1.data.length ≤ 9223372036854775807) ∧ n ≤ 9223372036854775807 := by
  obtain ⟨a, n, c, rfl⟩ := okWide_slice Tryz.underlying22 hval
  obtain ⟨fuel, hf⟩ := h
  rcases open_slice_fives Tryz.underlying22 Tryz.underlying26 (by kernel_rfl) rfl rfl rfl rfl rfl (by kernel_rfl) (by kernel_rfl) (by kernel_rfl) (by kernel_rfl) (by kernel_rfl) hf with hcs | ⟨ad, len, cap, m, hcs, hl, hm, hmm, hcell⟩
  · simp [Value.cells] at hcs
    obtain ⟨rfl, rfl, rfl⟩ := hcs
    exact ⟨none, 0, 0, [], rfl, ⟨RK.nil _ _ _ _ _, by simp, by simp, by simp⟩, by simp, by omega⟩
  · simp [Value.cells] at hcs
    obtain ⟨rfl, rfl, rfl⟩ := hcs
    simp only [if_true] at hmm
    subst hmm
    have each : ∀ i, i < m → ∃ q : Ff, W.cell? (ad.add (i * 5)) = some (.int .u32 (q.1.id : Int)) ∧ W.cell? (ad.add (i * 5 + 1)) = some (.bool q.1.ext) ∧ W.cell? (ad.add (i * 5 + 2)) = some (.bool q.1.rem) ∧ W.cell? (ad.add (i * 5 + 3)) = some (.int .u8 (q.1.dlc : Int)) ∧ W.cell? (ad.add (i * 5 + 4)) = some (.slice q.2.1 q.1.data.length q.2.2) ∧
        q.1.id < 4294967296 ∧ q.1.dlc < 256 ∧ RL bv W q.2.1 q.1.data.length q.2.2 q.1.data ∧ q.1.data.length ≤ 9223372036854775807 := fun i hi => by
      obtain ⟨nn, v0, v1, v2, v3, v4, y0, y1, y2, y3, y4, h0, h1, h2, h3, h4, t0, t1, t2, t3, t4⟩ := hcell i hi
      obtain ⟨x0, k0, _, z0⟩ := DataW.trod_int (show Tryz.prog.underlying 23 = some (.int .u32) by kernel_rfl) t0
      obtain ⟨x1, k1, _⟩ := DataW.trod_bool (show Tryz.prog.underlying 4 = some .bool by kernel_rfl) t1
      obtain ⟨x2, k2, _⟩ := DataW.trod_bool (show Tryz.prog.underlying 4 = some .bool by kernel_rfl) t2
      obtain ⟨x3, k3, _, z3⟩ := DataW.trod_int (show Tryz.prog.underlying 5 = some (.int .u8) by kernel_rfl) t3
      obtain ⟨a4, m4, c4, l4, rfl, hr4, hm4⟩ := cell_bytes tY.und (show Tryz.prog.underlying 5 = some (.int .u8) by kernel_rfl) tY.size t4
      simp at k0 k1 k2 k3
      rw [k0] at h0
      rw [k1] at h1
      rw [k2] at h2
      rw [k3] at h3
      have w0 : 0 ≤ x0 ∧ x0 ≤ 4294967295 := by simpa [Lit.wf, IntKind.min, IntKind.max, IntKind.signed, IntKind.bits] using z0
      have w3 : 0 ≤ x3 ∧ x3 ≤ 255 := by simpa [Lit.wf, IntKind.min, IntKind.max, IntKind.signed, IntKind.bits] using z3
      obtain ⟨y0, rfl⟩ := Int.eq_ofNat_of_zero_le w0.1
      obtain ⟨y3, rfl⟩ := Int.eq_ofNat_of_zero_le w3.1
      obtain rfl : l4.length = m4 := hr4.len
      exact ⟨(⟨y0, x1, x2, y3, l4⟩, (a4, c4)), h0, h1, h2, h3, h4, by simp only; omega, by simp only; omega, hr4, hm4⟩
    have : ∃ q : Nat → Ff, ∀ i, i < m → W.cell? (ad.add (i * 5)) = some (.int .u32 ((q i).1.id : Int)) ∧ W.cell? (ad.add (i * 5 + 1)) = some (.bool (q i).1.ext) ∧ W.cell? (ad.add (i * 5 + 2)) = some (.bool (q i).1.rem) ∧ W.cell? (ad.add (i * 5 + 3)) = some (.int .u8 ((q i).1.dlc : Int)) ∧ W.cell? (ad.add (i * 5 + 4)) = some (.slice (q i).2.1 (q i).1.data.length (q i).2.2) ∧
        (q i).1.id < 4294967296 ∧ (q i).1.dlc < 256 ∧ RL bv W (q i).2.1 (q i).1.data.length (q i).2.2 (q i).1.data ∧ (q i).1.data.length ≤ 9223372036854775807 := by
      refine ⟨fun i => if hi : i < m then Classical.choose (each i hi) else (⟨0, false, false, 0, []⟩, (none, 0)), fun i hi => ?_⟩
      have := Classical.choose_spec (each i hi)
      simpa [hi] using this
    obtain ⟨q, hq⟩ := this
    have hmem : ∀ x ∈ (List.range n).map q, ∃ i, i < m ∧ q i = x := fun x hx => by
      obtain ⟨i, hi, rfl⟩ := List.mem_map.1 hx
      exact ⟨i, by have := List.mem_range.1 hi; omega, rfl⟩
    refine ⟨some ad, n, m, (List.range n).map q, rfl, ⟨⟨by simp, hl, fun hn => ?_⟩, fun x hx => ?_, fun x hx => ?_, fun x hx => ?_⟩, fun x hx => ?_, by unfold maxLen at hm; omega⟩
    · obtain ⟨b, off, spot⟩ := ad
      have hspot : spot = none := by simpa [Addr.add] using World.cell?_spot (hq 0 (by omega)).1
      subst hspot
      refine ⟨b, off, rfl, ?_, fun i x j v hx hv => ?_⟩
      · have := World.block_lt_of_cell? W _ (hq 0 (by omega)).1
        simpa [Addr.add] using this
      · have hi : i < n := by
          have := (List.getElem?_eq_some_iff.1 hx).1
          simpa using this
        obtain ⟨h0, h1, h2, h3, h4, _⟩ := hq i (by omega)
        rw [Addr.add_lit] at h0 h1 h2 h3 h4
        simp [hi] at hx
        subst hx
        match j, hv with
        | 0, hv => simp [enF] at hv; subst hv; simpa using h0
        | 1, hv => simp [enF] at hv; subst hv; exact h1
        | 2, hv => simp [enF] at hv; subst hv; exact h2
        | 3, hv => simp [enF] at hv; subst hv; exact h3
        | 4, hv => simp [enF] at hv; subst hv; exact h4
        | j + 5, hv => simp [enF] at hv
    · obtain ⟨i, hi, rfl⟩ := hmem x hx; exact (hq i hi).2.2.2.2.2.2.2.1
    · obtain ⟨i, hi, rfl⟩ := hmem x hx; exact (hq i hi).2.2.2.2.2.1
    · obtain ⟨i, hi, rfl⟩ := hmem x hx; exact (hq i hi).2.2.2.2.2.2.1
    · obtain ⟨i, hi, rfl⟩ := hmem x hx; exact (hq i hi).2.2.2.2.2.2.2.2
end Go.Proofs.YtgpmhmdofefdcaaGreat
