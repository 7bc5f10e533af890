/-
  A slice of operations on a fifo that came in as an argument.
-/
import Derived.Test.YtkojljmhgeehoaaOpen12
import Derived.Deep.SlicePairs
namespace Go.Proofs.Ytkojljmhgeehoaa
open Go.RowKit Go.ChangeShapes Go.WideShapes Go.ChangeAt Go.Deep
set_option linter.unusedVariables false

/-- An operation: what is done, and a frame. -/
abbrev Op12 := Nat × Rx
abbrev opV (o : Op12) : Array Value := #[.int .u8 (o.1 : Int), .int .u32 (o.2.1.1.id : Int), .bool o.2.1.1.ext, .bool o.2.1.1.rem, .int .u8 (o.2.1.1.dlc : Int), .slice o.2.1.2.1 o.2.1.1.data.length o.2.1.2.2, .int .i64 o.2.2]
theorem op_ones (p : Op12) : (opV p).all (·.oneCell') = true := by kernel_rfl
def enO (p : Op12) : List Value := (opV p).toList
theorem enO_k : EnK enO 7 := ⟨fun _ => rfl, fun p v hv => (Array.all_eq_true_iff_forall_mem.1 (op_ones p)) v (by simpa [enO] using hv)⟩
theorem elO : ElK Try.prog 22 38 7 (.agg #[.int .u8 0, .int .u32 0, .bool false, .bool false, .int .u8 0, .slice none 0 0, .int .i64 0]) 48 := ⟨by kernel_rfl, by kernel_rfl, by kernel_rfl, by kernel_rfl, rfl, by omega⟩
theorem rowO : RowT Try.prog 38 7 := rowT_of (by kernel_rfl) (by kernel_rfl)

/-- A list of operations, read. -/
structure OpR (w : World) (a : Option Addr) (n c : Nat) (os : List Op12) : Prop where
  row : RK enO 7 w a n c os
  dat : ∀ o ∈ os, RL bv w o.2.1.2.1 o.2.1.1.data.length o.2.1.2.2 o.2.1.1.data
  wh : ∀ o ∈ os, o.1 < 256

set_option maxRecDepth 100000 in
theorem arg_ops {H : Type} {enc : TypeId × Value → H} {W : World} {r : Reach} {b0 : Nat} {v : Value} {d : DataW H} {ps : List MemPlace}
    (hval : Value.okWide Try.prog W r b0 22 v) (h : DataW.Trod enc Try.prog W 0 (fun _ => true) true 22 v d ps) :
    ∃ a n c os, v = .slice a n c ∧ OpR W a n c os ∧ (∀ o ∈ os, o.2.1.1.data.length ≤ 9223372036854775807) ∧ n ≤ 9223372036854775807 := by
  obtain ⟨a, n, c, rfl⟩ := okWide_slice Try.underlying22 hval
  obtain ⟨fuel, hf⟩ := h
  rcases open_slice Try.underlying22 hf with ⟨hcs, _⟩ | ⟨ad, len, cap, m, nn, D, plc, hcs, hb, hl, hm, hmm, hd, hcell⟩
  · simp [Value.cells] at hcs
    obtain ⟨rfl, rfl, rfl⟩ := hcs
    exact ⟨none, 0, 0, [], rfl, ⟨RK.nil _ _ _ _ _, by simp, by simp⟩, by simp, by omega⟩
  · simp [Value.cells] at hcs
    obtain ⟨rfl, rfl, rfl⟩ := hcs
    simp only [if_true] at hmm
    subst hmm
    have each : ∀ i, i < m → ∃ q : Op12, (∀ j v, (enO q)[j]? = some v → W.cell? (ad.add (i * 7 + j)) = some v) ∧ q.1 < 256 ∧ RL bv W q.2.1.2.1 q.2.1.1.data.length q.2.1.2.2 q.2.1.1.data ∧ q.2.1.1.data.length ≤ 9223372036854775807 := fun i hi => by
      obtain ⟨cs', h1, h2⟩ := hcell i hi
      rw [show Try.prog.cellsOf 38 = 7 by kernel_rfl] at h1
      obtain ⟨_, hlen, hc⟩ := World.cells?_some h1
      obtain ⟨xs, k, hk, hxy, hle, hxl, hff⟩ := DataW.trod_struct Try.underlying38 h2
      match xs, hxl with
      | [y0, y1], _ =>
      have g0 : DataW.trod enc Try.prog W 0 (fun _ => true) true k 5 ((cs'.drop 0).take (Try.prog.cellsOf 5)) = [y0, y1][0]? := hff 0 _ rfl
      have g1 : DataW.trod enc Try.prog W 0 (fun _ => true) true k 36 ((cs'.drop 1).take (Try.prog.cellsOf 36)) = [y0, y1][1]? := hff 1 _ rfl
      rw [show Try.prog.cellsOf 5 = 1 by kernel_rfl] at g0
      rw [show Try.prog.cellsOf 36 = 6 by kernel_rfl] at g1
      match cs', hlen with
      | [e0, e1, e2, e3, e4, e5, e6], _ =>
      simp at g0 g1
      obtain ⟨x0, k0, _, z0⟩ := DataW.trod_int (show Try.prog.underlying 5 = some (.int .u8) by kernel_rfl) g0
      obtain ⟨p, hp, hp1, hp2, hp3, hp4⟩ := cells_rx g1
      simp at k0
      subst k0
      have w0 : 0 ≤ x0 ∧ x0 ≤ 255 := by simpa [Lit.wf, IntKind.min, IntKind.max, IntKind.signed, IntKind.bits] using z0
      obtain ⟨y0', rfl⟩ := Int.eq_ofNat_of_zero_le w0.1
      refine ⟨(y0', p), fun j v hj => ?_, by show y0' < 256; omega, hp3, hp4⟩
      have hj7 : j < 7 := by have := (List.getElem?_eq_some_iff.1 hj).1; simpa [enO] using this
      have e : enO (y0', p) = [Value.int .u8 (y0' : Int), e1, e2, e3, e4, e5, e6] := by
        rw [hp]; rfl
      rw [e] at hj
      have := hc j hj7
      rw [add_add] at this
      rw [this]; exact hj
    have : ∃ q : Nat → Op12, ∀ i, i < m → (∀ j v, (enO (q i))[j]? = some v → W.cell? (ad.add (i * 7 + j)) = some v) ∧ (q i).1 < 256 ∧ RL bv W (q i).2.1.2.1 (q i).2.1.1.data.length (q i).2.1.2.2 (q i).2.1.1.data ∧ (q i).2.1.1.data.length ≤ 9223372036854775807 := by
      refine ⟨fun i => if hi : i < m then Classical.choose (each i hi) else (0, x0X), fun i hi => ?_⟩
      have := Classical.choose_spec (each i hi)
      simpa [hi] using this
    obtain ⟨q, hq⟩ := this
    have hmem : ∀ x ∈ (List.range n).map q, ∃ i, i < m ∧ q i = x := fun x hx => by
      obtain ⟨i, hi, rfl⟩ := List.mem_map.1 hx
      exact ⟨i, by have := List.mem_range.1 hi; omega, rfl⟩
    refine ⟨some ad, n, m, (List.range n).map q, rfl, ⟨⟨by simp, hl, fun hn => ?_⟩, fun x hx => ?_, fun x hx => ?_⟩, fun x hx => ?_, by unfold maxLen at hm; omega⟩
    · have h00 := (hq 0 (by omega)).1 0 _ rfl
      obtain ⟨b, off, spot⟩ := ad
      have hspot : spot = none := by simpa [Addr.add] using World.cell?_spot h00
      subst hspot
      refine ⟨b, off, rfl, ?_, fun i x j v hx hv => ?_⟩
      · have := World.block_lt_of_cell? W _ h00
        simpa [Addr.add] using this
      · have hi : i < n := by
          have := (List.getElem?_eq_some_iff.1 hx).1
          simpa using this
        simp [hi] at hx
        subst hx
        have := (hq i (by omega)).1 j v hv
        rwa [Addr.add_lit] at this
    · obtain ⟨i, hi, rfl⟩ := hmem x hx; exact (hq i hi).2.2.1
    · obtain ⟨i, hi, rfl⟩ := hmem x hx; exact (hq i hi).2.1
    · obtain ⟨i, hi, rfl⟩ := hmem x hx; exact (hq i hi).2.2.2
end Go.Proofs.Ytkojljmhgeehoaa
