/-
  A slice of operations on a mail that came in as an argument.
-/
import Derived.Test.YtffbkcjkmhjfnaaOpenFive
import Derived.Test.YtffbkcjkmhjfnaaB1f
import Derived.Lib.SmallJoins
import Derived.Deep.SlicePairs
namespace Go.Proofs.Ytffbkcjkmhjfnaa
open Go.RowKit Go.ChangeShapes Go.WideShapes Go.ChangeAt Go.Deep
set_option linter.unusedVariables false
set_option linter.unusedSimpArgs false

section
variable {H : Type} {enc : TypeId × Value → H} {P : Program} {W : World}

theorem cell_bytes10 {T e : TypeId} {v : Value} {n0 : Nat} {x : DataW H × List MemPlace} (ht : P.underlying T = some (.slice e)) (he : P.underlying e = some (.int .u8)) (hc : P.cellsOf e = 1)
    (hf : DataW.trod enc P W 0 (fun _ => true) true n0 T [v] = some x) : ∃ a n c l, v = .slice a n c ∧ RL bv W a n c l ∧ n ≤ 9223372036854775807 := by
  rcases open_ints ht he hc hf with ⟨hcs, _⟩ | ⟨ad, len, cap, zs, hcs, _, hl, hm, hz, _, hcell, hwz⟩
  · simp at hcs
    subst hcs
    exact ⟨none, 0, 0, [], rfl, RL.nil _ _ _ _, by omega⟩
  · simp at hcs
    subst hcs
    simp only [if_true] at hz
    refine ⟨some ad, len, cap, (zs.take len).map (fun z => UInt8.ofNat z.toNat), rfl, ⟨by simp; omega, hl, fun hn => ?_⟩, by unfold maxLen at hm; omega⟩
    obtain ⟨b, off, spot⟩ := ad
    have hspot : spot = none := by simpa [Addr.add] using World.cell?_spot (hcell 0 (by omega))
    subst hspot
    refine ⟨b, off, rfl, ?_, fun i x hx => ?_⟩
    · have := World.block_lt_of_cell? W _ (hcell 0 (by omega))
      simpa [Addr.add] using this
    · have hi : i < len := by
        have := (List.getElem?_eq_some_iff.1 hx).1
        simp at this
        omega
      have hiz : i < zs.length := by omega
      have := hcell i (by omega)
      rw [Addr.add_lit] at this
      rw [this]
      simp [hi, hiz] at hx
      subst hx
      have hw := hwz (zs[i]) (List.getElem_mem hiz)
      simp only [Lit.wf, IntKind.min, IntKind.max, IntKind.signed, IntKind.bits] at hw
      simp at hw
      simp [bv, List.getD, hiz]
      omega

/-- The five cells of a frame, read. -/
theorem cells_fr {n0 : Nat} {cs : List Value} {x : DataW H × List MemPlace} (h : DataW.trod enc Try.prog W 0 (fun _ => true) true n0 34 cs = some x) :
    ∃ p : Ff, cs = enF p ∧ p.1.id < 4294967296 ∧ p.1.dlc < 256 ∧ RL bv W p.2.1 p.1.data.length p.2.2 p.1.data ∧ p.1.data.length ≤ 9223372036854775807 := by
  obtain ⟨zs, n', hn', hx', hlen', hl', hgg⟩ := DataW.trod_struct Try.underlying34 h
  have hc5 : cs.length = 5 := hlen'
  match cs, hc5 with
  | [c0, c1, c2, c3, c4], _ =>
  match zs, hl' with
  | [z0, z1, z2, z3, z4], _ =>
  have e0 : DataW.trod enc Try.prog W 0 (fun _ => true) true n' 31 (([c0, c1, c2, c3, c4].drop 0).take (Try.prog.cellsOf 31)) = [z0, z1, z2, z3, z4][0]? := hgg 0 _ rfl
  have e1 : DataW.trod enc Try.prog W 0 (fun _ => true) true n' 4 (([c0, c1, c2, c3, c4].drop 1).take (Try.prog.cellsOf 4)) = [z0, z1, z2, z3, z4][1]? := hgg 1 _ rfl
  have e2 : DataW.trod enc Try.prog W 0 (fun _ => true) true n' 4 (([c0, c1, c2, c3, c4].drop 2).take (Try.prog.cellsOf 4)) = [z0, z1, z2, z3, z4][2]? := hgg 2 _ rfl
  have e3 : DataW.trod enc Try.prog W 0 (fun _ => true) true n' 5 (([c0, c1, c2, c3, c4].drop 3).take (Try.prog.cellsOf 5)) = [z0, z1, z2, z3, z4][3]? := hgg 3 _ rfl
  have e4 : DataW.trod enc Try.prog W 0 (fun _ => true) true n' 32 (([c0, c1, c2, c3, c4].drop 4).take (Try.prog.cellsOf 32)) = [z0, z1, z2, z3, z4][4]? := hgg 4 _ rfl
  rw [show Try.prog.cellsOf 31 = 1 by kernel_rfl] at e0
  rw [show Try.prog.cellsOf 4 = 1 by kernel_rfl] at e1 e2
  rw [show Try.prog.cellsOf 5 = 1 by kernel_rfl] at e3
  rw [show Try.prog.cellsOf 32 = 1 by kernel_rfl] at e4
  simp at e0 e1 e2 e3 e4
  obtain ⟨x0, k0, _, q0⟩ := DataW.trod_int (show Try.prog.underlying 31 = some (.int .u32) by kernel_rfl) e0
  obtain ⟨x1, k1, _⟩ := DataW.trod_bool (show Try.prog.underlying 4 = some .bool by kernel_rfl) e1
  obtain ⟨x2, k2, _⟩ := DataW.trod_bool (show Try.prog.underlying 4 = some .bool by kernel_rfl) e2
  obtain ⟨x3, k3, _, q3⟩ := DataW.trod_int (show Try.prog.underlying 5 = some (.int .u8) by kernel_rfl) e3
  obtain ⟨a, m, c, l, rfl, hr, hm⟩ := cell_bytes10 tY.und (show Try.prog.underlying 5 = some (.int .u8) by kernel_rfl) tY.size e4
  simp at k0 k1 k2 k3
  subst k0 k1 k2 k3
  have w0 : 0 ≤ x0 ∧ x0 ≤ 4294967295 := by simpa [Lit.wf, IntKind.min, IntKind.max, IntKind.signed, IntKind.bits] using q0
  have w3 : 0 ≤ x3 ∧ x3 ≤ 255 := by simpa [Lit.wf, IntKind.min, IntKind.max, IntKind.signed, IntKind.bits] using q3
  obtain ⟨y0', rfl⟩ := Int.eq_ofNat_of_zero_le w0.1
  obtain ⟨y3', rfl⟩ := Int.eq_ofNat_of_zero_le w3.1
  obtain rfl : l.length = m := hr.len
  exact ⟨(⟨y0', x1, x2, y3', l⟩, (a, c)), rfl, by show y0' < _; omega, by show y3' < _; omega, hr, hm⟩
end

/-- An operation: what is done, a frame, a number. -/
abbrev Op10 := Nat × (Ff × Int)
abbrev opV10 (o : Op10) : Array Value := #[.int .u8 (o.1 : Int), .int .u32 (o.2.1.1.id : Int), .bool o.2.1.1.ext, .bool o.2.1.1.rem, .int .u8 (o.2.1.1.dlc : Int), .slice o.2.1.2.1 o.2.1.1.data.length o.2.1.2.2, .int .i64 o.2.2]
theorem op_ones10 (p : Op10) : (opV10 p).all (·.oneCell') = true := by kernel_rfl
def enO10 (p : Op10) : List Value := (opV10 p).toList
theorem enO10_k : EnK enO10 7 := ⟨fun _ => rfl, fun p v hv => (Array.all_eq_true_iff_forall_mem.1 (op_ones10 p)) v (by simpa [enO10] using hv)⟩
theorem elO10 : ElK Try.prog 22 36 7 (.agg #[.int .u8 0, .int .u32 0, .bool false, .bool false, .int .u8 0, .slice none 0 0, .int .i64 0]) 48 := ⟨by kernel_rfl, by kernel_rfl, by kernel_rfl, by kernel_rfl, rfl, by omega⟩
theorem rowO10 : RowT Try.prog 36 7 := rowT_of (by kernel_rfl) (by kernel_rfl)

/-- A list of operations, read. -/
structure OpR10 (w : World) (a : Option Addr) (n c : Nat) (os : List Op10) : Prop where
  row : RK enO10 7 w a n c os
  dat : ∀ o ∈ os, RL bv w o.2.1.2.1 o.2.1.1.data.length o.2.1.2.2 o.2.1.1.data
  wh : ∀ o ∈ os, o.1 < 256 ∧ o.2.1.1.id < 4294967296 ∧ o.2.1.1.dlc < 256

set_option maxRecDepth 100000 in
theorem arg_ops10 {H : Type} {enc : TypeId × Value → H} {W : World} {r : Reach} {b0 : Nat} {v : Value} {d : DataW H} {ps : List MemPlace}
    (hval : Value.okWide Try.prog W r b0 22 v) (h : DataW.Trod enc Try.prog W 0 (fun _ => true) true 22 v d ps) :
    ∃ a n c os, v = .slice a n c ∧ OpR10 W a n c os ∧ (∀ o ∈ os, o.2.1.1.data.length ≤ 9223372036854775807) ∧ n ≤ 9223372036854775807 := by
  obtain ⟨a, n, c, rfl⟩ := okWide_slice Try.underlying22 hval
  obtain ⟨fuel, hf⟩ := h
  rcases open_slice Try.underlying22 hf with ⟨hcs, _⟩ | ⟨ad, len, cap, m, nn, D, plc, hcs, hb, hl, hm, hmm, hd, hcell⟩
  · simp [Value.cells] at hcs
    obtain ⟨rfl, rfl, rfl⟩ := hcs
    exact ⟨none, 0, 0, [], rfl, ⟨RK.nil _ _ _ _ _, by simp, by simp⟩, by simp, by omega⟩
  · simp [Value.cells] at hcs
    obtain ⟨rfl, rfl, rfl⟩ := hcs
    simp only [if_true] at hmm
    subst hmm
    have each : ∀ i, i < m → ∃ q : Op10, (∀ j v, (enO10 q)[j]? = some v → W.cell? (ad.add (i * 7 + j)) = some v) ∧ (q.1 < 256 ∧ q.2.1.1.id < 4294967296 ∧ q.2.1.1.dlc < 256) ∧ RL bv W q.2.1.2.1 q.2.1.1.data.length q.2.1.2.2 q.2.1.1.data ∧ q.2.1.1.data.length ≤ 9223372036854775807 := fun i hi => by
      obtain ⟨cs', h1, h2⟩ := hcell i hi
      rw [show Try.prog.cellsOf 36 = 7 by kernel_rfl] at h1
      obtain ⟨_, hlen, hc⟩ := World.cells?_some h1
      obtain ⟨xs, k, hk, hxy, hle, hxl, hff⟩ := DataW.trod_struct Try.underlying36 h2
      match xs, hxl with
      | [y0, y1, y2], _ =>
      have g0 : DataW.trod enc Try.prog W 0 (fun _ => true) true k 5 ((cs'.drop 0).take (Try.prog.cellsOf 5)) = [y0, y1, y2][0]? := hff 0 _ rfl
      have g1 : DataW.trod enc Try.prog W 0 (fun _ => true) true k 34 ((cs'.drop 1).take (Try.prog.cellsOf 34)) = [y0, y1, y2][1]? := hff 1 _ rfl
      have g2 : DataW.trod enc Try.prog W 0 (fun _ => true) true k 3 ((cs'.drop 6).take (Try.prog.cellsOf 3)) = [y0, y1, y2][2]? := hff 2 _ rfl
      rw [show Try.prog.cellsOf 5 = 1 by kernel_rfl] at g0
      rw [show Try.prog.cellsOf 34 = 5 by kernel_rfl] at g1
      rw [show Try.prog.cellsOf 3 = 1 by kernel_rfl] at g2
      match cs', hlen with
      | [e0, e1, e2, e3, e4, e5, e6], _ =>
      simp at g0 g1 g2
      obtain ⟨x0, k0, _, z0⟩ := DataW.trod_int (show Try.prog.underlying 5 = some (.int .u8) by kernel_rfl) g0
      obtain ⟨p, hp, hp1, hp2, hp3, hp4⟩ := cells_fr g1
      obtain ⟨x2, k2, _, _⟩ := DataW.trod_int (show Try.prog.underlying 3 = some (.int .i64) by kernel_rfl) g2
      simp at k0 k2
      subst k0 k2
      have w0 : 0 ≤ x0 ∧ x0 ≤ 255 := by simpa [Lit.wf, IntKind.min, IntKind.max, IntKind.signed, IntKind.bits] using z0
      obtain ⟨y0', rfl⟩ := Int.eq_ofNat_of_zero_le w0.1
      refine ⟨(y0', (p, x2)), fun j v hj => ?_, ⟨by show y0' < 256; omega, hp1, hp2⟩, hp3, hp4⟩
      have hj7 : j < 7 := by have := (List.getElem?_eq_some_iff.1 hj).1; simpa [enO10] using this
      have e : enO10 (y0', (p, x2)) = [Value.int .u8 (y0' : Int), e1, e2, e3, e4, e5, .int .i64 x2] := by
        have hp' : [e1, e2, e3, e4, e5] = enF p := hp
        simp only [enF, List.cons.injEq] at hp'
        obtain ⟨rfl, rfl, rfl, rfl, rfl, _⟩ := hp'
        rfl
      rw [e] at hj
      have := hc j hj7
      rw [add_add] at this
      rw [this]; exact hj
    have : ∃ q : Nat → Op10, ∀ i, i < m → (∀ j v, (enO10 (q i))[j]? = some v → W.cell? (ad.add (i * 7 + j)) = some v) ∧ ((q i).1 < 256 ∧ (q i).2.1.1.id < 4294967296 ∧ (q i).2.1.1.dlc < 256) ∧ RL bv W (q i).2.1.2.1 (q i).2.1.1.data.length (q i).2.1.2.2 (q i).2.1.1.data ∧ (q i).2.1.1.data.length ≤ 9223372036854775807 := by
      refine ⟨fun i => if hi : i < m then Classical.choose (each i hi) else (0, ((⟨0, false, false, 0, []⟩, (none, 0)), 0)), fun i hi => ?_⟩
      have := Classical.choose_spec (each i hi)
      simpa [hi] using this
    obtain ⟨q, hq⟩ := this
    have hmem : ∀ x ∈ (List.range n).map q, ∃ i, i < m ∧ q i = x := fun x hx => by
      obtain ⟨i, hi, rfl⟩ := List.mem_map.1 hx
      exact ⟨i, by have := List.mem_range.1 hi; omega, rfl⟩
    refine ⟨some ad, n, m, (List.range n).map q, rfl, ⟨⟨by simp, hl, fun hn => ?_⟩, fun x hx => ?_, fun x hx => ?_⟩, fun x hx => ?_, by unfold maxLen at hm; omega⟩
    · have h00 := (hq 0 (by omega)).1 0 _ rfl
      obtain ⟨b, off, spot⟩ := ad
      have hspot : spot = none := by simpa [Addr.add] using World.cell?_spot h00
      subst hspot
      refine ⟨b, off, rfl, ?_, fun i x j v hx hv => ?_⟩
      · have := World.block_lt_of_cell? W _ h00
        simpa [Addr.add] using this
      · have hi : i < n := by
          have := (List.getElem?_eq_some_iff.1 hx).1
          simpa using this
        simp [hi] at hx
        subst hx
        have := (hq i (by omega)).1 j v hv
        rwa [Addr.add_lit] at this
    · obtain ⟨i, hi, rfl⟩ := hmem x hx; exact (hq i hi).2.2.1
    · obtain ⟨i, hi, rfl⟩ := hmem x hx; exact (hq i hi).2.1
    · obtain ⟨i, hi, rfl⟩ := hmem x hx; exact (hq i hi).2.2.2
end Go.Proofs.Ytffbkcjkmhjfnaa
