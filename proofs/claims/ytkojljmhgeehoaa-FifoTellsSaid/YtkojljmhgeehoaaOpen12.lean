/-
  A received frame that came in as an argument.
-/
import Derived.Test.YtkojljmhgeehoaaOpenFive
import Derived.Test.YtkojljmhgeehoaaB12
import Derived.Lib.SmallJoins
namespace Go.Proofs.Ytkojljmhgeehoaa
open Go.RowKit Go.ChangeShapes Go.WideShapes Go.ChangeAt Go.Deep
set_option linter.unusedVariables false

section
variable {H : Type} {enc : TypeId × Value → H} {P : Program} {W : World}

theorem cell_bytes12 {T e : TypeId} {v : Value} {n0 : Nat} {x : DataW H × List MemPlace} (ht : P.underlying T = some (.slice e)) (he : P.underlying e = some (.int .u8)) (hc : P.cellsOf e = 1)
    (hf : DataW.trod enc P W 0 (fun _ => true) true n0 T [v] = some x) : ∃ a n c l, v = .slice a n c ∧ RL bv W a n c l ∧ n ≤ 9223372036854775807 := by
  rcases open_ints ht he hc hf with ⟨hcs, _⟩ | ⟨ad, len, cap, zs, hcs, _, hl, hm, hz, _, hcell, hwz⟩
  · simp at hcs
    subst hcs
    exact ⟨none, 0, 0, [], rfl, RL.nil _ _ _ _, by omega⟩
  · simp at hcs
    subst hcs
    simp only [if_true] at hz
    refine ⟨some ad, len, cap, (zs.take len).map (fun z => UInt8.ofNat z.toNat), rfl, ⟨by simp; omega, hl, fun hn => ?_⟩, by unfold maxLen at hm; omega⟩
    obtain ⟨b, off, spot⟩ := ad
    have hspot : spot = none := by simpa [Addr.add] using World.cell?_spot (hcell 0 (by omega))
    subst hspot
    refine ⟨b, off, rfl, ?_, fun i x hx => ?_⟩
    · have := World.block_lt_of_cell? W _ (hcell 0 (by omega))
      simpa [Addr.add] using this
    · have hi : i < len := by
        have := (List.getElem?_eq_some_iff.1 hx).1
        simp at this
        omega
      have hiz : i < zs.length := by omega
      have := hcell i (by omega)
      rw [Addr.add_lit] at this
      rw [this]
      simp [hi, hiz] at hx
      subst hx
      have hw := hwz (zs[i]) (List.getElem_mem hiz)
      simp only [Lit.wf, IntKind.min, IntKind.max, IntKind.signed, IntKind.bits] at hw
      simp at hw
      simp [bv, List.getD, hiz]
      omega

/-- The five cells of a frame, and its time, read. -/
theorem cells_rx {n0 : Nat} {cs : List Value} {x : DataW H × List MemPlace} (h : DataW.trod enc Try.prog W 0 (fun _ => true) true n0 36 cs = some x) :
    ∃ p : Rx, cs = enX p ∧ p.1.1.id < 4294967296 ∧ p.1.1.dlc < 256 ∧ RL bv W p.1.2.1 p.1.1.data.length p.1.2.2 p.1.1.data ∧ p.1.1.data.length ≤ 9223372036854775807 := by
  obtain ⟨xs, n, hn, hx, hlen, hl, hff⟩ := DataW.trod_struct Try.underlying36 h
  have hc6 : cs.length = 6 := hlen
  match cs, hc6 with
  | [c0, c1, c2, c3, c4, c5], _ =>
  match xs, hl with
  | [y0, y1], _ =>
  have g0 : DataW.trod enc Try.prog W 0 (fun _ => true) true n 34 (([c0, c1, c2, c3, c4, c5].drop 0).take (Try.prog.cellsOf 34)) = [y0, y1][0]? := hff 0 _ rfl
  have g1 : DataW.trod enc Try.prog W 0 (fun _ => true) true n 3 (([c0, c1, c2, c3, c4, c5].drop 5).take (Try.prog.cellsOf 3)) = [y0, y1][1]? := hff 1 _ rfl
  rw [show Try.prog.cellsOf 34 = 5 by kernel_rfl] at g0
  rw [show Try.prog.cellsOf 3 = 1 by kernel_rfl] at g1
  simp at g0 g1
  obtain ⟨zs, n', hn', hx', hlen', hl', hgg⟩ := DataW.trod_struct Try.underlying34 g0
  match zs, hl' with
  | [z0, z1, z2, z3, z4], _ =>
  have e0 : DataW.trod enc Try.prog W 0 (fun _ => true) true n' 31 (([c0, c1, c2, c3, c4].drop 0).take (Try.prog.cellsOf 31)) = [z0, z1, z2, z3, z4][0]? := hgg 0 _ rfl
  have e1 : DataW.trod enc Try.prog W 0 (fun _ => true) true n' 4 (([c0, c1, c2, c3, c4].drop 1).take (Try.prog.cellsOf 4)) = [z0, z1, z2, z3, z4][1]? := hgg 1 _ rfl
  have e2 : DataW.trod enc Try.prog W 0 (fun _ => true) true n' 4 (([c0, c1, c2, c3, c4].drop 2).take (Try.prog.cellsOf 4)) = [z0, z1, z2, z3, z4][2]? := hgg 2 _ rfl
  have e3 : DataW.trod enc Try.prog W 0 (fun _ => true) true n' 5 (([c0, c1, c2, c3, c4].drop 3).take (Try.prog.cellsOf 5)) = [z0, z1, z2, z3, z4][3]? := hgg 3 _ rfl
  have e4 : DataW.trod enc Try.prog W 0 (fun _ => true) true n' 32 (([c0, c1, c2, c3, c4].drop 4).take (Try.prog.cellsOf 32)) = [z0, z1, z2, z3, z4][4]? := hgg 4 _ rfl
  rw [show Try.prog.cellsOf 31 = 1 by kernel_rfl] at e0
  rw [show Try.prog.cellsOf 4 = 1 by kernel_rfl] at e1 e2
  rw [show Try.prog.cellsOf 5 = 1 by kernel_rfl] at e3
  rw [show Try.prog.cellsOf 32 = 1 by kernel_rfl] at e4
  simp at e0 e1 e2 e3 e4
  obtain ⟨x0, k0, _, q0⟩ := DataW.trod_int (show Try.prog.underlying 31 = some (.int .u32) by kernel_rfl) e0
  obtain ⟨x1, k1, _⟩ := DataW.trod_bool (show Try.prog.underlying 4 = some .bool by kernel_rfl) e1
  obtain ⟨x2, k2, _⟩ := DataW.trod_bool (show Try.prog.underlying 4 = some .bool by kernel_rfl) e2
  obtain ⟨x3, k3, _, q3⟩ := DataW.trod_int (show Try.prog.underlying 5 = some (.int .u8) by kernel_rfl) e3
  obtain ⟨a, m, c, l, rfl, hr, hm⟩ := cell_bytes12 tY.und (show Try.prog.underlying 5 = some (.int .u8) by kernel_rfl) tY.size e4
  obtain ⟨x5, k5, _, q5⟩ := DataW.trod_int (show Try.prog.underlying 3 = some (.int .i64) by kernel_rfl) g1
  simp at k0 k1 k2 k3 k5
  subst k0 k1 k2 k3 k5
  have w0 : 0 ≤ x0 ∧ x0 ≤ 4294967295 := by simpa [Lit.wf, IntKind.min, IntKind.max, IntKind.signed, IntKind.bits] using q0
  have w3 : 0 ≤ x3 ∧ x3 ≤ 255 := by simpa [Lit.wf, IntKind.min, IntKind.max, IntKind.signed, IntKind.bits] using q3
  obtain ⟨y0', rfl⟩ := Int.eq_ofNat_of_zero_le w0.1
  obtain ⟨y3', rfl⟩ := Int.eq_ofNat_of_zero_le w3.1
  obtain rfl : l.length = m := hr.len
  exact ⟨((⟨y0', x1, x2, y3', l⟩, (a, c)), x5), rfl, by show y0' < _; omega, by show y3' < _; omega, hr, hm⟩

theorem arg_rx {r : Reach} {b0 : Nat} {v : Value} {d : DataW H} {p : List MemPlace} (hv : Value.okWide Try.prog W r b0 36 v) (h : DataW.Trod enc Try.prog W 0 (fun _ => true) true 36 v d p) :
    ∃ p : Rx, v = .agg (rxV p) ∧ p.1.1.id < 4294967296 ∧ p.1.1.dlc < 256 ∧ RL bv W p.1.2.1 p.1.1.data.length p.1.2.2 p.1.1.data ∧ p.1.1.data.length ≤ 9223372036854775807 := by
  obtain ⟨cs, rfl, hsz⟩ := okWide_struct Try.underlying36 hv
  obtain ⟨fuel, hf⟩ := h
  obtain ⟨p, hp, h1, h2, h3, h4⟩ := cells_rx hf
  refine ⟨p, ?_, h1, h2, h3, h4⟩
  have : cs.toList = enX p := hp
  rw [← Array.toArray_toList (xs := cs), this]
  rfl
end
end Go.Proofs.Ytkojljmhgeehoaa
