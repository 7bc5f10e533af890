/-
  A slice of operations on a wheel that came in as an argument.
-/
import Derived.Test.YtpnmnffefdjegaaTri
import Derived.Test.YtpnmnffefdjegaaRw
import Derived.Test.YtpnmnffefdjegaaBaseK
namespace Go.Proofs.Ytpnmnffefdjegaa
open Go.RowKit Go.ChangeShapes Go.WideShapes Go.ChangeAt Go.Deep
set_option linter.unusedVariables false

/-- An operation: what is done, a number, how many ticks. -/
structure Op13 where
  k : Nat
  id : Int
  af : Int
abbrev opV13 (o : Op13) : Array Value := #[.int .u8 (o.k : Int), .int .i64 o.id, .int .i64 o.af]
theorem op13_ones (p : Op13) : (opV13 p).all (·.oneCell') = true := by kernel_rfl
def enO13 (p : Op13) : List Value := (opV13 p).toList
theorem enO13_k : EnK enO13 3 := ⟨fun _ => rfl, fun p v hv => (Array.all_eq_true_iff_forall_mem.1 (op13_ones p)) v (by simpa [enO13] using hv)⟩
theorem elO13 : ElK Try.prog 22 32 3 (.agg #[.int .u8 0, .int .i64 0, .int .i64 0]) 24 := ⟨by kernel_rfl, by kernel_rfl, by kernel_rfl, by kernel_rfl, rfl, by omega⟩
theorem rowO13 : RowT Try.prog 32 3 := rowT_of (by kernel_rfl) (by kernel_rfl)
/-- It is a byte and two numbers of 64 bits. -/
structure OkO (o : Op13) : Prop where
  k : o.k < 256
  id : (Lit.int .i64 o.id).wf = true
  af : (Lit.int .i64 o.af).wf = true

set_option maxRecDepth 100000 in
theorem arg_ops13 {H : Type} {enc : TypeId × Value → H} {W : World} {r : Reach} {b0 : Nat} {v : Value} {d : DataW H} {ps : List MemPlace}
    (hval : Value.okWide Try.prog W r b0 22 v) (h : DataW.Trod enc Try.prog W 0 (fun _ => true) true 22 v d ps) :
    ∃ a n c l, v = .slice a n c ∧ RK enO13 3 W a n c l ∧ (∀ x ∈ l, OkO x) ∧ n ≤ 9223372036854775807 := by
  obtain ⟨a, n, c, rfl⟩ := okWide_slice Try.underlying22 hval
  obtain ⟨fuel, hf⟩ := h
  rcases open_slice_triples Try.underlying22 Try.underlying32 elO13.size rfl rfl rfl (by kernel_rfl) (by kernel_rfl) (by kernel_rfl) hf with hcs | ⟨ad, len, cap, m, hcs, hl, hm, hmm, hcell⟩
  · simp [Value.cells] at hcs
    obtain ⟨rfl, rfl, rfl⟩ := hcs
    exact ⟨none, 0, 0, [], rfl, RK.nil _ _ _ _ _, by simp, by omega⟩
  · simp [Value.cells] at hcs
    obtain ⟨rfl, rfl, rfl⟩ := hcs
    simp only [if_true] at hmm
    subst hmm
    have each : ∀ i, i < m → ∃ q : Op13, W.cell? (ad.add (i * 3)) = some (.int .u8 (q.k : Int)) ∧ W.cell? (ad.add (i * 3 + 1)) = some (.int .i64 q.id) ∧ W.cell? (ad.add (i * 3 + 2)) = some (.int .i64 q.af) ∧ OkO q := fun i hi => by
      obtain ⟨nn, v0, v1, v2, y0, y1, y2, h0, h1, h2, t0, t1, t2⟩ := hcell i hi
      obtain ⟨x0, k0, _, z0⟩ := DataW.trod_int (show Try.prog.underlying 5 = some (.int .u8) by kernel_rfl) t0
      obtain ⟨x1, k1, _, z1⟩ := DataW.trod_int (show Try.prog.underlying 3 = some (.int .i64) by kernel_rfl) t1
      obtain ⟨x2, k2, _, z2⟩ := DataW.trod_int (show Try.prog.underlying 3 = some (.int .i64) by kernel_rfl) t2
      simp at k0 k1 k2
      rw [k0] at h0
      rw [k1] at h1
      rw [k2] at h2
      have w0 : 0 ≤ x0 ∧ x0 ≤ 255 := by simpa [Lit.wf, IntKind.min, IntKind.max, IntKind.signed, IntKind.bits] using z0
      obtain ⟨y0, rfl⟩ := Int.eq_ofNat_of_zero_le w0.1
      exact ⟨⟨y0, x1, x2⟩, h0, h1, h2, by simp only; omega, z1, z2⟩
    have : ∃ q : Nat → Op13, ∀ i, i < m → W.cell? (ad.add (i * 3)) = some (.int .u8 ((q i).k : Int)) ∧ W.cell? (ad.add (i * 3 + 1)) = some (.int .i64 (q i).id) ∧ W.cell? (ad.add (i * 3 + 2)) = some (.int .i64 (q i).af) ∧ OkO (q i) := by
      refine ⟨fun i => if hi : i < m then Classical.choose (each i hi) else ⟨0, 0, 0⟩, fun i hi => ?_⟩
      have := Classical.choose_spec (each i hi)
      simpa [hi] using this
    obtain ⟨q, hq⟩ := this
    refine ⟨some ad, n, m, (List.range n).map q, rfl, ⟨by simp, hl, fun hn => ?_⟩, fun x hx => ?_, by unfold maxLen at hm; omega⟩
    · obtain ⟨b, off, spot⟩ := ad
      have hspot : spot = none := by simpa [Addr.add] using World.cell?_spot (hq 0 (by omega)).1
      subst hspot
      refine ⟨b, off, rfl, ?_, fun i x j v hx hv => ?_⟩
      · have := World.block_lt_of_cell? W _ (hq 0 (by omega)).1
        simpa [Addr.add] using this
      · have hi : i < n := by
          have := (List.getElem?_eq_some_iff.1 hx).1
          simpa using this
        obtain ⟨h0, h1, h2, _⟩ := hq i (by omega)
        rw [Addr.add_lit] at h0 h1 h2
        simp [hi] at hx
        subst hx
        match j, hv with
        | 0, hv => simp [enO13] at hv; subst hv; simpa using h0
        | 1, hv => simp [enO13] at hv; subst hv; exact h1
        | 2, hv => simp [enO13] at hv; subst hv; exact h2
        | j + 3, hv => simp [enO13] at hv
    · obtain ⟨i, hi, rfl⟩ := List.mem_map.1 hx
      exact (hq i (by have := List.mem_range.1 hi; omega)).2.2.2
end Go.Proofs.Ytpnmnffefdjegaa
