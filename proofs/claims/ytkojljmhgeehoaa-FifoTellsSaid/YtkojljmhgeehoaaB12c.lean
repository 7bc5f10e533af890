/-
  Contracts: own, compact, Push.
-/
import Derived.Test.YtkojljmhgeehoaaB12b
import Derived.Test.YtkojljmhgeehoaaRst
import Derived.Deep.RegionLaw
namespace Go.Proofs.Ytkojljmhgeehoaa
open Go.RowKit Go.Sort
set_option linter.unusedVariables false

set_option maxRecDepth 100000 in
set_option maxHeartbeats 2000000 in
theorem own_any (w : World) (F : Fr) (t : Int) (fa : Option Addr) (fc : Nat) (h : RL bv w fa F.data.length fc F.data) (hn : F.data.length ≤ 1000000) :
    Calls Try.prog 21 #[.agg (rxV ((F, (fa, fc)), t))] w fun e w' => ∃ da dc, e = .returned (.agg (rxV ((F, (da, dc)), t))) ∧ OL bv 5 w.heap.size w' da F.data.length dc F.data ∧ Below w.heap.size w w' := by
  obtain ⟨w0, hw0, hb, h0, hg⟩ : ∃ w0, Hid (w.alloc (.cells (rxV ((F, (fa, fc)), t)) 36) = w0) ∧ w0.heap[w.heap.size]? = some (.cells (rxV ((F, (fa, fc)), t)) 36 (0, 0)) ∧ RL bv w0 fa F.data.length fc F.data ∧ Below w.heap.size w w0 := ⟨_, rfl, heap_alloc_new w _, h.below (bnew0 w _), bnew0 w _⟩
  obtain ⟨r, hr⟩ : ∃ r, r = w0.heap.size := ⟨_, rfl⟩
  obtain ⟨w1, hw1, b1, r1, h1, g1, z1⟩ : ∃ w1, Hid (w0.alloc (.cells rxZ 36) = w1) ∧ w1.heap[w.heap.size]? = some (.cells (rxV ((F, (fa, fc)), t)) 36 (0, 0)) ∧ w1.heap[r]? = some (.cells rxZ 36 (0, 0)) ∧ RL bv w1 fa F.data.length fc F.data ∧ Below w.heap.size w w1 ∧ w.heap.size < r := ⟨_, rfl, bx_alloc _ hb, by rw [hr]; exact heap_alloc_new w0 _, h0.below (bnew0 w0 _), bnew hg _, by rw [hr]; exact bx_lt hb⟩
  have HR : Hid (w0.heap.size = r) := hr.symm
  have HN := hid hn
  obtain ⟨x0, x1, x2, x3, x4, x5⟩ := bx6 b1
  clear h h0 hb hg hr hn
  go_enter Try.func21, Try.ntmps21
  go_wp2_with (first
    | (rw [hw0.out])
    | (rw [hw1.out, HR.out])
    | (refine wpList_mk (f := bv) tY 0 rfl rfl _ _ rfl (n := F.data.length) _ _ .i64 .i64 rfl rfl rfl rfl (by have := HN.out; omega) (by omega) ?_; intro w2 o2 g2 z2
       have b2 := bx_below b1 g2
       have r2 := bx_below r1 g2
       have h2 := h1.below g2
       have gg2 := bstep g1 g2
       have ne2 : w1.heap.size ≠ w.heap.size := by have := bx_lt b1; omega
       have ne3 : w1.heap.size ≠ r := by have := bx_lt r1; omega
       have lt2 : w.heap.size ≤ w1.heap.size := by have := bx_lt b1; omega
       have lt3 : r ≤ w1.heap.size := Nat.le_of_lt (bx_lt r1)
       have ltr : r < w1.heap.size := bx_lt r1
       clear b1 r1 h1 g1 x0 x1 x2 x3 x4 x5 hw0 hw1 HR
       generalize w1.heap.size = d at *
       obtain ⟨x0, x1, x2, x3, x4, x5⟩ := bx6 b2)
    | (with_reducible refine wpList_cp (f := bv) (n := F.data.length) tY rfl _ _ rfl rfl rfl o2 h2 (fun _ => rfl) ?_; intro w3 o3 g3
       have b3 := (g3.block _ (Nat.lt_of_lt_of_le z1 lt3)).trans b2
       have r3 := (g3.block _ ltr).trans r2
       have gg3 := gg2.trans (g3.mono lt2)
       clear x0 x1 x2 x3 x4 x5 h2 g2 b2 r2 gg2
       obtain ⟨x0, x1, x2, x3, x4, x5⟩ := bx6 b3
       have f3 := bx_thaw b3
       have b4 : (w3.setCell ⟨w.heap.size, 4, none⟩ (.slice (some ⟨d, 0, none⟩) F.data.length F.data.length)).heap[w.heap.size]? = some (.cells (rxV ((F, (some ⟨d, 0, none⟩, F.data.length)), t)) 36 (0, 0)) := heap_setCell_same w3 w.heap.size 4 _ _ _ b3
       have r4 : (w3.setCell ⟨w.heap.size, 4, none⟩ (.slice (some ⟨d, 0, none⟩) F.data.length F.data.length)).heap[r]? = some (.cells rxZ 36 (0, 0)) := (Below.heap_setCell _ _ _ _ (Nat.ne_of_gt z1)).trans r3)
    | (with_reducible refine wpList_loadR rowX rfl _ rfl _ rfl b4 rfl ?_)
    | (with_reducible refine wpList_storeR rowX rfl _ _ rfl _ _ rfl rfl r4 rfl rfl (rx_ones _) ?_))
  have hS : ∀ k, some (⟨d, 0, none⟩ : Addr) = some ⟨k, 0, none⟩ → ((w3.setCell ⟨w.heap.size, 4, none⟩ (.slice (some ⟨d, 0, none⟩) F.data.length F.data.length)).setRow r (rxV ((F, (some ⟨d, 0, none⟩, F.data.length)), t))).heap[k]? = w3.heap[k]? := fun k hk => by
    cases hk
    rw [setRow_other _ _ _ _ ne3, Below.heap_setCell _ _ _ _ ne2]
  exact bodyPost_ret (v := .agg (rxV ((F, (some ⟨d, 0, none⟩, F.data.length)), t))) (results_row rowX rfl _ _ _ rfl (setRow_heap _ _ _ _ _ _ r4) rfl) rfl ⟨_, _, rfl, (o3.kept hS).mono lt2, below_setRow (gg3.setCell (Nat.le_refl _) _) (Nat.le_of_lt z1) _⟩

theorem put_none12 (a : Act) (v : Value) : a.put none v = a := rfl
theorem rxZ_cells : (Value.agg rxZ).cells.toList = enX x0X := rfl

section
variable {B : Nat} {w w1 : World} {g s : Nat} {m : Fm} {a : Option Addr} {c : Nat} {st : List Rx} {S : Nat → Prop}

/-- The frames' cells, read from the head of where they lie. -/
theorem ffSrc (h : FfO B w g s m a c st S) : 0 < m.fs.length → ∃ ad, a = some ad ∧ ∀ j v, (m.fs.flatMap enX)[j]? = some v → w.cell? (ad.add j) = some v := fun hn => by
  obtain ⟨b, off, rfl, hb, hc⟩ := h.rk.cell hn
  refine ⟨_, rfl, fun j u hu => ?_⟩
  obtain ⟨i', j', y, h1, h2, rfl⟩ := flat_back enX_k _ j u hu
  rw [Addr.add_lit]
  exact hc i' y j' u h1 h2

theorem ffThere (h : FfO B w g s m a c st S) (p : Nat) (hp : p < 2 * m.room * 6) : (w.cell? ⟨s, p, none⟩).isSome = true ∧ w.frozen? ⟨s, p, none⟩ = false := by
  rcases h.row.ex with ⟨h0, _⟩ | ⟨g', cur, h1, h2, h3, h4, h5, h6⟩
  · cases h0
  · cases h1
    refine ⟨?_, frozen_of_row w s p _ _ h3⟩
    rw [cell_of_row w s p _ _ _ h3, Array.getElem?_eq_getElem (by omega)]; rfl

theorem compact_fin {W2 : World} (h : FfO B w g s m a c st S) (hc : m.fs.length = c) (hl : m.fs.length < m.room) (k2 : Wr s w W2)
    (o2 : OK enX 6 36 B W2 (some ⟨s, 0, none⟩) (2 * m.room) (2 * m.room) (m.fs ++ List.replicate (2 * m.room - m.fs.length) x0X)) :
    FfO B (W2.setCell ⟨g, 3, none⟩ (.slice (some ⟨s, 0, none⟩) m.fs.length (2 * m.room))).drew g s m (some ⟨s, 0, none⟩) (2 * m.room) (m.fs ++ List.replicate (2 * m.room - m.fs.length) x0X) S ∧
    Ch (fun b => b = g ∨ b = s) w (W2.setCell ⟨g, 3, none⟩ (.slice (some ⟨s, 0, none⟩) m.fs.length (2 * m.room))).drew := by
  have b2 := (k2.block g h.lt (Ne.symm h.ng)).trans h.box
  have kc : Ch (fun b => b = g ∨ b = s) w (W2.setCell ⟨g, 3, none⟩ (.slice (some ⟨s, 0, none⟩) m.fs.length (2 * m.room))).drew :=
    (Ch.setCell (S := fun b => b = g ∨ b = s) ⟨k2.os, k2.tape, k2.output, k2.size, fun b hb hn => k2.block b hb (fun e => hn (.inr e))⟩ (p := ⟨g, 3, none⟩) (.inl (.inl rfl)) _).drew
  refine ⟨⟨?_, ?_, fun _ => ?_, Nat.le_refl _, by omega, fun i x hx => ?_, fun p hp => (h.dat p hp).ch kc (fun q hq e => ?_), h.hB, h.sg, h.ss, h.ng, h.sd, h.sB, h.nd, h.pw, h.r1, h.rm, h.le, fun k hk => Nat.lt_of_lt_of_le (h.sL k hk) kc.size⟩, kc⟩
  · show (W2.setCell ⟨g, 3, none⟩ _).heap[g]? = _
    rw [heap_setCell_same W2 g 3 _ _ _ b2]
    rfl
  · exact OK.kept (w := W2) o2 fun b hb => by cases hb; exact Below.heap_setCell _ _ _ _ h.ng
  · simp
  · rw [Nat.sub_self, Nat.zero_add, List.getElem?_append_left (List.getElem?_eq_some_iff.1 hx).1]; exact hx
  · rcases e with e | e
    · exact (h.nd p hp).1 q hq e
    · exact (h.nd p hp).2 q hq e

set_option maxRecDepth 100000 in
set_option maxHeartbeats 4000000 in
theorem compact_any (h : FfO B w g s m a c st S) (hc : m.fs.length = c) (hl : m.fs.length < m.room) :
    Calls Try.prog 20 #[.pointer (some ⟨g, 0, none⟩)] w fun e w' => e = .returned (.tuple #[]) ∧ FfO B w' g s m (some ⟨s, 0, none⟩) (2 * m.room) (m.fs ++ List.replicate (2 * m.room - c) x0X) S ∧ Ch (fun b => b = g ∨ b = s) w w' := by
  obtain ⟨n, hn⟩ : ∃ n, n = m.fs.length := ⟨_, rfl⟩
  obtain ⟨R, hR⟩ : ∃ R, R = 2 * m.room := ⟨_, rfl⟩
  obtain ⟨cs, hcs⟩ : ∃ cs, cs = m.fs.flatMap enX := ⟨_, rfl⟩
  have q2 : w.cell? ⟨g, 2, none⟩ = some (.slice (some ⟨s, 0, none⟩) R R) := by rw [hR]; exact (bx5 h.box).2.2.1
  have q3 : w.cell? ⟨g, 3, none⟩ = some (.slice a n c) := by rw [hn]; exact (bx5 h.box).2.2.2.1
  have hz := h.thaw
  have hcl : Hid (cs.length = n * 6) := by show _ = _; rw [hcs, flat_len enX_k, hn]
  have hsrc : Hid (0 < n → ∃ ad, a = some ad ∧ ∀ j v, cs[j]? = some v → w.drew.cell? (ad.add j) = some v) := fun hp => by
    obtain ⟨ad, e1, e2⟩ := ffSrc h (by omega)
    exact ⟨ad, e1, fun j v hv => e2 j v (by rw [← hcs]; exact hv)⟩
  have hth : Hid (∀ j, j < cs.length → (w.drew.cell? ⟨s, 0 + j, none⟩).isSome = true ∧ w.drew.frozen? ⟨s, 0 + j, none⟩ = false) := fun j hj => by
    have := ffThere h (0 + j) (by have := hcl.out; have := h.rm; omega)
    exact this
  have hone : Hid (∀ v ∈ cs, v.oneCell' = true) := by rw [hcs]; exact flat_one enX_k _
  have hnR : n < R := by omega
  have hn0 : n ≤ R := by omega
  have hRm : R ≤ 512 := by have := h.rm; omega
  obtain ⟨W1, hW1⟩ : ∃ W1, W1 = w.drew.setCells s 0 cs := ⟨_, rfl⟩
  have HW1 := hid hW1
  have k1 : Wr s w W1 := by rw [hW1]; exact (Wr.refl s w).drew.trans (wr_setCells s _ _ _)
  have o1 : OK enX 6 36 B W1 (some ⟨s, 0, none⟩) R R (m.fs ++ st.drop n) := by
    have hd : OK enX 6 36 B w.drew (some ⟨s, 0, none⟩) (2 * m.room) (2 * m.room) st := h.row.kept fun _ _ => rfl
    have := hd.puts enX_k 0 m.fs (by rw [Nat.zero_add, ← hn, ← hR]; exact hn0)
    rw [Nat.zero_mul, List.take_zero, List.nil_append, Nat.zero_add, ← hcs, ← hW1, ← hR, ← hn] at this
    exact this
  have b1 := (k1.block g h.lt (Ne.symm h.ng)).trans h.box
  have p2 : W1.cell? ⟨g, 2, none⟩ = some (.slice (some ⟨s, 0, none⟩) R R) := by rw [hR]; exact (bx5 b1).2.2.1
  have hsl : Go.sliced (some ⟨s, 0, none⟩) n R R 6 = .slice (some ⟨s, n * 6, none⟩) (R - n) (R - n) := by
    show Value.slice (if R = n then _ else _) _ _ = _
    rw [if_neg (by omega)]; simp [Addr.add_lit]
  have t1 : Hid (∀ j, j < (R - n) * 6 → (W1.cell? ⟨s, n * 6 + j, none⟩).isSome = true ∧ W1.frozen? ⟨s, n * 6 + j, none⟩ = false) := fun j hj => by
    rcases o1.ex with ⟨h0, _⟩ | ⟨g', cur, h1, h2, h3, h4, h5, h6⟩
    · cases h0
    · cases h1
      refine ⟨?_, frozen_of_row W1 s _ _ _ h3⟩
      rw [cell_of_row W1 s _ _ _ _ h3, Array.getElem?_eq_getElem (by omega)]; rfl
  obtain ⟨W2, hW2⟩ : ∃ W2, W2 = W1.setCells s (n * 6) ((List.replicate (R - n) x0X).flatMap enX) := ⟨_, rfl⟩
  have HW2 := hid hW2
  have k2 : Wr s w W2 := by rw [hW2]; exact k1.trans (wr_setCells s _ _ _)
  have o2 : OK enX 6 36 B W2 (some ⟨s, 0, none⟩) R R (m.fs ++ List.replicate (R - n) x0X) := by
    have := o1.puts enX_k n (List.replicate (R - n) x0X) (by rw [List.length_replicate]; omega)
    rw [← hW2, List.length_replicate, List.take_left' hn.symm, List.drop_eq_nil_of_le (by rw [o1.len]; omega), List.append_nil] at this
    exact this
  have b2 := (k2.block g h.lt (Ne.symm h.ng)).trans h.box
  have p3 : W2.cell? ⟨g, 2, none⟩ = some (.slice (some ⟨s, 0, none⟩) R R) := by rw [hR]; exact (bx5 b2).2.2.1
  have p4 : W2.cell? ⟨g, 3, none⟩ = some (.slice a n c) := by rw [hn]; exact (bx5 b2).2.2.2.1
  have f3 := bx_thaw b2
  have hR0 : ¬ R = 0 := by omega
  have FIN : Hid (FfO B (W2.setCell ⟨g, 3, none⟩ (.slice (some ⟨s, 0, none⟩) n R)).drew g s m (some ⟨s, 0, none⟩) (2 * m.room) (m.fs ++ List.replicate (2 * m.room - c) x0X) S ∧
      Ch (fun b => b = g ∨ b = s) w (W2.setCell ⟨g, 3, none⟩ (.slice (some ⟨s, 0, none⟩) n R)).drew) := by
    have := compact_fin h hc hl k2 (by rw [← hn, ← hR]; exact o2)
    rw [← hR, ← hn] at this
    rw [← hR, ← hc, ← hn]; exact this
  have HC := hid hc; have HL := hid hl; have HNN := hid hn; have HRR := hid hR
  clear hc hl hn hR hcs hW1 hW2 k1 o1 b1 k2 o2 b2
  go_enter Try.func20, Try.ntmps20
  go_wp2_with fail
  go_region_law (refine step_copyK elX rfl _ _ rfl s 0 R R rfl rfl cs hn0 hcl.out hsrc.out (fun j hj => (hth.out j hj).1) (fun j hj => (hth.out j hj).2) hone.out ?_; rw [← HW1.out])
  all_goals
    go_wp2_with (first
      | (with_reducible refine wpList_cutFromS elX rfl _ _ rfl .i64 n n rfl rfl rfl hn0 hsl ?_)
      | (with_reducible refine wpList_clearK enX_k elX x0X rxZ_cells rfl _ rfl s (n * 6) rfl (fun j hj => (t1.out j hj).1) (fun j hj => (t1.out j hj).2) ?_; rw [← HW2.out]))
    rw [put_none12]
    go_region
  all_goals exact bodyPost_end (v := .tuple #[]) (by simp [results, Try.results20, go_sem]) rfl ⟨rfl, FIN.out⟩
end
end Go.Proofs.Ytkojljmhgeehoaa
