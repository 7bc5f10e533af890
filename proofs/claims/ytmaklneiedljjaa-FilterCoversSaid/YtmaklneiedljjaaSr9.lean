/-
  Contracts of the library's Sort, Clone, Compact at numbers of 32 bits, as they stand in this program.
-/
import Derived.Test.YtmaklneiedljjaaSr8
import Derived.Test.YtmaklneiedljjaaM11b
import Derived.Shelf.SlicesE.Compact
namespace Go.Proofs.Ytmaklneiedljjaa
open Go.RowKit Go.Sort Go.Lib Go.Shelf
set_option linter.unusedVariables false

def Try.comp_ren : Go.Shelf.Ren := ⟨fun | 43 => 34 | n => n, fun | 0 => 0 | 3 => 3 | 4 => 4 | 22 => 26 | 23 => 23 | n => n, fun | n => n⟩
theorem Try.comp_lay : Go.Proofs.SlLaysE.n43 Try.prog Try.comp_ren := {
  mixed := by kernel_rfl,
  f43 := ⟨Try.f34.name, by decide, Try.func34.trans (congrArg some (by kernel_rfl))⟩,
  t0 := Try.underlying0, a0 := Try.isAgg0, z0 := Try.sizeOf0, v0 := Try.zeroValue0,
  t3 := Try.underlying3, a3 := Try.isAgg3, z3 := Try.sizeOf3, v3 := Try.zeroValue3,
  t4 := Try.underlying4, a4 := Try.isAgg4, z4 := Try.sizeOf4, v4 := Try.zeroValue4,
  t22 := Try.underlying26, a22 := Try.isAgg26, z22 := Try.sizeOf26, v22 := Try.zeroValue26,
  a23 := Try.isAgg23, z23 := Try.sizeOf23 }

section
variable {off g c N : Nat} {w0 w w' : World} {d d' : Array Nat}

theorem Sr.holds (h : Sr off g c N w0 w d) : Holds wv w g off d := fun j hj => by
  have hj' : j < N := by rw [← h.size]; exact hj
  rw [h.zero, Nat.zero_add]
  exact h.row.cellAt (h.get hj')

/-- The world with the row's cells written anew. -/
theorem Sr.putRow (h : Sr off g c N w0 w d) (q : Nat) (hs : d'.size = N) : Sr off g c N w0 (Sort.putRow wv (Sort.ahead w q) g off d') d' := by
  have hz := h.zero
  subst hz
  rcases h.row.ex with ⟨h0, _⟩ | ⟨g', cur, hg, hBg, hh, hcs⟩
  · cases h0
  simp only [Option.some.injEq, Addr.mk.injEq, and_true] at hg
  subst hg
  have hcap := h.row.cap
  have hmax : c ≤ maxLen := by
    rcases h.row.own.2 with ⟨h', _⟩ | ⟨_, _, _, h', _, _, _, hm, _⟩
    · simp at h'
    · simp only [Value.slice.injEq, true_and] at h'
      obtain ⟨_, rfl⟩ := h'
      exact hm
  have hb : (Sort.putRow wv (Sort.ahead w q) g 0 d').heap[g]? = some (.cells (putCells wv 0 d' cur) 23 (0, 0)) := by
    unfold Sort.putRow mapBlock
    simp only [heap_ahead, Array.getElem?_modify, if_true, hh]
    rfl
  have hps : (putCells wv 0 d' cur).size = c := by simp [putCells, hcs]
  refine ⟨rfl, hs, ⟨by simpa using hs, hcap, by rw [List.length_map]; simpa using hs, .inr ⟨g, c, _, rfl, hBg, hb, hcap, hmax, by simpa using hps, ?_⟩⟩, ?_⟩
  · apply List.ext_getElem?
    intro i
    rw [Nat.mul_one, List.getElem?_take, Array.getElem?_toList, List.getElem?_map]
    by_cases hi : i < N
    · have hi' : i < d'.size := by rw [hs]; exact hi
      have hic : i < cur.size := by omega
      rw [if_pos hi, Array.getElem?_toList, Array.getElem?_eq_getElem hi']
      simp only [putCells, Array.getElem?_mapIdx, Array.getElem?_eq_getElem hic, Option.map_some]
      rw [if_pos ⟨Nat.zero_le _, by omega⟩]
      simp [hi']
    · rw [if_neg hi, List.getElem?_eq_none (by simp [hs]; omega)]; rfl
  · refine ⟨h.wr.os, h.wr.tape, h.wr.output, by rw [size_putRow]; exact h.wr.size, fun k hk hkg => ?_⟩
    rw [← h.wr.block k hk hkg]
    unfold Sort.putRow mapBlock
    simp only [heap_ahead, Array.getElem?_modify, if_neg (fun e => hkg (Eq.symm e))]
end

theorem one_wv : OneCell wv := fun _ => rfl

theorem eq_wv : EqlAt Try.prog 23 wv (fun x y => decide (x = y)) :=
  ⟨fun x y w => by have := (EqlAt.intD Try.prog 23 .u32).1 (x : Int) (y : Int) w; simpa [wv, Int.natCast_inj] using this, fun op a b x y w => (EqlAt.intD Try.prog 23 .u32).2 op a b (x : Int) (y : Int) w⟩
theorem ne_wv : NeqAt Try.prog 23 wv (fun x y => decide (x = y)) :=
  ⟨fun x y w => by have := (NeqAt.intD Try.prog 23 .u32).1 (x : Int) (y : Int) w; simpa [wv, Int.natCast_inj] using this, fun op a b x y w => (NeqAt.intD Try.prog 23 .u32).2 op a b (x : Int) (y : Int) w⟩

theorem compact_any (off g c N : Nat) (w : World) (d : Array Nat) (h : Sr off g c N w w d) (hN : N ≤ 1000000) :
    Calls Try.prog 34 #[.slice (some ⟨g, off, none⟩) N c] w fun e w' => e = .returned (.slice (some ⟨g, off, none⟩) (compactUpTo d N).length c) ∧ RL wv w' (some ⟨g, off, none⟩) (compactUpTo d N).length c (compactUpTo d N) ∧ Wr g w w' := by
  have hs := h.size
  have hcap := h.row.cap
  have hlen : (compactUpTo d N).length ≤ N := by
    unfold compactUpTo
    rw [List.length_map]
    exact Nat.le_trans (List.length_filter_le _ _) (by simp)
  have k := AnyE.slices_Compact Try.comp_lay wv one_wv eq_wv ne_wv 0 Try.zeroValue23 g off c d w h.holds (by omega) (by omega)
  rw [hs] at k
  refine k.mono ?_
  rintro e w' ⟨rfl, q, rfl⟩
  have h2 := h.putRow (d' := (compactUpTo d N ++ List.replicate (N - (compactUpTo d N).length) 0).toArray) q (by simp; omega)
  refine ⟨rfl, ⟨rfl, by omega, fun hp => ⟨g, off, rfl, h2.lt, fun i x hx => ?_⟩⟩, h2.wr⟩
  have hi : i < (compactUpTo d N).length := (List.getElem?_eq_some_iff.1 hx).1
  obtain ⟨G, HG, hc, _⟩ := h2.fam
  rw [hc i (by omega), HG.out]
  have : (compactUpTo d N ++ List.replicate (N - (compactUpTo d N).length) 0).toArray[i]! = x := by
    have hx2 := List.getElem?_eq_some_iff.1 hx
    obtain ⟨_, hx3⟩ := hx2
    simp [hi, List.getElem?_append]
    exact hx3
  rw [this]; rfl

/-- slices.Sort. -/
theorem sort_any (off g c N : Nat) (w : World) (d : Array Nat) (h : Sr off g c N w w d) (hN : N ≤ 1000000) :
    Calls Try.prog 33 #[.slice (some ⟨g, off, none⟩) N c] w fun e w' => ∃ d', e = .returned (.tuple #[]) ∧ PermIn 0 N d d' ∧ SortedIn ltN 0 N d' ∧ Sr off g c N w w' d' := by
  have hL := hid (fun w => bitsLen_any N hN w)
  have hk : bitsLen N ≤ 20 := (bitsLen_le_iff N 20).2 (by omega)
  have kQ := pdq_any off g c N hN N 0 N (bitsLen N) w d (by omega) (Nat.zero_le _) (Nat.le_refl _) (by omega) h (.inl rfl)
  have kQ : Calls Try.prog 35 #[.slice (some ⟨g, off, none⟩) N c, .int .i64 0, .int .i64 N, .int .i64 (bitsLen N : Nat)] w fun e w' => ∃ d', e = .returned (.tuple #[]) ∧ PermIn 0 N d d' ∧ SortedIn ltN 0 N d' ∧ Sr off g c N w w' d' := kQ
  have KQ := hid kQ
  clear kQ h
  generalize bitsLen N = bl at *
  go_enter Try.func33, Try.ntmps33
  go_wp2_with (first
    | (go_at_call 36; (with_reducible refine (hL.out _).mono ?_); rintro e w' ⟨rfl, rfl⟩)
    | (go_at_call 35; (with_reducible refine KQ.out.mono ?_); rintro e w6 ⟨d6, rfl, p6, o6, s6⟩; have S6 := hid s6; have P6 := hid p6; have O6 := hid o6; clear s6 p6 o6))
  go_end0
  exact ⟨d6, rfl, P6.out, O6.out, S6.out⟩

/-- .. of nothing. -/
theorem insertion_nil (w : World) : Calls Try.prog 37 #[.slice none 0 0, .int .i64 0, .int .i64 0] w fun e w' => e = .returned (.tuple #[]) ∧ w' = w := by
  go_enter Try.func37, Try.ntmps37
  go_wp2
  refine wp_loop_rounds 1 ?_
  rw [rounds_succ]
  go_wp2
  go_end0
  exact ⟨rfl, rfl⟩
theorem pdq_nil (w : World) : Calls Try.prog 35 #[.slice none 0 0, .int .i64 0, .int .i64 0, .int .i64 0] w fun e w' => e = .returned (.tuple #[]) ∧ w' = w := by
  have k := hid (fun w => insertion_nil w)
  go_enter Try.func35, Try.ntmps35
  go_wp2
  refine wp_loop_rounds 1 ?_
  rw [rounds_succ]
  go_wp2_with (go_at_call 37; (with_reducible refine (k.out _).mono ?_); rintro e w' ⟨rfl, rfl⟩)
  (try simp only [Exit.inBlock, Exit.then])
  refine bodyPost_ret (results_none rfl _ _ _) rfl ?_
  exact ⟨rfl, rfl⟩
theorem sort_nil (w : World) : Calls Try.prog 33 #[.slice none 0 0] w fun e w' => e = .returned (.tuple #[]) ∧ w' = w := by
  have k := hid (fun w => pdq_nil w)
  have hL := hid (show ∀ w, Calls Try.prog 36 #[.int .u64 0] w fun e w' => e = .returned (.int .i64 0) ∧ w' = w from fun w => bitsLen_any 0 (by omega) w)
  go_enter Try.func33, Try.ntmps33
  go_wp2_with (first
    | (go_at_call 36; (with_reducible refine (hL.out _).mono ?_); rintro e w' ⟨rfl, rfl⟩)
    | (go_at_call 35; (with_reducible refine (k.out _).mono ?_); rintro e w' ⟨rfl, rfl⟩))
  go_end0
  exact ⟨rfl, rfl⟩
theorem compact_nil (w : World) : Calls Try.prog 34 #[.slice none 0 0] w fun e w' => e = .returned (.slice none 0 0) ∧ w' = w := by
  go_enter Try.func34, Try.ntmps34
  go_wp2
  go_ret
  exact ⟨rfl, rfl⟩

/-- slices.Clone. -/
theorem clone32_any (w : World) (a : Option Addr) (n c : Nat) (l : List Nat) (h : RL wv w a n c l) (hn : n ≤ 1000000) :
    Calls Try.prog 32 #[.slice a n c] w fun e w' => ∃ a' c', e = .returned (.slice a' n c') ∧ OL wv 23 w.heap.size w' a' n c' l ∧ RowKit.Below w.heap.size w w' := by
  have q22 : ∀ (w : World) (a : Option Addr) (n c n' c' : Nat), (binOp .eql 26 (.slice a n c) (.slice none n' c')).run Try.prog w = .ok (.bool a.isNone) w := fun w a n c n' c' => Lib.run_eql_slice_nil w _ _ a n c n' c' tW.und
  cases a with
  | none =>
    obtain rfl : n = 0 := by
      by_cases h0 : n = 0
      · exact h0
      · obtain ⟨b, off, e, _⟩ := h.cell (by omega); cases e
    obtain rfl : l = [] := List.eq_nil_of_length_eq_zero h.len
    go_enter Try.func32, Try.ntmps32
    go_wp2
    go_ret
    exact ⟨none, 0, rfl, OL.nil _ _ _ _, RowKit.Below.refl _ _⟩
  | some ad =>
    have h1 := h.below (bnew0 w (.cells #[] 23))
    have ho := ol_lit wv 23 w.heap.size w [] #[] 0 rfl rfl (by omega) (Nat.le_refl _)
    go_enter Try.func32, Try.ntmps32
    go_wp2_with (at_builtin; refine wpList_app (f := wv) tW rfl _ _ rfl rfl ho rfl h1 (fun _ => rfl) (by omega) (by omega) (by simp) ?_; intro w10 a10 c10 hol10 hb10)
    go_ret
    rw [Nat.zero_add, List.nil_append] at hol10
    exact ⟨a10, c10, rfl, hol10, (bnew0 w _).trans hb10⟩

/-- filter.unique: rising, and the same numbers. -/
theorem unique_any (w : World) (a : Option Addr) (n c : Nat) (l : List Nat) (h : RL wv w a n c l) (hn : n ≤ 1000000) :
    Calls Try.prog 27 #[.slice a n c] w fun e w' => ∃ (a' : Option Addr) (m c' : Nat) (u : List Nat), e = .returned (.slice a' m c') ∧ RL wv w' a' m c' u ∧ u.Pairwise (· < ·) ∧ (∀ x, x ∈ u ↔ x ∈ l) ∧ RowKit.Below w.heap.size w w' := by
  have kC := hid (clone32_any w a n c l h hn)
  have kN := hid (fun w => sort_nil w)
  have kM := hid (fun w => compact_nil w)
  have HL := hid h.len
  go_enter Try.func27, Try.ntmps27
  go_upto_region 2 with (go_at_call 32; (with_reducible refine kC.out.mono ?_); rintro e w1 ⟨a1, c1, rfl, o1, g1⟩)
  rcases o1.ex with ⟨rfl, rfl, rfl, rfl⟩ | ⟨g, cur, rfl, hBg, hh, hcs⟩
  · go_wp2_with (first
      | (go_at_call 33; (with_reducible refine (kN.out _).mono ?_); rintro e w2 ⟨rfl, rfl⟩)
      | (go_at_call 34; (with_reducible refine (kM.out _).mono ?_); rintro e w2 ⟨rfl, rfl⟩))
    go_ret
    exact ⟨none, 0, 0, [], rfl, RL.nil _ _ _ _, List.Pairwise.nil, fun x => Iff.rfl, g1⟩
  · have S1 : Sr 0 g c1 n w1 w1 l.toArray := ⟨rfl, by simpa using HL.out, by
      rcases o1 with ⟨q1, q2, q3⟩
      refine ⟨q1, q2, q3.1, ?_⟩
      rcases q3.2 with hn' | ⟨g', cap, cur', hv, hb, rest⟩
      · exact .inl hn'
      · simp only [Value.slice.injEq, Option.some.injEq, Addr.mk.injEq, and_true, true_and] at hv
        obtain ⟨rfl, rfl⟩ := hv
        exact .inr ⟨g, _, cur', rfl, Nat.le_refl _, rest⟩, Wr.refl _ _⟩
    have kS := hid (sort_any 0 g c1 n w1 l.toArray S1 hn)
    have hg := bx_lt hh
    clear S1 hh hcs o1 cur
    go_wp2_with (first
      | (go_at_call 33; (with_reducible refine kS.out.mono ?_); rintro e w2 ⟨d2, rfl, p2, o2, s2⟩; have P2 := hid p2; have O2 := hid o2; have S2 := hid s2; have kX := hid (compact_any 0 g c1 n w2 d2 s2.start hn); clear p2 o2 s2)
      | (go_at_call 34; (with_reducible refine kX.out.mono ?_); rintro e w3 ⟨rfl, r3, k3⟩))
    go_ret
    refine ⟨_, _, _, _, rfl, r3, comp_lt O2.out, fun x => ?_, (S2.out.wr.trans k3).below g1 hBg hg⟩
    have hsz : l.toArray.size = n := by simpa using HL.out
    rw [comp_mem, idx_mem S2.out.size, perm_mem hsz P2.out]
end Go.Proofs.Ytmaklneiedljjaa
