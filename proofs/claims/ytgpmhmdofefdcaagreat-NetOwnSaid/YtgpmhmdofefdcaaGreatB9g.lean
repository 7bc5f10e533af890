/-
  Contracts: a new net; a crash.
-/
import Derived.Test.YtgpmhmdofefdcaaGreatB9f
namespace Go.Proofs.YtgpmhmdofefdcaaGreat
open Go.RowKit Go.Sort
set_option linter.unusedVariables false

/-- So many zero nodes. -/
def zeP (n : Nat) : List Nd := List.replicate n (c0, sl0)
theorem cts_ze (n : Nat) : cts (zeP n) = List.replicate n c0 := by unfold cts zeP; rw [List.map_replicate]

theorem run_mkB (w : World) (n : Nat) (hn : n ≤ 1000000) : (Instr.makeSlice 29 (.int .i64 (n : Int)) (.int .i64 (n : Int))).run Tryz.prog w = .ok (.slice (some ⟨w.heap.size, 0, none⟩) n n) (w.alloc (.cells (madeCells #[.bool false] n) 4)) := by
  obtain ⟨i, hi, hz0, hz1, hz2⟩ := info_parts tB.info
  have hr := run_make (P := Tryz.prog) w 29 4 i (.bool false) tB.und hi hz0 .i64 .i64 n n (by omega) (Int.le_refl _) (by rw [hz2]; omega) (by omega)
  rw [hz1] at hr
  rw [Nat.mul_one] at hr
  exact hr

theorem ze_net (B : Nat) {w : World} {gN gC n : Nat} (hn : n ≤ 1000000) (hN : w.heap[gN]? = some (.cells (madeCells ctZ (n * 26)) 54 (0, 0))) (hC : w.heap[gC]? = some (.cells (madeCells #[.bool false] n) 4 (0, 0))) (h1 : B ≤ gN) (h2 : B ≤ gC) (h3 : gN ≠ gC) :
    NtO B w ⟨some ⟨gN, 0, none⟩, n, some ⟨gC, 0, none⟩, n⟩ (zeP n) (List.replicate n false) := by
  refine ⟨?_, ?_, fun p hp => ?_, fun g hg => ?_, fun g hg => ?_⟩
  · have := ok_of_cells (B := B) (E := 54) (l := zeP n) (n := n) enC_k hN h1 (by omega) (by simp [zeP]) (made_flat enC_k (by omega) ctZ (c0, sl0) rfl n)
    simpa [zeP] using this
  · have hl : (madeCells #[.bool false] n).toList = (List.replicate n false).map Value.bool := by rw [toList_madeCells_one, List.map_replicate]
    have hs : (madeCells #[.bool false] n).size = n := size_madeCells _ _
    rw [List.length_replicate]
    exact ⟨by simp, Nat.le_refl _, by simp, .inr ⟨gC, n, _, rfl, h2, hC, Nat.le_refl _, by unfold maxLen; omega, by omega, by rw [List.take_of_length_le (by rw [Array.length_toList, hs]; omega), hl]⟩⟩
  · have := (List.mem_replicate.1 hp).2
    subst this
    exact CtO.zero _ _
  · cases hg
    refine ⟨fun p hp => ?_, fun q hq e => ?_⟩
    · have := (List.mem_replicate.1 hp).2
      subst this
      exact nbs0 _
    · cases hq; exact h3 e.symm
  · cases hg
    refine ⟨fun p hp => ?_, fun q hq e => ?_⟩
    · have := (List.mem_replicate.1 hp).2
      subst this
      exact nbs0 _
    · cases hq; exact h3 e

section
variable {P : Program} {ops : Array Oper} {o : Oper} {ac : Act} {w : World} {K : Act → World → Prop} {Q : Exit → Act → World → Prop} {T E : TypeId} {z : Value} {bytes k : Nat} {α : Type} {enc : α → List Value}
/-- A make in a region that draws its order. -/
theorem draw_mk (hgd : o.guard = none) (lo : Operand) (ho : o.op = Op.makeSlice T lo lo) (n : Nat) (hl : ac.eval lo = .int .i64 (n : Int)) {v : Value} {w' : World} (hr : (Instr.makeSlice T (.int .i64 (n : Int)) (.int .i64 (n : Int))).run P w = .ok v w')
    (h : K (ac.put o.dst v) w') : if Region.wanted o (yielded ops ac.tmps) = true then Oper.wp P o ac w K Q else K (ac.put o.dst undef) w := by
  rw [if_pos (by simp [Region.wanted, hgd])]
  unfold Oper.wp
  simp [execOp, ho, hl, hr, Result.andThen]
  exact h
end

theorem run_mkN (w : World) (n : Nat) (hn : n ≤ 1000000) : (Instr.makeSlice 28 (.int .i64 (n : Int)) (.int .i64 (n : Int))).run Tryz.prog w = .ok (.slice (some ⟨w.heap.size, 0, none⟩) n n) (w.alloc (.cells (madeCells ctZ (n * 26)) 54)) :=
  (run_mkK (P := Tryz.prog) elC enC_k (c0, sl0) rfl w .i64 .i64 n hn (by omega)).1

theorem new_end {w W : World} {gN gC n : Nat} (hr : W.heap[w.heap.size]? = some (.cells ntZ 31 (0, 0))) (hN : W.heap[gN]? = some (.cells (madeCells ctZ (n * 26)) 54 (0, 0))) (hC : W.heap[gC]? = some (.cells (madeCells #[.bool false] n) 4 (0, 0)))
    (gg : Below w.heap.size w W) (h1 : w.heap.size < gN) (h2 : w.heap.size < gC) (h3 : gN ≠ gC) (hn : n ≤ 1000000) :
    (W.setRow w.heap.size (ntA ⟨some ⟨gN, 0, none⟩, n, some ⟨gC, 0, none⟩, n⟩ n n 0)).heap[w.heap.size]? = some (.cells (ntA ⟨some ⟨gN, 0, none⟩, n, some ⟨gC, 0, none⟩, n⟩ n n 0) 31 (0, 0)) ∧
    NtO w.heap.size (W.setRow w.heap.size (ntA ⟨some ⟨gN, 0, none⟩, n, some ⟨gC, 0, none⟩, n⟩ n n 0)) ⟨some ⟨gN, 0, none⟩, n, some ⟨gC, 0, none⟩, n⟩ (zeP n) (List.replicate n false) ∧ Below w.heap.size w (W.setRow w.heap.size (ntA ⟨some ⟨gN, 0, none⟩, n, some ⟨gC, 0, none⟩, n⟩ n n 0)) :=
  ⟨setRow_heap _ _ _ _ _ _ hr, ze_net _ hn ((setRow_other _ _ _ _ (by omega)).trans hN) ((setRow_other _ _ _ _ (by omega)).trans hC) (by omega) (by omega) h3, below_setRow gg (Nat.le_refl _) _⟩

set_option maxRecDepth 100000 in
set_option maxHeartbeats 4000000 in
theorem new_any (w : World) (n : Nat) (h2 : 2 ≤ n) (h32 : n ≤ 32) :
    Calls Tryz.prog 20 #[.int .i64 (n : Int)] w fun e w' => ∃ s', e = .returned (.tuple #[.agg (ntA s' n n 0), .int .i64 0]) ∧ NtO w.heap.size w' s' (zeP n) (List.replicate n false) ∧ Below w.heap.size w w' := by
  have g0 := bnew0 w (.cells ntZ 31)
  have hr0 := heap_alloc_new w (.cells ntZ 31)
  have d1 : decide ((n : Int) < 2) = false := decide_eq_false (by omega)
  have d2 : decide ((32 : Int) < (n : Int)) = false := decide_eq_false (by omega)
  have H2 := hid h2
  have H3 := hid h32
  clear h2 h32
  go_enter Tryz.func20, Tryz.ntmps20
  go_wp2_with (fail)
  have h2 := H2.out
  have h32 := H3.out
  obtain ⟨w1, hw1⟩ : ∃ w1, w1 = w.alloc (.cells ntZ 31) := ⟨_, rfl⟩
  change Code.wp _ _ _ _ (w.alloc (.cells ntZ 31))
  have z1 : w1.heap.size = w.heap.size + 1 := by rw [hw1]; simp
  rw [← hw1] at g0 hr0 ⊢
  clear hw1
  refine wp_region_any (by kernel_rfl) ?_
  change wpAny _ _ _ _ _ _ _ w1.drew
  refine wpAny_take (i := 0) (v := .int .i64 (n : Int)) rfl (by kernel_rfl) (by kernel_rfl) (by kernel_rfl) (fun _ _ _ h => h) (Or.inl ⟨by rfl, ?_⟩) ?_
  · intro w; go_simp
  refine wpAny_take (i := 2) (v := .int .i64 (n : Int)) rfl (by kernel_rfl) (by kernel_rfl) (by kernel_rfl) (fun _ _ _ h => h) (Or.inl ⟨by rfl, ?_⟩) ?_
  · intro w; go_simp
  refine wpAny_ready (rs := [1, 3]) (by kernel_rfl) (by simp) ?_
  refine AllReady.cons rfl (fun K hK => ?_) (AllReady.cons rfl (fun K hK => ?_) AllReady.nil)
  · refine draw_mk rfl _ rfl n rfl (run_mkN w1.drew n (by omega)) ?_
    refine hK _ _ ?_; clear hK K
    refine wpAny_ready (rs := [3]) (by kernel_rfl) (by simp) ?_
    refine AllReady.cons rfl (fun K hK => ?_) AllReady.nil
    have hmk := run_mkB (w1.drew.alloc (.cells (madeCells ctZ (n * 26)) 54)) n (by omega)
    (with_reducible refine draw_mk ?zg ?zl ?zo n ?zh hmk ?zk)
    case zo => exact rfl
    case zg => exact rfl
    case zh => simp [Act.eval, Act.put]
    clear hmk
    refine hK _ _ ?_; clear hK K
    have hN := bx_alloc (.cells (madeCells #[.bool false] n) 4) (heap_alloc_new w1.drew (.cells (madeCells ctZ (n * 26)) 54))
    have hC := heap_alloc_new (w1.drew.alloc (.cells (madeCells ctZ (n * 26)) 54)) (.cells (madeCells #[.bool false] n) 4)
    have hr : ((w1.drew.alloc (.cells (madeCells ctZ (n * 26)) 54)).alloc (.cells (madeCells #[.bool false] n) 4)).heap[w.heap.size]? = some (.cells ntZ 31 (0, 0)) := bx_alloc _ (bx_alloc _ hr0)
    have gg : Below w.heap.size w ((w1.drew.alloc (.cells (madeCells ctZ (n * 26)) 54)).alloc (.cells (madeCells #[.bool false] n) 4)) := bnew (bnew (below_drew1 g0) _) _
    have e1 : (w1.drew.alloc (.cells (madeCells ctZ (n * 26)) 54)).heap.size = w1.heap.size + 1 := by rw [heap_size_alloc]; rfl
    have e0 : w1.drew.heap.size = w1.heap.size := rfl
    rw [e1] at hC
    rw [e0] at hN
    rw [e0, e1]
    generalize (w1.drew.alloc (.cells (madeCells ctZ (n * 26)) 54)).alloc (.cells (madeCells #[.bool false] n) 4) = W at *
    obtain ⟨gN, hgN⟩ : ∃ gN, gN = w1.heap.size := ⟨_, rfl⟩
    obtain ⟨gC, hgC⟩ : ∃ gC, gC = w1.heap.size + 1 := ⟨_, rfl⟩
    rw [← hgN] at hN
    rw [← hgC] at hC
    rw [← hgC, ← hgN]
    obtain ⟨l1, l2, l3⟩ : w.heap.size < gN ∧ w.heap.size < gC ∧ gN ≠ gC := by omega
    clear hgN hgC z1 e0 e1
    refine wpAny_take (i := 4) (v := .agg (ntA ⟨some ⟨gN, 0, none⟩, n, some ⟨gC, 0, none⟩, n⟩ n n 0)) rfl (by kernel_rfl) (by kernel_rfl) (by kernel_rfl) (fun _ _ _ h => h) (Or.inl ⟨by simp [Region.wanted], ?_⟩) ?_
    · intro w; go_simp; rfl
    refine wpAny_ready (rs := [5]) (by kernel_rfl) (by simp) ?_
    refine AllReady.cons rfl (fun K hK => ?_) AllReady.nil
    refine draw_storeR rowN rfl _ _ rfl w.heap.size _ rfl rfl hr rfl rfl (nt_ones _ _ _ _) ?_
    refine hK _ _ ?_; clear hK K
    refine wpAny_ready (rs := [6]) (by kernel_rfl) (by simp) ?_
    refine AllReady.cons rfl (fun K hK => ?_) AllReady.nil
    go_simp
    refine hK _ _ ?_; clear hK K
    refine wpAny_done (by kernel_rfl) ?_ _
    go_wp2
    obtain ⟨f1, f2, f3⟩ := new_end hr hN hC gg l1 l2 l3 (by omega)
    exact bodyPost_ret (v := .tuple #[.agg (ntA ⟨some ⟨gN, 0, none⟩, n, some ⟨gC, 0, none⟩, n⟩ n n 0), .int .i64 0]) (results_row1 rowN rfl _ _ _ rfl rfl f1 rfl) rfl ⟨_, rfl, f2, f3⟩
  · refine draw_mk rfl _ rfl n rfl (run_mkB w1.drew n (by omega)) ?_
    refine hK _ _ ?_; clear hK K
    refine wpAny_ready (rs := [1]) (by kernel_rfl) (by simp) ?_
    refine AllReady.cons rfl (fun K hK => ?_) AllReady.nil
    have hmk := run_mkN (w1.drew.alloc (.cells (madeCells #[.bool false] n) 4)) n (by omega)
    (with_reducible refine draw_mk ?yg ?yl ?yo n ?yh hmk ?yk)
    case yo => exact rfl
    case yg => exact rfl
    case yh => simp [Act.eval, Act.put]
    clear hmk
    refine hK _ _ ?_; clear hK K
    have hC := bx_alloc (.cells (madeCells ctZ (n * 26)) 54) (heap_alloc_new w1.drew (.cells (madeCells #[.bool false] n) 4))
    have hN := heap_alloc_new (w1.drew.alloc (.cells (madeCells #[.bool false] n) 4)) (.cells (madeCells ctZ (n * 26)) 54)
    have hr : ((w1.drew.alloc (.cells (madeCells #[.bool false] n) 4)).alloc (.cells (madeCells ctZ (n * 26)) 54)).heap[w.heap.size]? = some (.cells ntZ 31 (0, 0)) := bx_alloc _ (bx_alloc _ hr0)
    have gg : Below w.heap.size w ((w1.drew.alloc (.cells (madeCells #[.bool false] n) 4)).alloc (.cells (madeCells ctZ (n * 26)) 54)) := bnew (bnew (below_drew1 g0) _) _
    have e1 : (w1.drew.alloc (.cells (madeCells #[.bool false] n) 4)).heap.size = w1.heap.size + 1 := by rw [heap_size_alloc]; rfl
    have e0 : w1.drew.heap.size = w1.heap.size := rfl
    rw [e1] at hN
    rw [e0] at hC
    rw [e0, e1]
    generalize (w1.drew.alloc (.cells (madeCells #[.bool false] n) 4)).alloc (.cells (madeCells ctZ (n * 26)) 54) = W at *
    obtain ⟨gC, hgC⟩ : ∃ gC, gC = w1.heap.size := ⟨_, rfl⟩
    obtain ⟨gN, hgN⟩ : ∃ gN, gN = w1.heap.size + 1 := ⟨_, rfl⟩
    rw [← hgN] at hN
    rw [← hgC] at hC
    rw [← hgN, ← hgC]
    obtain ⟨l1, l2, l3⟩ : w.heap.size < gN ∧ w.heap.size < gC ∧ gN ≠ gC := by omega
    clear hgN hgC z1 e0 e1
    refine wpAny_take (i := 4) (v := .agg (ntA ⟨some ⟨gN, 0, none⟩, n, some ⟨gC, 0, none⟩, n⟩ n n 0)) rfl (by kernel_rfl) (by kernel_rfl) (by kernel_rfl) (fun _ _ _ h => h) (Or.inl ⟨by simp [Region.wanted], ?_⟩) ?_
    · intro w; go_simp; rfl
    refine wpAny_ready (rs := [5]) (by kernel_rfl) (by simp) ?_
    refine AllReady.cons rfl (fun K hK => ?_) AllReady.nil
    refine draw_storeR rowN rfl _ _ rfl w.heap.size _ rfl rfl hr rfl rfl (nt_ones _ _ _ _) ?_
    refine hK _ _ ?_; clear hK K
    refine wpAny_ready (rs := [6]) (by kernel_rfl) (by simp) ?_
    refine AllReady.cons rfl (fun K hK => ?_) AllReady.nil
    go_simp
    refine hK _ _ ?_; clear hK K
    refine wpAny_done (by kernel_rfl) ?_ _
    go_wp2
    obtain ⟨f1, f2, f3⟩ := new_end hr hN hC gg l1 l2 l3 (by omega)
    exact bodyPost_ret (v := .tuple #[.agg (ntA ⟨some ⟨gN, 0, none⟩, n, some ⟨gC, 0, none⟩, n⟩ n n 0), .int .i64 0]) (results_row1 rowN rfl _ _ _ rfl rfl f1 rfl) rfl ⟨_, rfl, f2, f3⟩
end Go.Proofs.YtgpmhmdofefdcaaGreat
