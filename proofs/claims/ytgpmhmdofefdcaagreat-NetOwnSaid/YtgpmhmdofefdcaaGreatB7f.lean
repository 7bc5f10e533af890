/-
  Contract of take.Next: the state behind a bit, and what it says, as the plain function has it, in memory of its own.
-/
import Derived.Test.YtgpmhmdofefdcaaGreatB7e
import Derived.Laws.EntriesVeiled
namespace Go.Proofs.YtgpmhmdofefdcaaGreat
open Go.RowKit
set_option linter.unusedVariables false

/-- The state's box, the result's, the spans, and the copy of the bits. -/
structure Nx (w wr : World) (gs : Nat) (t r : Array Value) (a : Option Addr) (n c : Nat) (l : List Bool) : Prop where
  t : wr.heap[w.heap.size]? = some (.cells t 52 (0, 0))
  r : wr.heap[w.heap.size + 1]? = some (.cells r 52 (0, 0))
  sp : wr.heap[gs]? = some (.cells spC 140 (0, 0))
  own : OL .bool 4 (w.heap.size + 2) wr a n c l
  bel : Below w.heap.size w wr

section
variable {w wr w2 : World} {gs : Nat} {t r : Array Value} {a a2 : Option Addr} {n c n2 c2 : Nat} {l l2 : List Bool}
theorem Nx.alloc (h : Nx w wr gs t r a n c l) (o : Obj) : Nx w (wr.alloc o) gs t r a n c l := ⟨bx_alloc _ h.t, bx_alloc _ h.r, bx_alloc _ h.sp, h.own.alloc _, bnew h.bel _⟩
theorem Nx.size (h : Nx w wr gs t r a n c l) : w.heap.size + 2 ≤ wr.heap.size := by have := bx_lt h.r; omega
theorem Nx.cells (h : Nx w wr gs t r a n c l) (i : Nat) (v : Value) (hv : spC[i]? = some v) : wr.cell? ⟨gs, i, none⟩ = some v := by rw [cell_of_row wr gs i _ _ _ h.sp]; exact hv
theorem Nx.lead (h : Nx w wr gs t r a n c l) (g : Below (w.heap.size + 2) wr w2) : w2.heap[w.heap.size + 1]? = some (.cells r 52 (0, 0)) ∧ Below w.heap.size w w2 :=
  ⟨by rw [g.block _ (by omega)]; exact h.r, h.bel.trans (g.mono (by omega))⟩
end

theorem nx_start {w w0 w1 w2 : World} {b : Bool} {m P : Value} {t : Array Value} {r : Array Value} {a1 : Option Addr} {n c1 : Nat} {l : List Bool} {v : Value} (ht : w0.heap[w.heap.size]? = some (.cells t 52 (0, 0))) (hr : w0.heap[w.heap.size + 1]? = some (.cells r 52 (0, 0)))
    (hb0 : Below w.heap.size w w0) (hs0 : w0.heap.size = w.heap.size + 2) (hol : OL .bool 4 w0.heap.size w1 a1 n c1 l) (g1 : Below w0.heap.size w0 w1)
    (hsp : w2.heap[(w1.setCell ⟨w.heap.size, 2, none⟩ v).heap.size]? = some (.cells spC 140 (0, 0))) (g2 : Below (w1.setCell ⟨w.heap.size, 2, none⟩ v).heap.size (w1.setCell ⟨w.heap.size, 2, none⟩ v) w2) :
    Nx w w2 w1.heap.size (t.setIfInBounds 2 v) r a1 n c1 l := by
  refine ⟨bx_below (heap_setCell_same w1 _ 2 _ _ v (bx_below ht g1)) g2, bx_below (by rw [heap_setCell_other _ _ _ _ (by simp)]; exact bx_below hr g1) g2, by simpa using hsp, ?_, ?_⟩
  · rw [hs0] at hol
    refine (hol.kept fun k hk => heap_setCell_other _ _ _ _ ?_).below g2
    have := (hol.ltB hk).2
    simp at this ⊢; omega
  · exact bstep ((hb0.trans (g1.mono hb0.size)).setCell (Nat.le_refl _) _) g2

theorem nx_fin {w wr : World} {a : Option Addr} {n c : Nat} {l : List Bool} (h : OL .bool 4 (w.heap.size + 2) wr a n c l) (v0 v1 v2 v3 v4 : Value) : OL .bool 4 w.heap.size (((((wr.setCell ⟨w.heap.size + 1, 0, none⟩ v0).setCell ⟨w.heap.size + 1, 1, none⟩ v1).setCell ⟨w.heap.size + 1, 2, none⟩ v2).setCell ⟨w.heap.size + 1, 3, none⟩ v3).setCell ⟨w.heap.size + 1, 4, none⟩ v4) a n c l := by
  refine (h.kept fun k hk => ?_).mono (by omega)
  have hn : k ≠ w.heap.size + 1 := by have := (h.ltB hk).2; simp at this; omega
  rw [heap_setCell_other _ _ _ _ hn, heap_setCell_other _ _ _ _ hn, heap_setCell_other _ _ _ _ hn, heap_setCell_other _ _ _ _ hn, heap_setCell_other _ _ _ _ hn]

/-- The first place that the span k and those behind it ask for. -/
def loI (k : Int) : Int := if k = 0 then 0 else if k = 1 then 1 else if k = 2 then 2 else if k = 3 then 3 else if k = 4 then 4 else if k = 5 then 10 else 11

set_option maxHeartbeats 4000000 in
theorem next7_core (w : World) (sb sf x rb rf : Bool) (sm : Nat) (P rm rp rd : Int) (hPb : 0 ≤ P ∧ P ≤ 255) (sl rl : List Bool) (N RN : Nat) (a : Option Addr) (c : Nat) (h : RL .bool w a N c sl) (HN : N ≤ 10000)
    (L0 : (0 : Int) ≤ P → P < 1 → ∀ (w1 : World) (a1 : Option Addr) (c1 : Nat), OL .bool 4 (w.heap.size + 2) w1 a1 N c1 sl → w.heap.size + 2 ≤ w1.heap.size → Calls Tryz.prog 100 #[.agg #[.bool sb, .int .u8 (sm : Int), .slice a1 N c1, .int .u8 P, .bool sf], .bool x] w1 fun e w' => ∃ a' c', e = .returned (.tuple #[.agg #[.bool rb, .int .u8 rm, .slice a' RN c', .int .u8 rp, .bool rf], .int .u8 rd]) ∧ OL .bool 4 (w.heap.size + 2) w' a' RN c' rl ∧ Below (w.heap.size + 2) w1 w')
    (L1 : (1 : Int) ≤ P → P < 2 → ∀ (w1 : World) (a1 : Option Addr) (c1 : Nat), OL .bool 4 (w.heap.size + 2) w1 a1 N c1 sl → w.heap.size + 2 ≤ w1.heap.size → Calls Tryz.prog 101 #[.agg #[.bool sb, .int .u8 (sm : Int), .slice a1 N c1, .int .u8 P, .bool sf], .bool x] w1 fun e w' => ∃ a' c', e = .returned (.tuple #[.agg #[.bool rb, .int .u8 rm, .slice a' RN c', .int .u8 rp, .bool rf], .int .u8 rd]) ∧ OL .bool 4 (w.heap.size + 2) w' a' RN c' rl ∧ Below (w.heap.size + 2) w1 w')
    (L2 : (2 : Int) ≤ P → P < 3 → ∀ (w1 : World) (a1 : Option Addr) (c1 : Nat), OL .bool 4 (w.heap.size + 2) w1 a1 N c1 sl → w.heap.size + 2 ≤ w1.heap.size → Calls Tryz.prog 102 #[.agg #[.bool sb, .int .u8 (sm : Int), .slice a1 N c1, .int .u8 P, .bool sf], .bool x] w1 fun e w' => ∃ a' c', e = .returned (.tuple #[.agg #[.bool rb, .int .u8 rm, .slice a' RN c', .int .u8 rp, .bool rf], .int .u8 rd]) ∧ OL .bool 4 (w.heap.size + 2) w' a' RN c' rl ∧ Below (w.heap.size + 2) w1 w')
    (L3 : (3 : Int) ≤ P → P < 4 → ∀ (w1 : World) (a1 : Option Addr) (c1 : Nat), OL .bool 4 (w.heap.size + 2) w1 a1 N c1 sl → w.heap.size + 2 ≤ w1.heap.size → Calls Tryz.prog 103 #[.agg #[.bool sb, .int .u8 (sm : Int), .slice a1 N c1, .int .u8 P, .bool sf], .bool x] w1 fun e w' => ∃ a' c', e = .returned (.tuple #[.agg #[.bool rb, .int .u8 rm, .slice a' RN c', .int .u8 rp, .bool rf], .int .u8 rd]) ∧ OL .bool 4 (w.heap.size + 2) w' a' RN c' rl ∧ Below (w.heap.size + 2) w1 w')
    (L4 : (4 : Int) ≤ P → P < 10 → ∀ (w1 : World) (a1 : Option Addr) (c1 : Nat), OL .bool 4 (w.heap.size + 2) w1 a1 N c1 sl → w.heap.size + 2 ≤ w1.heap.size → Calls Tryz.prog 104 #[.agg #[.bool sb, .int .u8 (sm : Int), .slice a1 N c1, .int .u8 P, .bool sf], .bool x] w1 fun e w' => ∃ a' c', e = .returned (.tuple #[.agg #[.bool rb, .int .u8 rm, .slice a' RN c', .int .u8 rp, .bool rf], .int .u8 rd]) ∧ OL .bool 4 (w.heap.size + 2) w' a' RN c' rl ∧ Below (w.heap.size + 2) w1 w')
    (L5 : (10 : Int) ≤ P → P < 11 → ∀ (w1 : World) (a1 : Option Addr) (c1 : Nat), OL .bool 4 (w.heap.size + 2) w1 a1 N c1 sl → w.heap.size + 2 ≤ w1.heap.size → Calls Tryz.prog 105 #[.agg #[.bool sb, .int .u8 (sm : Int), .slice a1 N c1, .int .u8 P, .bool sf], .bool x] w1 fun e w' => ∃ a' c', e = .returned (.tuple #[.agg #[.bool rb, .int .u8 rm, .slice a' RN c', .int .u8 rp, .bool rf], .int .u8 rd]) ∧ OL .bool 4 (w.heap.size + 2) w' a' RN c' rl ∧ Below (w.heap.size + 2) w1 w')
    (HOV : Hid (11 ≤ P → rb = sb ∧ rm = (sm : Int) ∧ rl = sl ∧ RN = N ∧ rp = P ∧ rf = sf ∧ rd = 6)) :
    Calls Tryz.prog 84 #[.agg #[.bool sb, .int .u8 (sm : Int), .slice a N c, .int .u8 P, .bool sf], .bool x] w fun e w' => ∃ a' c',
      e = .returned (.tuple #[.agg #[.bool rb, .int .u8 rm, .slice a' RN c', .int .u8 rp, .bool rf], .int .u8 rd]) ∧ OL .bool 4 w.heap.size w' a' RN c' rl ∧ Below w.heap.size w w' := by
  obtain ⟨w0, hw0, ht, hrr, hb0⟩ := boxed5 w 52 (.bool sb) (.int .u8 (sm : Int)) (.slice a N c) (.int .u8 P) (.bool sf) (.bool false) (.int .u8 0) (.slice none 0 0) (.int .u8 0) (.bool false)
  have hs0 : w0.heap.size = w.heap.size + 2 := by rw [← hw0.out]; simp
  have HS0 := hid hs0; clear hs0
  obtain ⟨c0, c1, c2, c3, c4⟩ := bx5 ht
  have h0 := h.below hb0
  go_enter Tryz.func84, Tryz.ntmps84
  go_wp2_with (first
    | (go_at_call 53; rw [hw0.out]; (with_reducible refine (clone7_any _ _ _ _ _ h0 (by omega)).mono ?_); rintro e w1 ⟨a1, k1, rfl, hol1, g1⟩; clear c0 c1 c2 c3 c4; have ht1 := bx_below ht g1; obtain ⟨c0, c1, c2, c3, c4⟩ := bx5 ht1; have f0 := bx_thaw ht1)
    | (go_at_call 94; (with_reducible refine (spans_any _).mono ?_); rintro e w2 ⟨rfl, hsp2, g2⟩; clear c0 c1 c2 c3 c4 f0; have hX : Nx w w2 w1.heap.size _ _ a1 N k1 sl := nx_start (b := true) (m := .bool true) (P := .bool true) ht hrr hb0 HS0.out hol1 g1 hsp2 g2))
  obtain ⟨gs, hgs⟩ : ∃ gs, gs = w1.heap.size := ⟨_, rfl⟩
  rw [← hgs] at hX
  simp only [← hgs]
  clear hgs ht hrr hb0 hol1 g1 hsp2 g2 hw0 h0 h ht1
  go_loopw [14] (fun i wr => ∃ k : Int, 0 ≤ k ∧ k ≤ 6 ∧ i = .int .i64 k ∧ loI k ≤ P ∧ Nx w wr gs #[.bool sb, .int .u8 (sm : Int), .slice a1 N k1, .int .u8 P, .bool sf] #[.bool false, .int .u8 0, .slice none 0 0, .int .u8 0, .bool false] a1 N k1 sl) (fun i _ => 6 - (intOf i).toNat)
  case atStart => exact ⟨0, by omega, by omega, rfl, by simp only [loI, if_true]; exact hPb.1, hX⟩
  case round =>
    obtain ⟨k, hk0, hk6, rfl, hlo, hN⟩ := hrel
    have hs := hN.size
    have hk : k = 0 ∨ k = 1 ∨ k = 2 ∨ k = 3 ∨ k = 4 ∨ k = 5 ∨ k = 6 := by omega
    clear hk0 hk6
    rcases hk with rfl | rfl | rfl | rfl | rfl | rfl | rfl
    · have hlo' : (0 : Int) ≤ P := by simpa [loI] using hlo
      clear hlo
      have e0 := hN.cells 0 (.int .u8 0) rfl
      have e1 := hN.cells 1 (.int .u8 0) rfl
      have e2 := hN.cells 2 (.func (.func 100) #[] #[]) rfl
      have hA := hN.alloc (.cells #[.int .u8 0, .int .u8 0, .func (.func 100) #[] #[]] 140)
      obtain ⟨c0, c1, c2, c3, c4⟩ := bx5 hA.t
      by_cases hin : P < 1
      · have hL := L0 hlo' hin
        clear L0 L1 L2 L3 L4 L5
        go_wp2_with (go_at_call 100; (with_reducible refine (hL _ _ _ hA.own hA.size).mono ?_); rintro e w3 ⟨a3, k3, rfl, hol3, g3⟩; clear c0 c1 c2 c3 c4; obtain ⟨hr3, hb3⟩ := hA.lead g3; obtain ⟨r0, r1, r2, r3, r4⟩ := bx5 hr3; have f3 := bx_thaw hr3)
        exact bodyPost_ret (v := .tuple #[.agg #[.bool rb, .int .u8 rm, .slice a3 RN k3, .int .u8 rp, .bool rf], .int .u8 rd]) (by simp [results, Tryz.results84, go_sem, r0, r1, r2, r3, r4]) rfl ⟨_, _, rfl, nx_fin hol3 _ _ _ _ _, below7 hb3 (by omega) _ _ _ _ _⟩
      · clear L0 L1 L2 L3 L4 L5
        have hin' : (1 : Int) ≤ P := by omega
        go_wp2
        go_roundw
        case rel => exact ⟨1, by omega, by omega, rfl, by simpa [loI] using hin', hA⟩
        case measure => simp [intOf]
    · have hlo' : (1 : Int) ≤ P := by simpa [loI] using hlo
      clear hlo
      have e0 := hN.cells 3 (.int .u8 1) rfl
      have e1 := hN.cells 4 (.int .u8 1) rfl
      have e2 := hN.cells 5 (.func (.func 101) #[] #[]) rfl
      have hA := hN.alloc (.cells #[.int .u8 1, .int .u8 1, .func (.func 101) #[] #[]] 140)
      obtain ⟨c0, c1, c2, c3, c4⟩ := bx5 hA.t
      by_cases hin : P < 2
      · have hL := L1 hlo' hin
        clear L0 L1 L2 L3 L4 L5
        go_wp2_with (go_at_call 101; (with_reducible refine (hL _ _ _ hA.own hA.size).mono ?_); rintro e w3 ⟨a3, k3, rfl, hol3, g3⟩; clear c0 c1 c2 c3 c4; obtain ⟨hr3, hb3⟩ := hA.lead g3; obtain ⟨r0, r1, r2, r3, r4⟩ := bx5 hr3; have f3 := bx_thaw hr3)
        exact bodyPost_ret (v := .tuple #[.agg #[.bool rb, .int .u8 rm, .slice a3 RN k3, .int .u8 rp, .bool rf], .int .u8 rd]) (by simp [results, Tryz.results84, go_sem, r0, r1, r2, r3, r4]) rfl ⟨_, _, rfl, nx_fin hol3 _ _ _ _ _, below7 hb3 (by omega) _ _ _ _ _⟩
      · clear L0 L1 L2 L3 L4 L5
        have hin' : (2 : Int) ≤ P := by omega
        go_wp2
        go_roundw
        case rel => exact ⟨2, by omega, by omega, rfl, by simpa [loI] using hin', hA⟩
        case measure => simp [intOf]
    · have hlo' : (2 : Int) ≤ P := by simpa [loI] using hlo
      clear hlo
      have e0 := hN.cells 6 (.int .u8 2) rfl
      have e1 := hN.cells 7 (.int .u8 2) rfl
      have e2 := hN.cells 8 (.func (.func 102) #[] #[]) rfl
      have hA := hN.alloc (.cells #[.int .u8 2, .int .u8 2, .func (.func 102) #[] #[]] 140)
      obtain ⟨c0, c1, c2, c3, c4⟩ := bx5 hA.t
      by_cases hin : P < 3
      · have hL := L2 hlo' hin
        clear L0 L1 L2 L3 L4 L5
        go_wp2_with (go_at_call 102; (with_reducible refine (hL _ _ _ hA.own hA.size).mono ?_); rintro e w3 ⟨a3, k3, rfl, hol3, g3⟩; clear c0 c1 c2 c3 c4; obtain ⟨hr3, hb3⟩ := hA.lead g3; obtain ⟨r0, r1, r2, r3, r4⟩ := bx5 hr3; have f3 := bx_thaw hr3)
        exact bodyPost_ret (v := .tuple #[.agg #[.bool rb, .int .u8 rm, .slice a3 RN k3, .int .u8 rp, .bool rf], .int .u8 rd]) (by simp [results, Tryz.results84, go_sem, r0, r1, r2, r3, r4]) rfl ⟨_, _, rfl, nx_fin hol3 _ _ _ _ _, below7 hb3 (by omega) _ _ _ _ _⟩
      · clear L0 L1 L2 L3 L4 L5
        have hin' : (3 : Int) ≤ P := by omega
        go_wp2
        go_roundw
        case rel => exact ⟨3, by omega, by omega, rfl, by simpa [loI] using hin', hA⟩
        case measure => simp [intOf]
    · have hlo' : (3 : Int) ≤ P := by simpa [loI] using hlo
      clear hlo
      have e0 := hN.cells 9 (.int .u8 3) rfl
      have e1 := hN.cells 10 (.int .u8 3) rfl
      have e2 := hN.cells 11 (.func (.func 103) #[] #[]) rfl
      have hA := hN.alloc (.cells #[.int .u8 3, .int .u8 3, .func (.func 103) #[] #[]] 140)
      obtain ⟨c0, c1, c2, c3, c4⟩ := bx5 hA.t
      by_cases hin : P < 4
      · have hL := L3 hlo' hin
        clear L0 L1 L2 L3 L4 L5
        go_wp2_with (go_at_call 103; (with_reducible refine (hL _ _ _ hA.own hA.size).mono ?_); rintro e w3 ⟨a3, k3, rfl, hol3, g3⟩; clear c0 c1 c2 c3 c4; obtain ⟨hr3, hb3⟩ := hA.lead g3; obtain ⟨r0, r1, r2, r3, r4⟩ := bx5 hr3; have f3 := bx_thaw hr3)
        exact bodyPost_ret (v := .tuple #[.agg #[.bool rb, .int .u8 rm, .slice a3 RN k3, .int .u8 rp, .bool rf], .int .u8 rd]) (by simp [results, Tryz.results84, go_sem, r0, r1, r2, r3, r4]) rfl ⟨_, _, rfl, nx_fin hol3 _ _ _ _ _, below7 hb3 (by omega) _ _ _ _ _⟩
      · clear L0 L1 L2 L3 L4 L5
        have hin' : (4 : Int) ≤ P := by omega
        go_wp2
        go_roundw
        case rel => exact ⟨4, by omega, by omega, rfl, by simpa [loI] using hin', hA⟩
        case measure => simp [intOf]
    · have hlo' : (4 : Int) ≤ P := by simpa [loI] using hlo
      clear hlo
      have e0 := hN.cells 12 (.int .u8 4) rfl
      have e1 := hN.cells 13 (.int .u8 9) rfl
      have e2 := hN.cells 14 (.func (.func 104) #[] #[]) rfl
      have hA := hN.alloc (.cells #[.int .u8 4, .int .u8 9, .func (.func 104) #[] #[]] 140)
      obtain ⟨c0, c1, c2, c3, c4⟩ := bx5 hA.t
      by_cases hin : P < 10
      · have hL := L4 hlo' hin
        clear L0 L1 L2 L3 L4 L5
        go_wp2_with (go_at_call 104; (with_reducible refine (hL _ _ _ hA.own hA.size).mono ?_); rintro e w3 ⟨a3, k3, rfl, hol3, g3⟩; clear c0 c1 c2 c3 c4; obtain ⟨hr3, hb3⟩ := hA.lead g3; obtain ⟨r0, r1, r2, r3, r4⟩ := bx5 hr3; have f3 := bx_thaw hr3)
        exact bodyPost_ret (v := .tuple #[.agg #[.bool rb, .int .u8 rm, .slice a3 RN k3, .int .u8 rp, .bool rf], .int .u8 rd]) (by simp [results, Tryz.results84, go_sem, r0, r1, r2, r3, r4]) rfl ⟨_, _, rfl, nx_fin hol3 _ _ _ _ _, below7 hb3 (by omega) _ _ _ _ _⟩
      · clear L0 L1 L2 L3 L4 L5
        have hin' : (10 : Int) ≤ P := by omega
        go_wp2
        go_roundw
        case rel => exact ⟨5, by omega, by omega, rfl, by simpa [loI] using hin', hA⟩
        case measure => simp [intOf]
    · have hlo' : (10 : Int) ≤ P := by simpa [loI] using hlo
      clear hlo
      have e0 := hN.cells 15 (.int .u8 10) rfl
      have e1 := hN.cells 16 (.int .u8 10) rfl
      have e2 := hN.cells 17 (.func (.func 105) #[] #[]) rfl
      have hA := hN.alloc (.cells #[.int .u8 10, .int .u8 10, .func (.func 105) #[] #[]] 140)
      obtain ⟨c0, c1, c2, c3, c4⟩ := bx5 hA.t
      by_cases hin : P < 11
      · have hL := L5 hlo' hin
        clear L0 L1 L2 L3 L4 L5
        go_wp2_with (go_at_call 105; (with_reducible refine (hL _ _ _ hA.own hA.size).mono ?_); rintro e w3 ⟨a3, k3, rfl, hol3, g3⟩; clear c0 c1 c2 c3 c4; obtain ⟨hr3, hb3⟩ := hA.lead g3; obtain ⟨r0, r1, r2, r3, r4⟩ := bx5 hr3; have f3 := bx_thaw hr3)
        exact bodyPost_ret (v := .tuple #[.agg #[.bool rb, .int .u8 rm, .slice a3 RN k3, .int .u8 rp, .bool rf], .int .u8 rd]) (by simp [results, Tryz.results84, go_sem, r0, r1, r2, r3, r4]) rfl ⟨_, _, rfl, nx_fin hol3 _ _ _ _ _, below7 hb3 (by omega) _ _ _ _ _⟩
      · clear L0 L1 L2 L3 L4 L5
        have hin' : (11 : Int) ≤ P := by omega
        go_wp2
        go_roundw
        case rel => exact ⟨6, by omega, by omega, rfl, by simpa [loI] using hin', hA⟩
        case measure => simp [intOf]
    · have hlo' : (11 : Int) ≤ P := by simpa [loI] using hlo
      clear hlo L0 L1 L2 L3 L4 L5
      obtain ⟨rfl, rfl, rfl, rfl, rfl, rfl, rfl⟩ := HOV.out hlo'
      obtain ⟨c0, c1, c2, c3, c4⟩ := bx5 hN.t
      obtain ⟨r0, r1, r2, r3, r4⟩ := bx5 hN.r
      have f3 := bx_thaw hN.r
      go_wp2
      exact bodyPost_ret (v := .tuple #[.agg #[.bool rb, .int .u8 (sm : Int), .slice a1 RN k1, .int .u8 rp, .bool rf], .int .u8 6]) (by simp [results, Tryz.results84, go_sem, r0, r1, r2, r3, r4]) rfl ⟨_, _, rfl, nx_fin hN.own _ _ _ _ _, below7 hN.bel (by omega) _ _ _ _ _⟩
end Go.Proofs.YtgpmhmdofefdcaaGreat
