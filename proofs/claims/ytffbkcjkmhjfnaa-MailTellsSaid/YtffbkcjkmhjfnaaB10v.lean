/-
  Contracts of the document's own answers on mails: what is on the wire is lost.
-/
import Derived.Test.YtffbkcjkmhjfnaaB10u
import Derived.Lib.QuietBelow
namespace Go.Proofs.Ytffbkcjkmhjfnaa
open Go.RowKit Go.Sort
set_option linter.unusedVariables false
set_option linter.unusedSimpArgs false

section
variable {B : Nat} {w w1 w3 w4 w' : World} {a a' : Option Addr} {c c' room wire last r : Nat} {L L' : List Sl} {S T T' : Nat → Prop}

set_option maxRecDepth 100000 in
set_option maxHeartbeats 4000000 in
theorem rlost_no (w : World) (h : LmO B w a c L T) (hB : B ≤ w.heap.size) (hn : L.length ≤ 1000) :
    Calls Try.prog 24 #[.agg (smV room a c L 0 last)] w (RmR B w room L 0 last T .returned) := by
  obtain ⟨r, w1, hw1, HR, b1, r1, g1, hr0, hr1⟩ := sm_boxes w (smV room a c L 0 last)
  obtain ⟨x0, x1, x2, x3⟩ := bx4m b1
  have f1 := bx_thaw b1
  have b2 := sm_wire 0 b1
  have r2 : (w1.setCell ⟨w.heap.size, 2, none⟩ (.int .i64 0)).heap[r]? = some (.cells smZ 30 (0, 0)) := (Below.heap_setCell _ _ _ _ (Nat.ne_of_gt hr0)).trans r1
  have g2 : Below w.heap.size w (w1.setCell ⟨w.heap.size, 2, none⟩ (.int .i64 0)) := g1.setCell (Nat.le_refl _) _
  have hT := hid h.tL
  have h2 := h.below g2
  have hr2 : r < (w1.setCell ⟨w.heap.size, 2, none⟩ (.int .i64 0)).heap.size := by rw [sz_set]; exact hr1
  clear x0 x1 x3
  go_enter Try.func24, Try.ntmps24
  go_upto_region 3 with (rw [hw1.out, HR.out])
  have hx := (bx4m b2).2.1
  change (w1.setCell ⟨w.heap.size, 2, none⟩ (.int .i64 0)).heap[w.heap.size]? = _ at b2
  generalize w1.setCell ⟨w.heap.size, 2, none⟩ (.int .i64 0) = W at *
  clear b1 r1 g1 f1 x2 hw1
  refine wp_region_quiet_below (by kernel_rfl) (by kernel_rfl) ?_
  repeat (go_big_quiet_step (fail))
  refine wpQuiet_nil ?_
  intro w9 hw9
  have g9 : Below W.heap.size W w9 := by obtain ⟨p9, rfl⟩ := hw9; exact below_regrown _ _ _
  have b9 := bx_below b2 g9
  have r9 := bx_below r2 g9
  clear hw9
  go_wp2_with (first
    | (with_reducible refine wpList_loadR rowSm rfl _ rfl _ rfl b9 rfl ?_)
    | (with_reducible refine wpList_storeR rowSm rfl _ _ rfl _ _ rfl rfl r9 rfl rfl (sm_ones _ _ _ _ _ _) ?_))
  exact bodyPost_ret (v := .agg (smV room a c L 0 last)) (results_row rowSm rfl _ _ _ rfl (setRow_heap _ _ _ _ _ _ r9) rfl) rfl
    (rm_lay Ending.returned hT.out g2 (Nat.le_of_lt hr0) hr2 (h2.below g9) g9 (fun k hk => .inl hk) _)

set_option maxRecDepth 100000 in
set_option maxHeartbeats 4000000 in
theorem rlost_any (w : World) (h : LmO B w a c L T) (hB : B ≤ w.heap.size) (hn : L.length ≤ 1000) (k : Nat) (p : Sl) (hk : L[k]? = some p) (hf : fiL (wire : Int) L = (k : Int)) (hw : 0 < wire) :
    Calls Try.prog 24 #[.agg (smV room a c L wire last)] w (RmR B w room (if p.2 then L.take k ++ L.drop (k + 1) else L) 0 last T .returned) := by
  obtain ⟨r, w1, hw1, HR, b1, r1, g1, hr0, hr1⟩ := sm_boxes w (smV room a c L wire last)
  obtain ⟨x0, x1, x2, x3⟩ := bx4m b1
  have f1 := bx_thaw b1
  have b2 := sm_wire 0 b1
  have r2 : (w1.setCell ⟨w.heap.size, 2, none⟩ (.int .i64 0)).heap[r]? = some (.cells smZ 30 (0, 0)) := (Below.heap_setCell _ _ _ _ (Nat.ne_of_gt hr0)).trans r1
  have g2 : Below w.heap.size w (w1.setCell ⟨w.heap.size, 2, none⟩ (.int .i64 0)) := g1.setCell (Nat.le_refl _) _
  have hT := hid h.tL
  have h2 := h.below g2
  have hr2 : r < (w1.setCell ⟨w.heap.size, 2, none⟩ (.int .i64 0)).heap.size := by rw [sz_set]; exact hr1
  have hkL : k < L.length := (List.getElem?_eq_some_iff.1 hk).1
  have hwi : (0 : Int) < (wire : Int) := by omega
  clear x0 x1 x3
  go_enter Try.func24, Try.ntmps24
  go_upto_region 3 with (rw [hw1.out, HR.out])
  change (w1.setCell ⟨w.heap.size, 2, none⟩ (.int .i64 0)).heap[w.heap.size]? = _ at b2
  generalize w1.setCell ⟨w.heap.size, 2, none⟩ (.int .i64 0) = W at *
  clear b1 r1 g1 f1 x2 hw1
  obtain ⟨gb, off, rfl, hgb, hr⟩ := h2.row.range hk
  have hc6 := hr 6 (.bool p.2) rfl
  obtain ⟨n, hnL⟩ : ∃ n, L.length = n := ⟨_, rfl⟩
  have HN := hid hnL
  have b2' : W.heap[w.heap.size]? = some (.cells #[.int .i64 (room : Int), .slice (some ⟨gb, off, none⟩) n c, .int .i64 0, .int .i64 (last : Int)] 30 (0, 0)) := by rw [b2, ← hnL]; rfl
  obtain ⟨x0, x1, x2, x3⟩ := bx4m b2'
  have hfd : ∀ d os, Calls Try.prog 30 #[.agg #[.int .i64 (room : Int), .slice (some ⟨gb, off, none⟩) n c, .int .i64 0, .int .i64 (last : Int)], .int .i64 (wire : Int)] (grow (redrawn W d) os) fun e w'' => e = .returned (.int .i64 (k : Int)) ∧ ∃ r : Regrown, w'' = grow (redrawn W r.d) r.os := fun d os => by
    have e := rfind_any (room := room) (wire := 0) (last := last) (w := grow (redrawn W d) os) (wire : Int) (h2.row.below (below_regrown W d os)) (by omega)
    rw [hf] at e
    rw [← hnL]
    exact Calls.regrown_of e
  have hwo := hid (fun w5 (l5 : LmO B w5 (some ⟨gb, off, none⟩) c L T) (hB5 : B ≤ w5.heap.size) => rwithout_any (room := room) (wire := 0) (last := last) w5 (wire : Int) l5 hB5 hn k hkL hf)
  have hkn : (k : Int) < (n : Int) := by omega
  have hkn2 : k < n := by omega
  have y0 := cell_regrown x0
  have y1 := cell_regrown x1
  have y2 := cell_regrown x2
  have y3 := cell_regrown x3
  have y6 := cell_regrown hc6
  clear hr hf hk b2' hnL x0 x1 x2 x3 hc6
  refine wp_region_quiet_below (by kernel_rfl) (by kernel_rfl) ?_
  repeat (go_big_quiet_step (first | (go_at_call 30; with_reducible exact hfd _ _)))
  refine wpQuiet_nil ?_
  intro w9 hw9
  have g9 : Below W.heap.size W w9 := by obtain ⟨p9, rfl⟩ := hw9; exact below_regrown _ _ _
  have b9 := bx_below b2 g9
  have r9 := bx_below r2 g9
  have l9 := h2.below g9
  clear hw9 hfd y0 y1 y2 y3 y6
  cases hp2 : p.2
  · simp only [Bool.false_eq_true, if_false]
    go_wp2_with (first
      | (with_reducible refine wpList_loadR rowSm rfl _ rfl _ rfl b9 rfl ?_)
      | (with_reducible refine wpList_storeR rowSm rfl _ _ rfl _ _ rfl rfl r9 rfl rfl (sm_ones _ _ _ _ _ _) ?_))
    all_goals exact bodyPost_ret (v := .agg (smV room (some ⟨gb, off, none⟩) c L 0 last)) (results_row rowSm rfl _ _ _ rfl (setRow_heap _ _ _ _ _ _ r9) rfl) rfl (rm_lay Ending.returned hT.out g2 (Nat.le_of_lt hr0) hr2 l9 g9 (fun k hk => .inl hk) _)
  · simp only [if_true]
    have hwo2 := hid (hwo.out w9 l9 (Nat.le_trans (Nat.le_trans hB g2.size) g9.size))
    generalize L.take k ++ L.drop (k + 1) = L2 at *
    go_wp2_with (first
      | (with_reducible refine wpList_loadR rowSm rfl _ rfl _ rfl b9 rfl ?_)
      | (go_at_call 36; (with_reducible refine Calls.mono hwo2.out ?_); rintro e w4 ⟨a4, c4, T4, rfl, l4, g4, t4⟩; have r4 := bx_below r9 g4)
      | (with_reducible refine wpList_storeR rowSm rfl _ _ rfl _ _ rfl rfl r4 rfl rfl (sm_ones _ _ _ _ _ _) ?_))
    all_goals exact bodyPost_ret (v := .agg (smV room a4 c4 L2 0 last)) (results_row rowSm rfl _ _ _ rfl (setRow_heap _ _ _ _ _ _ r4) rfl) rfl (rm_lay Ending.returned hT.out (bstep g2 g9) (Nat.le_of_lt hr0) (Nat.lt_of_lt_of_le hr2 g9.size) l4 g4 t4 _)
end
end Go.Proofs.Ytffbkcjkmhjfnaa
