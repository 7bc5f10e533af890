/-
  Contracts of the document's own answers on mails: does one wait; what is on the wire is sent, is lost; one is given up.
-/
import Derived.Test.YtffbkcjkmhjfnaaB10s
namespace Go.Proofs.Ytffbkcjkmhjfnaa
open Go.RowKit Go.Sort
set_option linter.unusedVariables false
set_option linter.unusedSimpArgs false

theorem results_row12 {P : Program} {T : TypeId} {n : Nat} (hT : RowT P T n) {fn : Func} {p q r : Tmp} (h : fn.results = #[.cell q T, .tmp p, .tmp r]) (tmps : Array Value) (w : World) (g : Nat) {t : TypeId} {cs : Array Value} {fr : Nat × Nat} {u v : Value}
    (hq : tmps.getD q undef = .pointer (some ⟨g, 0, none⟩)) (hp : tmps.getD p undef = u) (hr : tmps.getD r undef = v) (hg : w.heap[g]? = some (.cells cs t fr)) (hn : cs.size = n) :
    (results fn tmps).run P w = .ok (.tuple #[.agg cs, u, v]) w := by
  obtain ⟨d, hu, hd⟩ := hT.und
  have hp' : tmps[p]?.getD undef = u := by simpa using hp
  have hq' : tmps[q]?.getD undef = .pointer (some ⟨g, 0, none⟩) := by simpa using hq
  have hr' : tmps[r]?.getD undef = v := by simpa using hr
  have e1 := run_loadVar_row (P := P) w g t T cs fr d hg hu (by cases d <;> simp_all) (by rw [hT.size, hn])
  simp [results, h, hp', hq', hr', asAddr, e1]

section
variable {B : Nat} {w w1 w3 w4 w' : World} {a a' : Option Addr} {c c' room wire last r : Nat} {L L' : List Sl} {S T T' : Nat → Prop}

theorem rm_lay (f : Value → Ending) (hT : ∀ k, T k → k < w.heap.size) (g3 : Below w.heap.size w w3) (hr : w.heap.size ≤ r) (hr3 : r < w3.heap.size) (h4 : LmO B w4 a' c' L' T') (g4 : Below w3.heap.size w3 w4) (hT4 : ∀ k, T' k → T k ∨ w3.heap.size ≤ k) (cs : Array Value) :
    RmR B w room L' wire last T f (f (.agg (smV room a' c' L' wire last))) (w4.setRow r cs) := by
  have k : Ch (fun b => b = r) w4 (w4.setRow r cs) := (Ch.refl (fun b => b = r) w4).setRow (.inl rfl) _
  refine ⟨a', c', T', rfl, h4.ch k (fun b hb e => ?_), below_setRow (bstep g3 g4) hr _, fun b hb => ?_⟩
  · rcases hT4 b hb with h | h
    · have := hT b h; omega
    · omega
  · rcases hT4 b hb with h | h
    · exact .inl h
    · exact .inr (by have := g3.size; omega)

set_option maxRecDepth 100000 in
set_option maxHeartbeats 2000000 in
theorem rwaits_any (w : World) (N : Int) (h : LmO B w a c L T) (hn : L.length ≤ 1000) :
    Calls Try.prog 12 #[.agg (smV room a c L wire last), .int .i64 N] w fun e w' => e = .returned (.bool (decide (0 ≤ fiL N L))) ∧ Below w.heap.size w w' := by
  obtain ⟨w0, hw0, b0, g0⟩ : ∃ w0, Hid (w.alloc (.cells (smV room a c L wire last) 30) = w0) ∧ w0.heap[w.heap.size]? = some (.cells (smV room a c L wire last) 30 (0, 0)) ∧ Below w.heap.size w w0 := ⟨_, rfl, heap_alloc_new w _, bnew0 w _⟩
  have hfd := hid (rfind_any (w := w0) (room := room) (wire := wire) (last := last) N (h.below g0).row (by omega))
  go_enter Try.func12, Try.ntmps12
  go_wp2_with (first
    | (rw [hw0.out])
    | (with_reducible refine wpList_loadR rowSm rfl _ rfl _ rfl b0 rfl ?_)
    | (go_at_call 30; (with_reducible refine Calls.mono hfd.out ?_); rintro e w2 ⟨rfl, g2⟩))
  go_ret
  exact ⟨rfl, bstep g0 g2⟩

/-- The number on the wire, taken from there. -/
theorem sm_wire {w1 : World} {g : Nat} (x : Nat) (h : w1.heap[g]? = some (.cells (smV room a c L wire last) 30 (0, 0))) :
    (w1.setCell ⟨g, 2, none⟩ (.int .i64 (x : Int))).heap[g]? = some (.cells (smV room a c L x last) 30 (0, 0)) := heap_setCell_same w1 g 2 _ _ _ h

set_option maxRecDepth 100000 in
set_option maxHeartbeats 4000000 in
theorem rsent_no (w : World) (h : LmO B w a c L T) (hB : B ≤ w.heap.size) (hn : L.length ≤ 1000) :
    Calls Try.prog 25 #[.agg (smV room a c L 0 last)] w (RmR B w room L 0 last T fun v => .returned (.tuple #[v, .int .i64 0, .bool false])) := by
  obtain ⟨r, w1, hw1, HR, b1, r1, g1, hr0, hr1⟩ := sm_boxes w (smV room a c L 0 last)
  obtain ⟨x0, x1, x2, x3⟩ := bx4m b1
  have f1 := bx_thaw b1
  have b2 := sm_wire 0 b1
  have r2 : (w1.setCell ⟨w.heap.size, 2, none⟩ (.int .i64 0)).heap[r]? = some (.cells smZ 30 (0, 0)) := (Below.heap_setCell _ _ _ _ (Nat.ne_of_gt hr0)).trans r1
  have g2 : Below w.heap.size w (w1.setCell ⟨w.heap.size, 2, none⟩ (.int .i64 0)) := g1.setCell (Nat.le_refl _) _
  have hfin := rm_lay (room := room) (wire := 0) (last := last) (fun v => Ending.returned (.tuple #[v, .int .i64 0, .bool false])) h.tL g2 (Nat.le_of_lt hr0) (by rw [sz_set]; exact hr1) (h.below g2) (Below.refl _ _) (fun k hk => .inl hk) (smV room a c L 0 last)
  clear x0 x1 x3
  go_enter Try.func25, Try.ntmps25
  go_wp2_with (first
    | (rw [hw1.out, HR.out])
    | (with_reducible refine wpList_loadR rowSm rfl _ rfl _ rfl b2 rfl ?_)
    | (with_reducible refine wpList_storeR rowSm rfl _ _ rfl _ _ rfl rfl r2 rfl rfl (sm_ones _ _ _ _ _ _) ?_))
  exact bodyPost_ret (v := .tuple #[.agg (smV room a c L 0 last), .int .i64 0, .bool false]) (results_row12 rowSm rfl _ _ _ rfl rfl rfl (setRow_heap _ _ _ _ _ _ r2) rfl) rfl hfin

set_option maxRecDepth 100000 in
set_option maxHeartbeats 4000000 in
theorem rsent_any (w : World) (h : LmO B w a c L T) (hB : B ≤ w.heap.size) (hn : L.length ≤ 1000) (k : Nat) (hk : k < L.length) (hf : fiL (wire : Int) L = (k : Int)) (hw : 0 < wire) :
    Calls Try.prog 25 #[.agg (smV room a c L wire last)] w (RmR B w room (L.take k ++ L.drop (k + 1)) 0 last T fun v => .returned (.tuple #[v, .int .i64 (wire : Int), .bool true])) := by
  obtain ⟨r, w1, hw1, HR, b1, r1, g1, hr0, hr1⟩ := sm_boxes w (smV room a c L wire last)
  obtain ⟨x0, x1, x2, x3⟩ := bx4m b1
  have f1 := bx_thaw b1
  have b2 := sm_wire 0 b1
  have r2 : (w1.setCell ⟨w.heap.size, 2, none⟩ (.int .i64 0)).heap[r]? = some (.cells smZ 30 (0, 0)) := (Below.heap_setCell _ _ _ _ (Nat.ne_of_gt hr0)).trans r1
  have g2 : Below w.heap.size w (w1.setCell ⟨w.heap.size, 2, none⟩ (.int .i64 0)) := g1.setCell (Nat.le_refl _) _
  have h2 := h.below g2
  have hwo := hid (rwithout_any (room := room) (wire := 0) (last := last) (w1.setCell ⟨w.heap.size, 2, none⟩ (.int .i64 0)) (wire : Int) h2 (Nat.le_trans hB g2.size) hn k hk hf)
  have hT := hid h.tL
  have hr2 : r < (w1.setCell ⟨w.heap.size, 2, none⟩ (.int .i64 0)).heap.size := by rw [sz_set]; exact hr1
  have hne : ((wire : Int) == 0) = false := by rw [beq_eq_false_iff_ne]; omega
  clear x0 x1 x3 hf hk h h2 hn
  generalize L.take k ++ L.drop (k + 1) = L2 at *
  go_enter Try.func25, Try.ntmps25
  go_wp2_with (first
    | (rw [hw1.out, HR.out])
    | (with_reducible refine wpList_loadR rowSm rfl _ rfl _ rfl b2 rfl ?_)
    | (go_at_call 36; (with_reducible refine Calls.mono hwo.out ?_); rintro e w4 ⟨a4, c4, T4, rfl, l4, g4, t4⟩; have r4 := bx_below r2 g4)
    | (with_reducible refine wpList_storeR rowSm rfl _ _ rfl _ _ rfl rfl r4 rfl rfl (sm_ones _ _ _ _ _ _) ?_))
  exact bodyPost_ret (v := .tuple #[.agg (smV room a4 c4 L2 0 last), .int .i64 (wire : Int), .bool true]) (results_row12 rowSm rfl _ _ _ rfl rfl rfl (setRow_heap _ _ _ _ _ _ r4) rfl) rfl
    (rm_lay (fun v => Ending.returned (.tuple #[v, .int .i64 (wire : Int), .bool true])) hT.out g2 (Nat.le_of_lt hr0) hr2 l4 g4 t4 _)
end
end Go.Proofs.Ytffbkcjkmhjfnaa
