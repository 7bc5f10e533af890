/-
  The document's own timers (jackstayref13.State, by value): Cancel and Set.
-/
import Derived.Test.YtpnmnffefdjegaaB13k
namespace Go.Proofs.Ytpnmnffefdjegaa
open Go.RowKit Go.Maps Go.Sort
set_option linter.unusedVariables false

/-- What a change of a State answers: its list is the one that it was, or lies in new memory. -/
def StR (w : World) (a0 : Option Addr) (m' : Wh) (f : Value → Ending) (e : Ending) (w' : World) : Prop :=
  ∃ a c, e = f (.agg (stW m'.now m'.most a m'.L.length c)) ∧ RK enT 2 w' a m'.L.length c m'.L ∧ (∀ q, a = some q → (a0 = some q ∨ w.heap.size ≤ q.block) ∧ q.block < w'.heap.size) ∧ Below w.heap.size w w'

theorem st_boxes13 (w : World) (cs : Array Value) : ∃ r w1, Hid ((w.alloc (.cells cs 30)).alloc (.cells stZ13 30) = w1) ∧ Hid (w.heap.size + 1 = r) ∧
    w1.heap[w.heap.size]? = some (.cells cs 30 (0, 0)) ∧ w1.heap[r]? = some (.cells stZ13 30 (0, 0)) ∧ Below w.heap.size w w1 ∧ w.heap.size < r ∧ r < w1.heap.size :=
  ⟨_, _, rfl, rfl, bx_alloc _ (heap_alloc_new w _), by have := heap_alloc_new (w.alloc (.cells cs 30)) (.cells stZ13 30); rwa [heap_size_alloc] at this, bnew (bnew0 w _) _, by show _ < _; omega, by rw [heap_size_alloc, heap_size_alloc]; show _ < _; omega⟩

section
variable {w w1 w6 w' : World} {a a6 : Option Addr} {n c n6 c6 r : Nat} {L L6 : List Tm} {id now most after : Int} {m : Wh}

/-- The list turned in its box, and the box laid into the result's. -/
theorem st_fin {m' : Wh} (f : Value → Ending) (g1 : Below w.heap.size w w1) (g6 : Below w1.heap.size w1 w6) (hr : w.heap.size < r) (hr1 : r < w1.heap.size) (o6 : OK enT 2 66 w1.heap.size w6 a6 n6 c6 m'.L) (cs : Array Value) (v : Value) :
    StR w a m' f (f (.agg (stW m'.now m'.most a6 n6 c6))) ((w6.setCell ⟨w.heap.size, 2, none⟩ v).setRow r cs) := by
  have hn := o6.len
  have k : Ch (fun b => b = w.heap.size ∨ b = r) w6 ((w6.setCell ⟨w.heap.size, 2, none⟩ v).setRow r cs) :=
    (Ch.setCell (S := fun b => b = w.heap.size ∨ b = r) (Ch.refl _ w6) (p := ⟨w.heap.size, 2, none⟩) (.inl (.inl rfl)) _).setRow (.inl (.inr rfl)) _
  refine ⟨a6, c6, by rw [hn], ?_, fun q hq => ⟨.inr (by have := (o6.ltB hq).2; have := g1.size; omega), by have := (o6.ltB hq).1; have := k.size; omega⟩, k.below (bstep g1 g6) (Nat.le_refl _) (fun b hb => by rcases hb with e | e <;> omega)⟩
  have := (o6.ch k (fun p hp e => by have := (o6.ltB hp).2; rcases e with e | e <;> omega)).rk enT_k
  rwa [← hn] at this
/-- Nothing turned: the box laid into the result's. -/
theorem st_same (f : Value → Ending) (g1 : Below w.heap.size w w6) (hr : w.heap.size < r) (hrow : RK enT 2 w a m.L.length c m.L) (hr1 : r < w6.heap.size) (hlt : ∀ q, a = some q → q.block < w.heap.size) (cs : Array Value) :
    StR w a m f (f (.agg (stW m.now m.most a m.L.length c))) (w6.setRow r cs) :=
  ⟨a, c, rfl, (hrow.below g1).ch (S := fun b => b = r) (Ch.setRow (S := fun b => b = r) (Ch.refl _ w6) (.inl rfl) _) (fun q hq e => by have := hlt q hq; omega), fun q hq => ⟨.inl hq, by have := hlt q hq; have := (below_setRow g1 (Nat.le_of_lt hr) cs).size; omega⟩, below_setRow g1 (Nat.le_of_lt hr) _⟩

set_option maxRecDepth 100000 in
set_option maxHeartbeats 4000000 in
theorem rCancel_any (w : World) (h : RK enT 2 w a m.L.length c m.L) (hn : m.L.length ≤ 100000) :
    Calls Try.prog 13 #[.agg (stW m.now m.most a m.L.length c), .int .i64 id] w (StR w a (cutW m id) fun v => .returned (.tuple #[v, .bool (hasL m.L id)])) := by
  obtain ⟨r, w1, hw1, HR, b1, r1, g1, hr0, hr1⟩ := st_boxes13 w (stW m.now m.most a m.L.length c)
  have hW := rwo_any (id := id) w1 (h.below g1) hn
  obtain ⟨x0, x1, x2⟩ := bx3o b1
  go_enter Try.func13, Try.ntmps13
  go_wp2_with (first
    | (rw [hw1.out, HR.out])
    | (go_at_call 22; (with_reducible refine hW.mono ?_); rintro e w6 ⟨a6, c6, rfl, o6, g6⟩
       have b6 := bx_below b1 g6
       have f6 := bx_thaw b6 2
       have y2 := (bx3o b6).2.2
       have b7 : (w6.setCell ⟨w.heap.size, 2, none⟩ (.slice a6 (outL m.L id).length c6)).heap[w.heap.size]? = some (.cells (stW m.now m.most a6 (outL m.L id).length c6) 30 (0, 0)) := by rw [heap_setCell_same w6 w.heap.size 2 _ _ _ b6]; rfl
       have r7 : (w6.setCell ⟨w.heap.size, 2, none⟩ (.slice a6 (outL m.L id).length c6)).heap[r]? = some (.cells stZ13 30 (0, 0)) := (Below.heap_setCell _ _ _ _ (Nat.ne_of_gt hr0)).trans (bx_below r1 g6)
       have hfin := st_fin (m' := cutW m id) (a := a) (fun v => Ending.returned (.tuple #[v, .bool (hasL m.L id)])) g1 g6 hr0 hr1 o6 (stW m.now m.most a6 (outL m.L id).length c6) (.slice a6 (outL m.L id).length c6))
    | (with_reducible refine wpList_loadR rowSt rfl _ rfl _ rfl b7 rfl ?_)
    | (with_reducible refine wpList_storeR rowSt rfl _ _ rfl _ _ rfl rfl r7 rfl rfl (st_ones13 _ _ _ _ _) ?_))
  exact bodyPost_ret (v := .tuple #[.agg (stW m.now m.most a6 (outL m.L id).length c6), .bool (hasL m.L id)]) (results_row1 rowSt rfl _ _ _ rfl rfl (setRow_heap _ _ _ _ _ _ r7) rfl) rfl hfin

set_option maxRecDepth 100000 in
set_option maxHeartbeats 8000000 in
theorem rSet_bad (w : World) (h : RK enT 2 w a m.L.length c m.L) (hlt : ∀ q, a = some q → q.block < w.heap.size) (hb : id < 0 ∨ 1023 < id ∨ after < 1 ∨ 1099511627776 < after) :
    Calls Try.prog 11 #[.agg (stW m.now m.most a m.L.length c), .int .i64 id, .int .i64 after] w (StR w a m fun v => .returned (.tuple #[v, .int .i64 2])) := by
  obtain ⟨r, w1, hw1, HR, b1, r1, g1, hr0, hr1⟩ := st_boxes13 w (stW m.now m.most a m.L.length c)
  have hfin := st_same (m := m) (fun v => Ending.returned (.tuple #[v, .int .i64 2])) g1 hr0 h hr1 hlt (stW m.now m.most a m.L.length c)
  clear h hlt
  by_cases h1 : id < 0
  · go_enter Try.func11, Try.ntmps11
    go_wp2_with (first
      | (rw [hw1.out, HR.out])
      | (with_reducible refine wpList_loadR rowSt rfl _ rfl _ rfl b1 rfl ?_)
      | (with_reducible refine wpList_storeR rowSt rfl _ _ rfl _ _ rfl rfl r1 rfl rfl (st_ones13 _ _ _ _ _) ?_))
    exact bodyPost_ret (v := .tuple #[.agg (stW m.now m.most a m.L.length c), .int .i64 2]) (results_row1 rowSt rfl _ _ _ rfl rfl (setRow_heap _ _ _ _ _ _ r1) rfl) rfl hfin
  · by_cases h2 : 1023 < id
    · clear hb
      go_enter Try.func11, Try.ntmps11
      go_wp2_with (first
        | (rw [hw1.out, HR.out])
        | (with_reducible refine wpList_loadR rowSt rfl _ rfl _ rfl b1 rfl ?_)
        | (with_reducible refine wpList_storeR rowSt rfl _ _ rfl _ _ rfl rfl r1 rfl rfl (st_ones13 _ _ _ _ _) ?_))
      exact bodyPost_ret (v := .tuple #[.agg (stW m.now m.most a m.L.length c), .int .i64 2]) (results_row1 rowSt rfl _ _ _ rfl rfl (setRow_heap _ _ _ _ _ _ r1) rfl) rfl hfin
    · by_cases h3 : after < 1
      · clear hb
        go_enter Try.func11, Try.ntmps11
        go_wp2_with (first
          | (rw [hw1.out, HR.out])
          | (with_reducible refine wpList_loadR rowSt rfl _ rfl _ rfl b1 rfl ?_)
          | (with_reducible refine wpList_storeR rowSt rfl _ _ rfl _ _ rfl rfl r1 rfl rfl (st_ones13 _ _ _ _ _) ?_))
        exact bodyPost_ret (v := .tuple #[.agg (stW m.now m.most a m.L.length c), .int .i64 2]) (results_row1 rowSt rfl _ _ _ rfl rfl (setRow_heap _ _ _ _ _ _ r1) rfl) rfl hfin
      · have h4 : 1099511627776 < after := by omega
        clear hb
        go_enter Try.func11, Try.ntmps11
        go_wp2_with (first
          | (rw [hw1.out, HR.out])
          | (with_reducible refine wpList_loadR rowSt rfl _ rfl _ rfl b1 rfl ?_)
          | (with_reducible refine wpList_storeR rowSt rfl _ _ rfl _ _ rfl rfl r1 rfl rfl (st_ones13 _ _ _ _ _) ?_))
        exact bodyPost_ret (v := .tuple #[.agg (stW m.now m.most a m.L.length c), .int .i64 2]) (results_row1 rowSt rfl _ _ _ rfl rfl (setRow_heap _ _ _ _ _ _ r1) rfl) rfl hfin

set_option maxRecDepth 100000 in
set_option maxHeartbeats 8000000 in
theorem rSet_full (w : World) (h : RK enT 2 w a m.L.length c m.L) (hlt : ∀ q, a = some q → q.block < w.heap.size) (hn : m.L.length ≤ 100000) (b1 : ¬ id < 0) (b2 : ¬ 1023 < id) (b3 : ¬ after < 1) (b4 : ¬ 1099511627776 < after) (hh : hasL m.L id = false) (hf : (m.L.length : Int) = m.most) :
    Calls Try.prog 11 #[.agg (stW m.now m.most a m.L.length c), .int .i64 id, .int .i64 after] w (StR w a m fun v => .returned (.tuple #[v, .int .i64 5])) := by
  obtain ⟨r, w1, hw1, HR, b1', r1, g1, hr0, hr1⟩ := st_boxes13 w (stW m.now m.most a m.L.length c)
  have hW := rwo_any (id := id) w1 (h.below g1) hn
  rw [hh] at hW
  have hfin := fun w6 (g6 : Below w1.heap.size w1 w6) => st_same (m := m) (fun v => Ending.returned (.tuple #[v, .int .i64 5])) (bstep g1 g6) hr0 h (Nat.lt_of_lt_of_le hr1 g6.size) hlt (stW m.now m.most a m.L.length c)
  obtain ⟨x0, x1, x2⟩ := bx3o b1'
  have hq : ¬ (m.L.length : Int) < m.most := by omega
  have hqe := hid hf
  clear h hlt hh hf
  generalize (outL m.L id).length = n6 at *
  generalize m.L.length = N at *
  generalize m.most = M at *
  generalize m.now = T at *
  go_enter Try.func11, Try.ntmps11
  go_wp2_with (first
    | (rw [hw1.out, HR.out])
    | (go_at_call 22; (with_reducible refine hW.mono ?_); rintro e w6 ⟨a6, c6, rfl, o6, g6⟩
       have b6 := bx_below b1' g6
       have r6 := bx_below r1 g6
       obtain ⟨y0, y1, y2⟩ := bx3o b6)
    | (with_reducible refine wpList_loadR rowSt rfl _ rfl _ rfl b6 rfl ?_)
    | (with_reducible refine wpList_storeR rowSt rfl _ _ rfl _ _ rfl rfl r6 rfl rfl (st_ones13 _ _ _ _ _) ?_))
  exact bodyPost_ret (v := .tuple #[.agg (stW T M a N c), .int .i64 5]) (results_row1 rowSt rfl _ _ _ rfl rfl (setRow_heap _ _ _ _ _ _ r6) rfl) rfl (hfin w6 g6)

set_option maxRecDepth 100000 in
set_option maxHeartbeats 8000000 in
theorem rSet_put (w : World) (h : RK enT 2 w a m.L.length c m.L) (hn : m.L.length ≤ 100000) (h0 : 0 ≤ m.now) (h1 : m.now ≤ 1000000000) (b1 : ¬ id < 0) (b2 : ¬ 1023 < id) (b3 : ¬ after < 1) (b4 : ¬ 1099511627776 < after) (hh : hasL m.L id = true ∨ (m.L.length : Int) < m.most) :
    Calls Try.prog 11 #[.agg (stW m.now m.most a m.L.length c), .int .i64 id, .int .i64 after] w (StR w a (putW m id after) fun v => .returned (.tuple #[v, .int .i64 0])) := by
  obtain ⟨r, w1, hw1, HR, b1', r1, g1, hr0, hr1⟩ := st_boxes13 w (stW m.now m.most a m.L.length c)
  have hW := rwo_any (id := id) w1 (h.below g1) hn
  have hle := out_le (L := m.L) (id := id)
  have hfin := fun w6 a6 n6 c6 (g6 : Below w1.heap.size w1 w6) (o6 : OK enT 2 66 w1.heap.size w6 a6 n6 c6 (outL m.L id ++ [(id, m.now + after)])) => st_fin (m' := putW m id after) (a := a) (fun v => Ending.returned (.tuple #[v, .int .i64 0])) g1 g6 hr0 hr1 o6 (stW m.now m.most a6 n6 c6) (.slice a6 n6 c6)
  rw [show (putW m id after).now = m.now from rfl, show (putW m id after).most = m.most from rfl] at hfin
  have hfin' := hid hfin
  obtain ⟨x0, x1, x2⟩ := bx3o b1'
  have hgd : (decide (m.most ≤ (m.L.length : Int))) = false ∨ hasL m.L id = true := by
    rcases hh with e | e
    · exact .inr e
    · exact .inl (decide_eq_false (by omega))
  clear h hh hfin
  obtain ⟨O, hO⟩ : ∃ O, O = outL m.L id := ⟨_, rfl⟩
  simp only [← hO] at hW hle hfin'
  clear hO
  generalize putW m id after = m' at *
  generalize hasL m.L id = hv at *
  generalize m.L.length = N at *
  generalize m.most = M at *
  generalize m.now = T at *
  cases hv
  · have hgd2 : decide (M ≤ (N : Int)) = false := by rcases hgd with e | e; exact e; cases e
    have hgd3 : (N : Int) < M := by rw [decide_eq_false_iff_not] at hgd2; omega
    clear hgd
    go_enter Try.func11, Try.ntmps11
    go_wp2_with (first
      | (rw [hw1.out, HR.out])
      | (go_at_call 22; (with_reducible refine hW.mono ?_); rintro e w6 ⟨a6, c6, rfl, o6, g6⟩
         have b6 := bx_below b1' g6
         have r6 := bx_below r1 g6
         obtain ⟨y0, y1, y2⟩ := bx3o b6)
      | (with_reducible refine wpList_appK (w := w6.alloc (.cells (tmV (id, T + after)) 66)) elT enT_k rfl _ _ rfl rfl (o6.alloc _) rfl ((ok_lit enT_k 66 0 w6 [(id, T + after)] (tmV (id, T + after)) 1 (by simp [enT]) rfl (by omega) (Nat.zero_le _)).rk enT_k) (by omega) (by omega) (by rw [heap_size_alloc]; have := g6.size; omega) ?_
         intro w7 a7 c7 o7 g7
         have g17 := (bnew g6 (.cells (tmV (id, T + after)) 66)).trans g7
         have b7 := bx_below b1' g17
         have f7 := bx_thaw b7 2
         have z2 := (bx3o b7).2.2
         have b8 : (w7.setCell ⟨w.heap.size, 2, none⟩ (.slice a7 (O.length + 1) c7)).heap[w.heap.size]? = some (.cells (stW T M a7 (O.length + 1) c7) 30 (0, 0)) := by rw [heap_setCell_same w7 w.heap.size 2 _ _ _ b7]; rfl
         have r8 : (w7.setCell ⟨w.heap.size, 2, none⟩ (.slice a7 (O.length + 1) c7)).heap[r]? = some (.cells stZ13 30 (0, 0)) := (Below.heap_setCell _ _ _ _ (Nat.ne_of_gt hr0)).trans (bx_below r1 g17))
      | (with_reducible refine wpList_loadR rowSt rfl _ rfl _ rfl b8 rfl ?_)
      | (with_reducible refine wpList_storeR rowSt rfl _ _ rfl _ _ rfl rfl r8 rfl rfl (st_ones13 _ _ _ _ _) ?_))
    exact bodyPost_ret (v := .tuple #[.agg (stW T M a7 (O.length + 1) c7), .int .i64 0]) (results_row1 rowSt rfl _ _ _ rfl rfl (setRow_heap _ _ _ _ _ _ r8) rfl) rfl (hfin'.out w7 a7 (O.length + 1) c7 g17 o7)
  · clear hgd
    go_enter Try.func11, Try.ntmps11
    go_wp2_with (first
      | (rw [hw1.out, HR.out])
      | (go_at_call 22; (with_reducible refine hW.mono ?_); rintro e w6 ⟨a6, c6, rfl, o6, g6⟩
         have b6 := bx_below b1' g6
         have r6 := bx_below r1 g6
         obtain ⟨y0, y1, y2⟩ := bx3o b6)
      | (with_reducible refine wpList_appK (w := w6.alloc (.cells (tmV (id, T + after)) 66)) elT enT_k rfl _ _ rfl rfl (o6.alloc _) rfl ((ok_lit enT_k 66 0 w6 [(id, T + after)] (tmV (id, T + after)) 1 (by simp [enT]) rfl (by omega) (Nat.zero_le _)).rk enT_k) (by omega) (by omega) (by rw [heap_size_alloc]; have := g6.size; omega) ?_
         intro w7 a7 c7 o7 g7
         have g17 := (bnew g6 (.cells (tmV (id, T + after)) 66)).trans g7
         have b7 := bx_below b1' g17
         have f7 := bx_thaw b7 2
         have z2 := (bx3o b7).2.2
         have b8 : (w7.setCell ⟨w.heap.size, 2, none⟩ (.slice a7 (O.length + 1) c7)).heap[w.heap.size]? = some (.cells (stW T M a7 (O.length + 1) c7) 30 (0, 0)) := by rw [heap_setCell_same w7 w.heap.size 2 _ _ _ b7]; rfl
         have r8 : (w7.setCell ⟨w.heap.size, 2, none⟩ (.slice a7 (O.length + 1) c7)).heap[r]? = some (.cells stZ13 30 (0, 0)) := (Below.heap_setCell _ _ _ _ (Nat.ne_of_gt hr0)).trans (bx_below r1 g17))
      | (with_reducible refine wpList_loadR rowSt rfl _ rfl _ rfl b8 rfl ?_)
      | (with_reducible refine wpList_storeR rowSt rfl _ _ rfl _ _ rfl rfl r8 rfl rfl (st_ones13 _ _ _ _ _) ?_))
    exact bodyPost_ret (v := .tuple #[.agg (stW T M a7 (O.length + 1) c7), .int .i64 0]) (results_row1 rowSt rfl _ _ _ rfl rfl (setRow_heap _ _ _ _ _ _ r8) rfl) rfl (hfin'.out w7 a7 (O.length + 1) c7 g17 o7)

/-- Set, of a State by value, whatever it is asked. -/
theorem rSet_any (w : World) (hI : WhI m) (hnow : m.now ≤ 1000000000) (h : RK enT 2 w a m.L.length c m.L) (hlt : ∀ q, a = some q → q.block < w.heap.size) :
    Calls Try.prog 11 #[.agg (stW m.now m.most a m.L.length c), .int .i64 id, .int .i64 after] w (StR w a (setW m id after) fun v => .returned (.tuple #[v, .int .i64 (setC m id after)])) := by
  have hn : m.L.length ≤ 100000 := by have := hI.len; have := hI.most; omega
  unfold setC setW
  cases hb : badA id after
  · simp only [Bool.false_eq_true, if_false]
    have hb' := hb
    simp only [badA, Bool.or_eq_false_iff, decide_eq_false_iff_not] at hb'
    obtain ⟨⟨⟨b1, b2⟩, b3⟩, b4⟩ := hb'
    cases hf : fullW m id
    · simp only [Bool.false_eq_true, if_false]
      refine rSet_put w h hn hI.n0 hnow b1 b2 b3 b4 ?_
      cases hh : hasL m.L id
      · right
        simp only [fullW, hh, Bool.not_false, Bool.true_and, decide_eq_false_iff_not] at hf
        have := hI.len; omega
      · exact .inl rfl
    · simp only [if_true]
      simp only [fullW, Bool.and_eq_true, Bool.not_eq_true', decide_eq_true_eq] at hf
      exact rSet_full w h hlt hn b1 b2 b3 b4 hf.1 hf.2
  · simp only [if_true]
    simp only [badA, Bool.or_eq_true, decide_eq_true_eq] at hb
    exact rSet_bad w h hlt (by omega)
end
end Go.Proofs.Ytpnmnffefdjegaa
