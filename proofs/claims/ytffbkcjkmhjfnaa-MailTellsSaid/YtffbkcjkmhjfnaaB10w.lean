/-
  Contracts of the document's own answers on mails: one is given up.
-/
import Derived.Test.YtffbkcjkmhjfnaaB10v
namespace Go.Proofs.Ytffbkcjkmhjfnaa
open Go.RowKit Go.Sort
set_option linter.unusedVariables false
set_option linter.unusedSimpArgs false

/-- One cell of an element written anew. -/
theorem OK.setAt {α : Type} {enc : α → List Value} {k B n c g i j : Nat} {E : TypeId} {w : World} {l : List α} (hk : EnK enc k) (h : OK enc k E B w (some ⟨g, 0, none⟩) n c l) {p : α} (hp : l[i]? = some p) (hj : j < k) (v : Value) (x : α) (hx : enc x = (enc p).set j v) :
    OK enc k E B (w.setCell ⟨g, i * k + j, none⟩ v) (some ⟨g, 0, none⟩) n c (l.set i x) := by
  obtain ⟨hi, hpe⟩ := List.getElem?_eq_some_iff.1 hp
  rcases h.ex with ⟨h0, _⟩ | ⟨g', cur, h1, h2, h3, h4, h5, h6⟩
  · cases h0
  · cases h1
    refine ⟨by rw [List.length_set]; exact h.len, h.cap, by rw [flat_len hk, List.length_set, h.len], .inr ⟨g, c, _, rfl, h2, heap_setCell_same w g (i * k + j) _ _ _ h3, h.cap, h6, by rw [Array.size_setIfInBounds]; exact h4, ?_⟩⟩
    rw [Array.toList_setIfInBounds, List.take_set, h5]
    have e0 : l.set i p = l := by rw [← hpe]; exact List.set_getElem_self hi
    have e1 := flat_set hk l i hi p
    rw [e0] at e1
    have e2 := flat_set hk l i hi x
    have l1 := flat_len hk l
    have hik : (i + 1) * k ≤ l.length * k := Nat.mul_le_mul_right k hi
    rw [Nat.add_mul] at hik
    rw [e2, hx]
    generalize l.flatMap enc = F at *
    have lt : (List.take (i * k) F).length = i * k := by rw [List.length_take, l1]; omega
    calc F.set (i * k + j) v = (List.take (i * k) F ++ enc p ++ List.drop (i * k + k) F).set (i * k + j) v := by rw [← e1]
      _ = _ := by rw [List.append_assoc, List.set_append_right _ _ (by omega), lt, Nat.add_sub_cancel_left, List.set_append_left _ _ (by rw [hk.len]; exact hj), List.append_assoc]

section
variable {B : Nat} {w w1 w2 w3 w4 w5 w' : World} {a a' a5 : Option Addr} {c c' c5 room wire last r k : Nat} {L L' : List Sl} {S T T' : Nat → Prop}

theorem rabort_fin {gz : Nat} {p : Sl} {w7 : World} (f : Value → Ending) (h : LmO B w a c L T) (hB : B ≤ w.heap.size) (g2 : Below w.heap.size w w2) (g5 : Below w2.heap.size w2 w5) (z5 : w2.heap.size ≤ w5.heap.size) (o7 : OK enS 7 70 w2.heap.size w7 (some ⟨gz, 0, none⟩) L.length c5 (L.set k (p.1, true)))
    (hk : L[k]? = some p) (k7 : Ch (fun b => b = w.heap.size ∨ b = gz) w5 w7) (hgz : w2.heap.size ≤ gz) (hgz5 : gz < w5.heap.size) (hr : w.heap.size < r) (hr1 : r < w2.heap.size) (cs : Array Value) :
    RmR B w room (L.set k (p.1, true)) wire last T f (f (.agg (smV room (some ⟨gz, 0, none⟩) c5 (L.set k (p.1, true)) wire last))) (w7.setRow r cs) := by
  have hT := h.tL
  have z7 := k7.size
  have kr : Ch (fun b => b = r) w7 (w7.setRow r cs) := (Ch.refl (fun b => b = r) w7).setRow (.inl rfl) _
  have hmem : ∀ q ∈ L.set k (p.1, true), ∃ y ∈ L, y.1 = q.1 := fun q hq => by
    rcases List.mem_or_eq_of_mem_set hq with h1 | h1
    · exact ⟨q, h1, rfl⟩
    · exact ⟨p, List.mem_of_getElem? hk, by rw [h1]⟩
  have h5 := (h.below g2).below g5
  have h7 : LmO B w7 (some ⟨gz, 0, none⟩) c5 (L.set k (p.1, true)) (fun b => T b ∨ b = gz) := by
    refine ⟨by rw [List.length_set]; exact o7.rk enS_k, fun q hq => ?_, fun q hq => .inr (by cases hq; rfl), fun q hq z hz => ?_, fun b hb => ?_, fun b hb => ?_⟩
    · obtain ⟨y, hy, he⟩ := hmem q hq
      rw [← he]
      exact (h5.dat y hy).ch k7 (fun z hz e => by have := hT _ (h.td y hy z hz); have := g2.size; rcases e with e | e <;> omega)
    · obtain ⟨y, hy, he⟩ := hmem q hq
      exact .inl (h.td y hy z (by rw [he]; exact hz))
    · rcases hb with hb | rfl
      · exact h.tB b hb
      · have := g2.size; omega
    · rcases hb with hb | rfl
      · have := hT b hb; have := g2.size; omega
      · omega
  refine ⟨_, _, _, rfl, h7.ch kr (fun b hb e => ?_), below_setRow (k7.below (bstep g2 g5) (Nat.le_refl _) (fun b hb => by have := g2.size; rcases hb with e | e <;> omega)) (Nat.le_of_lt hr) _, fun b hb => ?_⟩
  · rcases hb with hb | rfl
    · have := hT b hb; omega
    · omega
  · rcases hb with hb | rfl
    · exact .inl hb
    · exact .inr (by have := g2.size; omega)

set_option maxRecDepth 100000 in
set_option maxHeartbeats 4000000 in
theorem rabort_no (w : World) (N : Int) (h : LmO B w a c L T) (hB : B ≤ w.heap.size) (hn : L.length ≤ 1000) (hf : fiL N L = -1) :
    Calls Try.prog 26 #[.agg (smV room a c L wire last), .int .i64 N] w (RmR B w room L wire last T fun v => .returned (.tuple #[v, .bool false, .int .i64 100])) := by
  obtain ⟨r, w1, hw1, HR, b1, r1, g1, hr0, hr1⟩ := sm_boxes w (smV room a c L wire last)
  have hfd := rfind_any (w := w1) (room := room) (wire := wire) (last := last) N (h.below g1).row (by omega)
  rw [hf] at hfd
  have HF := hid hfd
  clear hfd
  go_enter Try.func26, Try.ntmps26
  go_wp2_with (first
    | (rw [hw1.out, HR.out])
    | (with_reducible refine wpList_loadR rowSm rfl _ rfl _ rfl b1 rfl ?_)
    | (go_at_call 30; (with_reducible refine Calls.mono HF.out ?_); rintro e w2 ⟨rfl, g2⟩; have b2 := bx_below b1 g2; have r2 := bx_below r1 g2)
    | (with_reducible refine wpList_loadR rowSm rfl _ rfl _ rfl b2 rfl ?_)
    | (with_reducible refine wpList_storeR rowSm rfl _ _ rfl _ _ rfl rfl r2 rfl rfl (sm_ones _ _ _ _ _ _) ?_))
  exact bodyPost_ret (v := .tuple #[.agg (smV room a c L wire last), .bool false, .int .i64 100]) (results_row12 rowSm rfl _ _ _ rfl rfl rfl (setRow_heap _ _ _ _ _ _ r2) rfl) rfl
    (rm_lay (fun v => Ending.returned (.tuple #[v, .bool false, .int .i64 100])) h.tL g1 (Nat.le_of_lt hr0) hr1 ((h.below g1).below g2) g2 (fun k hk => .inl hk) _)

set_option maxRecDepth 100000 in
set_option maxHeartbeats 4000000 in
theorem rabort_now (w : World) (N : Int) (h : LmO B w a c L T) (hB : B ≤ w.heap.size) (hn : L.length ≤ 1000) (k : Nat) (hk : k < L.length) (hf : fiL N L = (k : Int)) (hw : (wire : Int) ≠ N) :
    Calls Try.prog 26 #[.agg (smV room a c L wire last), .int .i64 N] w (RmR B w room (L.take k ++ L.drop (k + 1)) wire last T fun v => .returned (.tuple #[v, .bool true, .int .i64 0])) := by
  obtain ⟨r, w1, hw1, HR, b1, r1, g1, hr0, hr1⟩ := sm_boxes w (smV room a c L wire last)
  have hfd := rfind_any (w := w1) (room := room) (wire := wire) (last := last) N (h.below g1).row (by omega)
  rw [hf] at hfd
  have HF := hid hfd
  have hne : ((wire : Int) == N) = false := by rw [beq_eq_false_iff_ne]; exact hw
  have hwo := hid (fun w5 (l5 : LmO B w5 a c L T) (hB5 : B ≤ w5.heap.size) => rwithout_any (room := room) (wire := wire) (last := last) w5 N l5 hB5 hn k hk hf)
  have h1 := h.below g1
  have hT := hid h.tL
  clear hfd hk hf hw
  generalize L.take k ++ L.drop (k + 1) = L2 at *
  go_enter Try.func26, Try.ntmps26
  go_wp2_with (first
    | (rw [hw1.out, HR.out])
    | (with_reducible refine wpList_loadR rowSm rfl _ rfl _ rfl b1 rfl ?_)
    | (go_at_call 30; (with_reducible refine Calls.mono HF.out ?_); rintro e w2 ⟨rfl, g2⟩; have b2 := bx_below b1 g2; have r2 := bx_below r1 g2; obtain ⟨x0, x1, x2, x3⟩ := bx4m b2; have hwo2 := hid (hwo.out w2 (h1.below g2) (Nat.le_trans (Nat.le_trans hB g1.size) g2.size)))
    | (with_reducible refine wpList_loadR rowSm rfl _ rfl _ rfl b2 rfl ?_)
    | (go_at_call 36; (with_reducible refine Calls.mono hwo2.out ?_); rintro e w4 ⟨a4, c4, T4, rfl, l4, g4, t4⟩; have r4 := bx_below r2 g4)
    | (with_reducible refine wpList_storeR rowSm rfl _ _ rfl _ _ rfl rfl r4 rfl rfl (sm_ones _ _ _ _ _ _) ?_))
  exact bodyPost_ret (v := .tuple #[.agg (smV room a4 c4 L2 wire last), .bool true, .int .i64 0]) (results_row12 rowSm rfl _ _ _ rfl rfl rfl (setRow_heap _ _ _ _ _ _ r4) rfl) rfl
    (rm_lay (fun v => Ending.returned (.tuple #[v, .bool true, .int .i64 0])) hT.out (bstep g1 g2) (Nat.le_of_lt hr0) (Nat.lt_of_lt_of_le hr1 g2.size) l4 g4 t4 _)

theorem sm_onesV (room : Nat) (a : Option Addr) (n c wire last : Nat) : (#[.int .i64 (room : Int), .slice a n c, .int .i64 (wire : Int), .int .i64 (last : Int)] : Array Value).all (·.oneCell') = true := by kernel_rfl
set_option maxRecDepth 100000 in
set_option maxHeartbeats 8000000 in
theorem rabort_wire (w : World) (h : LmO B w a c L T) (hB : B ≤ w.heap.size) (hn : L.length ≤ 1000) (k : Nat) (p : Sl) (hk : L[k]? = some p) (hf : fiL (wire : Int) L = (k : Int)) :
    Calls Try.prog 26 #[.agg (smV room a c L wire last), .int .i64 (wire : Int)] w (RmR B w room (L.set k (p.1, true)) wire last T fun v => .returned (.tuple #[v, .bool false, .int .i64 0])) := by
  obtain ⟨r, w1, hw1, HR, b1, r1, g1, hr0, hr1⟩ := sm_boxes w (smV room a c L wire last)
  have hfd := rfind_any (w := w1) (room := room) (wire := wire) (last := last) (wire : Int) (h.below g1).row (by omega)
  rw [hf] at hfd
  have HF := hid hfd
  have h1 := h.below g1
  have HK := hid hk
  have hkL := (List.getElem?_eq_some_iff.1 hk).1
  obtain ⟨n, hnL⟩ : ∃ n, L.length = n := ⟨_, rfl⟩
  have HN := hid hnL
  rw [hnL] at hkL hn
  have hkn : (k : Int) < (n : Int) := by omega
  clear hfd hk hf hnL
  go_enter Try.func26, Try.ntmps26
  go_upto_region 5 with (first
    | (rw [hw1.out, HR.out])
    | (with_reducible refine wpList_loadR rowSm rfl _ rfl _ rfl b1 rfl ?_)
    | (go_at_call 30; (with_reducible refine Calls.mono HF.out ?_); rintro e w2 ⟨rfl, g2⟩; have b2 := bx_below b1 g2; have r2 := bx_below r1 g2; obtain ⟨x0, x1, x2, x3⟩ := bx4m b2))
  have h2 := h1.below g2
  have gg2 := bstep g1 g2
  have hr2 : r < w2.heap.size := Nat.lt_of_lt_of_le hr1 g2.size
  have hw2 : w.heap.size < w2.heap.size := bx_lt b2
  clear hw1 HR HF b1 r1 g1 hr1 h1 g2 x0 x1 x2 x3
  have hrow := h2.row
  rw [HN.out] at hrow
  have hrow3 := hrow.below (bnew0 w2 (.cells #[] 70))
  have b3 := bx_alloc (.cells #[] 70) b2
  have r3 := bx_alloc (.cells #[] 70) r2
  have y1 := (bx4m b3).2.1
  rw [HN.out] at y1
  have hown : OK enS 7 70 w2.heap.size (w2.alloc (.cells #[] 70)) (some ⟨w2.heap.size, 0, none⟩) 0 0 [] := ok_lit enS_k 70 w2.heap.size w2 [] #[] 0 rfl rfl (by omega) (Nat.le_refl _)
  have hz3 : w2.heap.size ≤ (w2.alloc (.cells #[] 70)).heap.size := by rw [heap_size_alloc]; omega
  have hg3 : Below w2.heap.size w2 (w2.alloc (.cells #[] 70)) := bnew0 w2 _
  have hn9 : 0 + n ≤ 1000000000 := by omega
  have hby : 48 ≤ 64 := by omega
  go_wp2_with (first
    | (refine wpList_step fun K hK => ?_
       refine step_appgK0 elS enS_k rfl (.tmp 18) (.tmp 20) rfl rfl hown rfl hrow3 hn9 hby hz3 ?_
       rintro w5 a5 c5 o5 g5 z5
       refine hK _ _ ?_
       clear hK K
       have gg5 := hg3.trans g5
       have b5 := bx_below b2 gg5
       have r5 := bx_below r2 gg5
       rw [Nat.zero_add, List.nil_append] at o5
       rw [Nat.zero_add]
       obtain ⟨gz, ha5, hgz, hgz5⟩ := o5.addr (by omega)
       subst ha5
       have f5 := bx_thaw b5
       have x5 := (bx4m b5).2.1
       have hne : gz ≠ w.heap.size := by omega
       have b6 : (w5.setCell ⟨w.heap.size, 1, none⟩ (.slice (some ⟨gz, 0, none⟩) n c5)).heap[w.heap.size]? = some (.cells #[.int .i64 (room : Int), .slice (some ⟨gz, 0, none⟩) n c5, .int .i64 (wire : Int), .int .i64 (last : Int)] 30 (0, 0)) := heap_setCell_same w5 w.heap.size 1 _ _ _ b5
       have o6 : OK enS 7 70 w2.heap.size (w5.setCell ⟨w.heap.size, 1, none⟩ (.slice (some ⟨gz, 0, none⟩) n c5)) (some ⟨gz, 0, none⟩) n c5 L := o5.kept (fun b hb => by cases hb; exact Below.heap_setCell _ _ _ _ hne)
       obtain ⟨v6, hv6, hf6⟩ : ∃ v6, (w5.setCell ⟨w.heap.size, 1, none⟩ (.slice (some ⟨gz, 0, none⟩) n c5)).cell? ⟨gz, k * 7 + 6, none⟩ = some v6 ∧ (w5.setCell ⟨w.heap.size, 1, none⟩ (.slice (some ⟨gz, 0, none⟩) n c5)).frozen? ⟨gz, k * 7 + 6, none⟩ = false := by
         obtain ⟨q1, q2⟩ := o6.there enS_k hkL 6 (by omega)
         exact ⟨_, Option.eq_some_of_isSome q1, q2⟩
       have x6 := (bx4m b6).2.1
       have b7 : ((w5.setCell ⟨w.heap.size, 1, none⟩ (.slice (some ⟨gz, 0, none⟩) n c5)).setCell ⟨gz, k * 7 + 6, none⟩ (.bool true)).heap[w.heap.size]? = some (.cells #[.int .i64 (room : Int), .slice (some ⟨gz, 0, none⟩) n c5, .int .i64 (wire : Int), .int .i64 (last : Int)] 30 (0, 0)) := (Below.heap_setCell _ _ _ _ (Ne.symm hne)).trans b6
       have r7 : ((w5.setCell ⟨w.heap.size, 1, none⟩ (.slice (some ⟨gz, 0, none⟩) n c5)).setCell ⟨gz, k * 7 + 6, none⟩ (.bool true)).heap[r]? = some (.cells smZ 30 (0, 0)) := (Below.heap_setCell _ _ _ _ (show r ≠ gz by omega)).trans ((Below.heap_setCell _ _ _ _ (Nat.ne_of_gt hr0)).trans r5)
       have o7 := o6.setAt enS_k HK.out (j := 6) (by omega) (.bool true) (p.1, true) rfl
       have k7 : Ch (fun b => b = w.heap.size ∨ b = gz) w5 ((w5.setCell ⟨w.heap.size, 1, none⟩ (.slice (some ⟨gz, 0, none⟩) n c5)).setCell ⟨gz, k * 7 + 6, none⟩ (.bool true)) := Ch.setCell (S := fun b => b = w.heap.size ∨ b = gz) (Ch.setCell (S := fun b => b = w.heap.size ∨ b = gz) (Ch.refl _ w5) (p := ⟨w.heap.size, 1, none⟩) (.inl (.inl rfl)) _) (p := ⟨gz, k * 7 + 6, none⟩) (.inl (.inr rfl)) _
       rw [← HN.out] at o7
       have hfin := rabort_fin (room := room) (wire := wire) (last := last) (r := r) (fun v => Ending.returned (.tuple #[v, .bool false, .int .i64 0])) h hB gg2 gg5 gg5.size o7 HK.out (by rw [HN.out]; exact k7) hgz hgz5 hr0 hr2 #[.int .i64 (room : Int), .slice (some ⟨gz, 0, none⟩) n c5, .int .i64 (wire : Int), .int .i64 (last : Int)]
       rw [show smV room (some ⟨gz, 0, none⟩) c5 (L.set k (p.1, true)) wire last = #[.int .i64 (room : Int), .slice (some ⟨gz, 0, none⟩) n c5, .int .i64 (wire : Int), .int .i64 (last : Int)] by show (#[_, Value.slice _ (L.set k (p.1, true)).length _, _, _] : Array Value) = _; rw [List.length_set, HN.out], HN.out] at hfin
       have HFin := hid hfin
       clear hfin o7 k7 o5 o6 h b5 r5 y1 hrow3 hown hz3 hg3 b3 r3 g5 z5)
    | (with_reducible refine wpList_loadR rowSm rfl _ rfl _ rfl b7 rfl ?_)
    | (with_reducible refine wpList_storeR rowSm rfl _ _ rfl _ _ rfl rfl r7 rfl rfl (sm_onesV _ _ _ _ _ _) ?_))
  exact bodyPost_ret (v := .tuple #[.agg #[.int .i64 (room : Int), .slice (some ⟨gz, 0, none⟩) n c5, .int .i64 (wire : Int), .int .i64 (last : Int)], .bool false, .int .i64 0]) (results_row12 rowSm rfl _ _ _ rfl rfl rfl (setRow_heap _ _ _ _ _ _ r7) rfl) rfl HFin.out
end
end Go.Proofs.Ytffbkcjkmhjfnaa
