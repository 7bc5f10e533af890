/-
  Contracts of the document's own answers on mails: one less.
-/
import Derived.Test.YtffbkcjkmhjfnaaB10r
import Derived.Test.YtffbkcjkmhjfnaaMs
namespace Go.Proofs.Ytffbkcjkmhjfnaa
open Go.RowKit Go.Sort
set_option linter.unusedVariables false
set_option linter.unusedSimpArgs false

/-- What a change of a State answers: the list is in blocks that it was in, or new ones. -/
def RmR (B : Nat) (w : World) (room : Nat) (L' : List Sl) (wire last : Nat) (T : Nat → Prop) (f : Value → Ending) (e : Ending) (w' : World) : Prop :=
  ∃ a' c' T', e = f (.agg (smV room a' c' L' wire last)) ∧ LmO B w' a' c' L' T' ∧ Below w.heap.size w w' ∧ ∀ k, T' k → T k ∨ w.heap.size ≤ k

section
variable {B : Nat} {w w1 w' : World} {a a' : Option Addr} {c c' room wire last : Nat} {L L' : List Sl} {S T : Nat → Prop}

theorem LmO.made {n' : Nat} (h : LmO B w a c L T) (hB : B ≤ w.heap.size) (g : Below w.heap.size w w') (o : OK enS 7 70 w.heap.size w' a' n' c' L') (hn : n' = L'.length) (hd : ∀ p ∈ L', WtR w' p.1 ∧ ∀ q, p.1.1.2.1 = some q → T q.block) :
    LmO B w' a' c' L' (fun b => T b ∨ (w.heap.size ≤ b ∧ b < w'.heap.size)) := by
  subst hn
  refine ⟨o.rk enS_k, fun p hp => (hd p hp).1, fun q hq => .inr ⟨(o.ltB hq).2, (o.ltB hq).1⟩, fun p hp q hq => .inl ((hd p hp).2 q hq), fun b hb => ?_, fun b hb => ?_⟩
  · rcases hb with hb | hb
    · exact h.tB b hb
    · omega
  · rcases hb with hb | hb
    · exact Nat.lt_of_lt_of_le (h.tL b hb) g.size
    · exact hb.2

theorem sm_boxes (w : World) (cs : Array Value) : ∃ r w1, Hid ((w.alloc (.cells cs 30)).alloc (.cells smZ 30) = w1) ∧ Hid (w.heap.size + 1 = r) ∧
    w1.heap[w.heap.size]? = some (.cells cs 30 (0, 0)) ∧ w1.heap[r]? = some (.cells smZ 30 (0, 0)) ∧ Below w.heap.size w w1 ∧ w.heap.size < r ∧ r < w1.heap.size :=
  ⟨_, _, rfl, rfl, bx_alloc _ (heap_alloc_new w _), by have := heap_alloc_new (w.alloc (.cells cs 30)) (.cells smZ 30); rwa [heap_size_alloc] at this, bnew (bnew0 w _) _, by show _ < _; omega, by rw [heap_size_alloc, heap_size_alloc]; show _ < _; omega⟩

theorem sm_list {w6 : World} {k n6 : Nat} {a6 : Option Addr} {c6 : Nat} (hn : n6 = L'.length) (h : w6.heap[k]? = some (.cells (smV room a c L wire last) 30 (0, 0))) :
    (w6.setCell ⟨k, 1, none⟩ (.slice a6 n6 c6)).heap[k]? = some (.cells (smV room a6 c6 L' wire last) 30 (0, 0)) := by
  rw [heap_setCell_same w6 k 1 _ _ _ h, hn]; rfl

/-- The list turned in its box, and the box laid into the result's. -/
theorem sm_fin {r n6 : Nat} {w6 : World} {a6 : Option Addr} {c6 : Nat} (f : Value → Ending) (h : LmO B w a c L T) (hB : B ≤ w.heap.size) (g1 : Below w.heap.size w w1) (g6 : Below w1.heap.size w1 w6) (o6 : OK enS 7 70 w1.heap.size w6 a6 n6 c6 L') (hn : n6 = L'.length)
    (hd : ∀ p ∈ L', WtR w6 p.1 ∧ ∀ q, p.1.1.2.1 = some q → T q.block) (hr : w.heap.size < r) (hr1 : r < w1.heap.size) (cs : Array Value) :
    RmR B w room L' wire last T f (f (.agg (smV room a6 c6 L' wire last))) ((w6.setCell ⟨w.heap.size, 1, none⟩ (.slice a6 n6 c6)).setRow r cs) := by
  have hT := h.tL
  have k : Ch (fun b => b = w.heap.size ∨ b = r) w6 ((w6.setCell ⟨w.heap.size, 1, none⟩ (.slice a6 n6 c6)).setRow r cs) :=
    (Ch.setCell (S := fun b => b = w.heap.size ∨ b = r) (Ch.refl _ w6) (p := ⟨w.heap.size, 1, none⟩) (.inl (.inl rfl)) _).setRow (.inl (.inr rfl)) _
  have l6 := (h.below g1).made (Nat.le_trans hB g1.size) g6 o6 hn hd
  refine ⟨a6, c6, _, rfl, l6.ch k (fun b hb e => ?_), k.below (bstep g1 g6) (Nat.le_refl _) (fun b hb => by rcases hb with e | e <;> omega), fun b hb => ?_⟩
  · rcases hb with hb | hb
    · have := hT b hb; rcases e with e | e <;> omega
    · rcases e with e | e <;> omega
  · rcases hb with hb | hb
    · exact .inl hb
    · exact .inr (by have := g1.size; omega)

set_option maxRecDepth 100000 in
set_option maxHeartbeats 8000000 in
theorem rwithout_any (w : World) (N : Int) (h : LmO B w a c L T) (hB : B ≤ w.heap.size) (hn : L.length ≤ 1000) (k : Nat) (hk : k < L.length) (hf : fiL N L = (k : Int)) :
    Calls Try.prog 36 #[.agg (smV room a c L wire last), .int .i64 N] w (RmR B w room (L.take k ++ L.drop (k + 1)) wire last T .returned) := by
  obtain ⟨r, w1, hw1, HR, b1, r1, g1, hr0, hr1⟩ := sm_boxes w (smV room a c L wire last)
  have hL := h.below g1
  have hfd := hid (fun w2 => rfind_any (w := w2) (room := room) (wire := wire) (last := last) (a := a) (c := c) (L := L) N)
  obtain ⟨n, hnL⟩ : ∃ n, L.length = n := ⟨_, rfl⟩
  have HN := hid hnL
  rw [hf] at hfd
  go_enter Try.func36, Try.ntmps36
  go_upto_region 2 with (first
    | (rw [hw1.out, HR.out])
    | (with_reducible refine wpList_loadR rowSm rfl _ rfl _ rfl b1 rfl ?_)
    | (go_at_call 30; (with_reducible refine Calls.mono (hfd.out w1 hL.row (by omega)) ?_); rintro e w2 ⟨rfl, g2⟩))
  have b2 := bx_below b1 g2
  have r2 := bx_below r1 g2
  have hL2 := hL.below g2
  have gg2 := bstep g1 g2
  have z2 : r < w2.heap.size := Nat.lt_of_lt_of_le hr1 g2.size
  clear hw1 HR b1 r1 g1 hL hfd g2 hr1
  have hR := hL2.row
  rw [hnL] at hR hk hn
  rw [show smV room a c L wire last = #[.int .i64 (room : Int), .slice a n c, .int .i64 (wire : Int), .int .i64 (last : Int)] by rw [← hnL]] at b2 ⊢
  clear hnL
  have q0 := (bx4m b2).2.1
  obtain ⟨aT, hcT, hRT⟩ := cutTo_eq elS hR .i64 k (by omega)
  obtain ⟨aF, hcF, hRF⟩ := cutFrom_eq elS hR .i64 (k + 1) (by omega)
  have hkw : IntKind.i64.wrap ((k : Int) + 1) = (k : Int) + 1 := IntWalk.i64_in _ (by omega)
  have hkc : ((k + 1 : Nat) : Int) = (k : Int) + 1 := by omega
  rw [hkc] at hcF
  have hd2 : Below w2.heap.size w2 w2.drew := (Below.refl _ _).drew
  have HS : Below w2.heap.size w2 w2.drew := hd2
  have hq : ∀ w', Below w2.heap.size w2 w' → w'.cell? ⟨w.heap.size, 1, none⟩ = some (.slice a n c) := fun w' hw => (hw.cell (p := ⟨w.heap.size, 1, none⟩) (bx_lt b2)).trans q0
  clear q0
  refine Rest.begin (S := fun w' => Below w2.heap.size w2 w') (X := [4, 5, 10, 11]) (by kernel_rfl) ?_
  change Rest _ _ _ _ _ _ _ _ _ w2.drew
  refine Rest.take (i := 1) (v := .pointer (some ⟨w.heap.size, 1, none⟩)) rfl (by kernel_rfl) (by kernel_rfl) (by kernel_rfl) (by kernel_rfl) (fun _ _ _ h => h) (.inl HS) (Or.inl ⟨by simp [Region.wanted], ?_⟩) ?_
  · intro w; go_simp
  refine Rest.take (i := 3) (v := .int .i64 (k : Int)) rfl (by kernel_rfl) (by kernel_rfl) (by kernel_rfl) (by kernel_rfl) (fun _ _ _ h => h) (.inl HS) (Or.inl ⟨by simp [Region.wanted], ?_⟩) ?_
  · intro w; go_simp
  refine Rest.take (i := 6) (v := .pointer (some ⟨w.heap.size, 1, none⟩)) rfl (by kernel_rfl) (by kernel_rfl) (by kernel_rfl) (by kernel_rfl) (fun _ _ _ h => h) (.inl HS) (Or.inl ⟨by simp [Region.wanted], ?_⟩) ?_
  · intro w; go_simp
  refine Rest.take (i := 8) (v := .int .i64 (k : Int)) rfl (by kernel_rfl) (by kernel_rfl) (by kernel_rfl) (by kernel_rfl) (fun _ _ _ h => h) (.inl HS) (Or.inl ⟨by simp [Region.wanted], ?_⟩) ?_
  · intro w; go_simp
  refine Rest.take (i := 9) (v := .int .i64 ((k : Int) + 1)) rfl (by kernel_rfl) (by kernel_rfl) (by kernel_rfl) (by kernel_rfl) (fun _ _ _ h => h) (.inl HS) (Or.inl ⟨by simp [Region.wanted], ?_⟩) ?_
  · intro w; go_simp
  refine Rest.takeS (i := 2) (v := .slice a n c) rfl (by kernel_rfl) (by kernel_rfl) (by kernel_rfl) (by kernel_rfl) (fun _ _ _ h => h) HS (.inl ⟨by simp [Region.wanted], ?_⟩) ?_
  · intro w' hw; have q := hq w' hw; go_simp
  refine Rest.takeS (i := 7) (v := .slice a n c) rfl (by kernel_rfl) (by kernel_rfl) (by kernel_rfl) (by kernel_rfl) (fun _ _ _ h => h) HS (.inl ⟨by simp [Region.wanted], ?_⟩) ?_
  · intro w' hw; have q := hq w' hw; go_simp
  refine Rest.takeS (i := 4) (v := .slice aT k c) rfl (by kernel_rfl) (by kernel_rfl) (by kernel_rfl) (by kernel_rfl) (fun _ _ _ h => h) HS (.inl ⟨by simp [Region.wanted], ?_⟩) ?_
  · intro w' hw; have q := hcT w'; go_simp
  refine Rest.takeS (i := 10) (v := .slice aF (n - (k + 1)) (c - (k + 1))) rfl (by kernel_rfl) (by kernel_rfl) (by kernel_rfl) (by kernel_rfl) (fun _ _ _ h => h) HS (.inl ⟨by simp [Region.wanted], ?_⟩) ?_
  · intro w' hw; have q := hcF w'; go_simp
  refine Rest.one (i := 0) (by kernel_rfl) rfl (fun K hK => ?_)
  rw [if_pos (by simp [Region.wanted])]
  go_simp
  refine hK _ _ ⟨.inl (hd2.alloc (Nat.le_refl _) _), ?_⟩; clear hK K
  have b7 : Below w2.heap.size w2 (w2.alloc (.cells #[] 70)).drew := (bnew0 w2 _).drew
  have hown : OK enS 7 70 w2.heap.size (w2.alloc (.cells #[] 70)).drew (some ⟨w2.heap.size, 0, none⟩) 0 0 [] := ok_lit enS_k 70 w2.heap.size w2 [] #[] 0 rfl rfl (by omega) (Nat.le_refl _)
  refine Rest.one (i := 5) (by kernel_rfl) rfl (fun K hK => ?_)
  refine step_appgK0 elS enS_k rfl (.tmp 9) (.tmp 13) rfl rfl hown rfl (hRT.below b7) (by omega) (by omega) b7.size ?_
  rintro w8 a8 c8 o8 g8 z8
  have g78 := b7.trans g8
  refine hK _ _ ⟨.inl g78, ?_⟩; clear hK K
  refine Rest.one (i := 11) (by kernel_rfl) rfl (fun K hK => ?_)
  refine step_appgK0 elS enS_k rfl (.tmp 14) (.tmp 19) rfl rfl o8 rfl (hRF.below g78) (by omega) (by omega) g78.size ?_
  rintro w9 a9 c9 o9 g9 z9
  have g79 := g78.trans g9
  refine hK _ _ ⟨.inr (thru_of (by kernel_rfl)), Rest.of_any _ _ _ _ (thru_of (by kernel_rfl)) ?_⟩; clear hK K
  rw [List.nil_append] at o9
  generalize hn2 : 0 + k + (n - (k + 1)) = n2 at *
  have hlen : n2 = (L.take k ++ L.drop (k + 1)).length := by have := HN.out; simp; omega
  have hdd : ∀ p ∈ L.take k ++ L.drop (k + 1), WtR w9 p.1 ∧ ∀ q, p.1.1.2.1 = some q → T q.block := fun p hp => by
    have hp : p ∈ L := by
      rcases List.mem_append.1 hp with h1 | h1
      · exact List.mem_of_mem_take h1
      · exact List.mem_of_mem_drop h1
    exact ⟨((hL2.below g79).dat p hp), h.td p hp⟩
  have b9 := bx_below b2 g79
  have r9 := bx_below r2 g79
  generalize L.take k ++ L.drop (k + 1) = L2 at *
  subst hlen
  clear hn2
  have b10 : (w9.setCell ⟨w.heap.size, 1, none⟩ (.slice a9 L2.length c9)).heap[w.heap.size]? = some (.cells (smV room a9 c9 L2 wire last) 30 (0, 0)) := by
    rw [heap_setCell_same w9 w.heap.size 1 _ _ _ b9]; rfl
  have r10 : (w9.setCell ⟨w.heap.size, 1, none⟩ (.slice a9 L2.length c9)).heap[r]? = some (.cells smZ 30 (0, 0)) := (Below.heap_setCell _ _ _ _ (Nat.ne_of_gt hr0)).trans r9
  have hfin := sm_fin (room := room) (wire := wire) (last := last) Ending.returned h hB gg2 g79 o9 rfl hdd hr0 z2 (smV room a9 c9 L2 wire last)
  have f9 := bx_thaw b9
  obtain ⟨x0, x1, x2, x3⟩ := bx4m b9
  clear HS hq hown b7 hcF hcT hRF hRT o8 g8 z8 g78 hd2 g9 z9 o9 hdd h hL2 hR gg2 b9 r9 b2 r2 g79 x0 x2 x3
  refine wpAny_take (i := 12) (v := .pointer (some ⟨w.heap.size, 1, none⟩)) rfl (by kernel_rfl) (by kernel_rfl) (by kernel_rfl) (fun _ _ _ h => h) (Or.inl ⟨by simp [Region.wanted], ?_⟩) ?_
  · intro w; go_simp
  refine wpAny_ready (rs := [13]) (by kernel_rfl) (by simp) ?_
  refine AllReady.cons rfl (fun K hK => ?_) AllReady.nil
  rw [if_pos (by simp [Region.wanted])]
  go_simp
  refine hK _ _ ?_; clear hK K
  refine wpAny_done (by kernel_rfl) ?_ _
  go_wp2_with (first
    | (with_reducible refine wpList_loadR rowSm rfl _ rfl _ rfl b10 rfl ?_)
    | (with_reducible refine wpList_storeR rowSm rfl _ _ rfl _ _ rfl rfl r10 rfl rfl (sm_ones _ _ _ _ _ _) ?_))
  exact bodyPost_ret (v := .agg (smV room a9 c9 L2 wire last)) (results_row rowSm rfl _ _ _ rfl (setRow_heap _ _ _ _ _ _ r10) rfl) rfl hfin
end
end Go.Proofs.Ytffbkcjkmhjfnaa
