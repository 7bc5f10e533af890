/-
  The mail and the document's State beside it; one operation on both (jackstaylaw10.step).
-/
import Derived.Test.YtffbkcjkmhjfnaaB10z
import Derived.Test.YtffbkcjkmhjfnaaM10e
import Derived.Test.YtffbkcjkmhjfnaaB10o
import Derived.Test.YtffbkcjkmhjfnaaOpen10
import Derived.Deep.DeepCutAuto
namespace Go.Proofs.Ytffbkcjkmhjfnaa
open Go.RowKit Go.Sort
set_option linter.unusedVariables false
set_option linter.unusedSimpArgs false

/-- The mail and the State beside it are alike, and lie apart. -/
def MtR (w : World) (g hm R n : Nat) (wr : World) : Prop :=
  ∃ m a c S La lc L T, MlO w.heap.size wr g m a c S ∧ MlI m ∧ LmO w.heap.size wr La lc L T ∧ MsR m L ∧ m.room = R ∧ m.puts ≤ n ∧
    wr.heap[hm]? = some (.cells (smV R La lc L m.wire m.puts) 30 (0, 0)) ∧ w.heap.size ≤ hm ∧ ¬ S hm ∧ ¬ T hm ∧ (∀ k, T k → ¬ S k) ∧ Below w.heap.size w wr

theorem MtR.below {w w1 w2 : World} {g hm R n : Nat} (h : MtR w g hm R n w1) (k : Below w1.heap.size w1 w2) : MtR w g hm R n w2 := by
  obtain ⟨m, a, c, S, La, lc, L, T, hF, hI, hL, hM, hR, hn, hbx, hhm, hnS, hnT, hTS, hb⟩ := h
  exact ⟨m, a, c, S, La, lc, L, T, hF.below k, hI, hL.below k, hM, hR, hn, bx_below hbx k, hhm, hnS, hnT, hTS, bstep hb k⟩

/-- What was changed behind a step: the State in its box, then the mail. -/
theorem mt_next {w wr w4 w5 w6 : World} {g hm R n : Nat} {m' : Ml} {a6 la' : Option Addr} {c6 lc' : Nat} {S S' T T' : Nat → Prop} {L' : List Sl}
    (g4 : Below wr.heap.size wr w4) (hb : Below w.heap.size w wr) (k5 : Ch (fun b => b = hm) w4 w5) (b5 : w5.heap[hm]? = some (.cells (smV R la' lc' L' m'.wire m'.puts) 30 (0, 0))) (k6 : Ch S w5 w6) (hF : MlO w.heap.size w6 g m' a6 c6 S')
    (hS' : ∀ b, S' b → S b ∨ w5.heap.size ≤ b) (hI : MlI m') (hL : LmO w.heap.size w4 la' lc' L' T') (hT' : ∀ k, T' k → T k ∨ wr.heap.size ≤ k) (hM : MsR m' L') (hR : m'.room = R) (hn : m'.puts ≤ n)
    (hhm : w.heap.size ≤ hm) (hlt : hm < wr.heap.size) (hSB : ∀ k, S k → w.heap.size ≤ k) (hSL : ∀ k, S k → k < wr.heap.size) (hnS : ¬ S hm) (hnT : ¬ T hm) (hTS : ∀ k, T k → ¬ S k) : MtR w g hm R n w6 := by
  have z4 := g4.size
  have z5 := k5.size
  have hnT' : ¬ T' hm := fun e => by
    rcases hT' _ e with h | h
    · exact hnT h
    · omega
  have hTS' : ∀ k, T' k → ¬ S k := fun k hk e => by
    rcases hT' _ hk with h | h
    · exact hTS _ h e
    · have := hSL _ e; omega
  have hT5 := hL.tL
  have l5 : LmO w.heap.size w5 la' lc' L' T' := hL.ch k5 (fun b hb e => hnT' (by rw [← e]; exact hb))
  refine ⟨m', a6, c6, S', la', lc', L', T', hF, hI, l5.ch k6 hTS', hM, hR, hn, k6.bx b5 hnS, hhm, fun e => ?_, hnT', fun k hk e => ?_, k6.below (k5.below (bstep hb g4) (Nat.le_refl _) (fun b hb => by rw [hb]; exact hhm)) (Nat.le_refl _) hSB⟩
  · rcases hS' _ e with h | h
    · exact hnS h
    · omega
  · rcases hS' _ e with h | h
    · exact hTS' _ hk h
    · have := hT5 _ hk; omega

theorem mt_ch {wr w4 w5 w6 : World} {hm : Nat} {S : Nat → Prop} (g4 : Below wr.heap.size wr w4) (k5 : Ch (fun b => b = hm) w4 w5) (k6 : Ch S w5 w6) : Ch (fun b => S b ∨ b = hm) wr w6 :=
  ((Ch.of_below (S := fun b => S b ∨ b = hm) g4).trans k5 (fun b hb => .inl (.inr hb))).trans k6 (fun b hb => .inl (.inl hb))

set_option maxRecDepth 100000 in
set_option maxHeartbeats 8000000 in
theorem step_start {w wr : World} {g hm R n : Nat} {m m' : Ml} {a La : Option Addr} {c lc : Nat} {S T : Nat → Prop} {L L' : List Sl} (o : Op10) (hF : MlO w.heap.size wr g m a c S) (hL : LmO w.heap.size wr La lc L T) (hbx : wr.heap[hm]? = some (.cells (smV R La lc L m.wire m.puts) 30 (0, 0))) (hhm : w.heap.size ≤ hm) (hnS : ¬ S hm) (hnT : ¬ T hm) (hTS : ∀ k, T k → ¬ S k) (hb : Below w.heap.size w wr) (hr : (o.1 : Int) % 8 = 3) (N : Nat) (ok : Bool)
    (hRef : ∀ w1, Below wr.heap.size wr w1 → Calls Try.prog 23 #[.agg (smV R La lc L m.wire m.puts)] w1 (RmR w.heap.size w1 R L' m'.wire m'.puts T fun v => .returned (.tuple #[v, .int .i64 (N : Int), .bool ok])))
    (hMail : ∀ w1, MlO w.heap.size w1 g m a c S → Calls Try.prog 18 #[.pointer (some ⟨g, 0, none⟩)] w1 fun e w' => e = .returned (.tuple #[.int .i64 (N : Int), .bool ok]) ∧ Mle w.heap.size w1 g m' a c S w')
    (hI' : MlI m') (hM' : MsR m' L') (hR' : m'.room = R) (hn' : m'.puts ≤ n) :
    Calls Try.prog 6 #[.pointer (some ⟨g, 0, none⟩), .pointer (some ⟨hm, 0, none⟩), .agg (opV10 o)] wr fun e w' => e = .returned (.bool true) ∧ MtR w g hm R n w' ∧ Ch (fun b => S b ∨ b = hm) wr w' := by
  have hlt : hm < wr.heap.size := bx_lt hbx
  have hSL := hF.sL
  have hSB := hF.sB
  obtain ⟨w1, hw1, b1, g1, z1⟩ : ∃ w1, Hid (wr.alloc (.cells (opV10 o) 36) = w1) ∧ w1.heap[wr.heap.size]? = some (.cells (opV10 o) 36 (0, 0)) ∧ Below wr.heap.size wr w1 ∧ wr.heap.size < w1.heap.size := ⟨_, rfl, heap_alloc_new wr _, bnew0 wr _, by rw [heap_size_alloc]; omega⟩
  have HRf := hid (hRef w1 g1)
  have HMl := hid hMail
  have s1 := bx_below hbx g1
  have x0 : w1.cell? ⟨wr.heap.size, 0, none⟩ = some (.int .u8 (o.1 : Int)) := by rw [cell_of_row _ _ 0 _ _ _ b1]; rfl
  clear hRef hMail
  go_enter Try.func6, Try.ntmps6
  go_wp2_with (first
    | (rw [hw1.out])
    | (with_reducible refine wpList_loadR rowSm rfl _ rfl _ rfl s1 rfl ?_)
    | (go_at_call 23; (with_reducible refine Calls.mono HRf.out ?_); rintro e w3 ⟨a3, c3, T3, rfl, l3, g3, t3⟩
       have s3 := bx_alloc (.cells smZ 30) (bx_below s1 g3)
       have f3 := heap_alloc_new w3 (.cells smZ 30))
    | (with_reducible refine wpList_storeR rowSm rfl _ _ rfl _ _ rfl rfl f3 rfl rfl (sm_ones _ _ _ _ _ _) ?_
       have g34 : Below w3.heap.size w3 ((w3.alloc (.cells smZ 30)).setRow w3.heap.size (smV R a3 c3 L' m'.wire m'.puts)) := below_setRow (bnew0 w3 _) (Nat.le_refl _) _
       have f4 := setRow_heap _ _ _ (smV R a3 c3 L' m'.wire m'.puts) _ _ f3
       have s4 := bx_below (bx_below s1 g3) g34
       clear s3 f3
       generalize (w3.alloc (.cells smZ 30)).setRow w3.heap.size (smV R a3 c3 L' m'.wire m'.puts) = w4 at *)
    | (with_reducible refine wpList_loadR rowSm rfl _ rfl _ rfl f4 rfl ?_)
    | (with_reducible refine wpList_storeR rowSm rfl _ _ rfl _ _ rfl rfl s4 rfl rfl (sm_ones _ _ _ _ _ _) ?_
       have k5 : Ch (fun b => b = hm) w4 (w4.setRow hm (smV R a3 c3 L' m'.wire m'.puts)) := (Ch.refl (fun b => b = hm) w4).setRow (.inl rfl) _
       have b5 := setRow_heap _ _ _ (smV R a3 c3 L' m'.wire m'.puts) _ _ s4
       have g14 := bstep (bstep g1 g3) g34
       have hF5 := (hF.below g14).ch k5 (fun b hb e => hnS (by rw [← e]; exact hb))
       have l4 := l3.below g34
       clear f4 s4 l3
       generalize w4.setRow hm (smV R a3 c3 L' m'.wire m'.puts) = w5 at *)
    | (go_at_call 18; (with_reducible refine Calls.mono (HMl.out _ hF5) ?_); rintro e w6 ⟨rfl, hF6, k6⟩))
  go_ret
  exact ⟨rfl, mt_next g14 hb k5 b5 k6 hF6 (fun b hb => .inl hb) hI' l4 (fun k hk => by rcases t3 k hk with h | h; exact .inl h; exact .inr (by omega)) hM' hR' hn' hhm hlt hSB hSL hnS hnT hTS, mt_ch g14 k5 k6⟩

set_option maxRecDepth 100000 in
set_option maxHeartbeats 8000000 in
theorem step_sent {w wr : World} {g hm R n : Nat} {m m' : Ml} {a La : Option Addr} {c lc : Nat} {S T : Nat → Prop} {L L' : List Sl} (o : Op10) (hF : MlO w.heap.size wr g m a c S) (hL : LmO w.heap.size wr La lc L T) (hbx : wr.heap[hm]? = some (.cells (smV R La lc L m.wire m.puts) 30 (0, 0))) (hhm : w.heap.size ≤ hm) (hnS : ¬ S hm) (hnT : ¬ T hm) (hTS : ∀ k, T k → ¬ S k) (hb : Below w.heap.size w wr) (hr : (o.1 : Int) % 8 = 5) (N : Nat) (ok : Bool)
    (hRef : ∀ w1, Below wr.heap.size wr w1 → Calls Try.prog 25 #[.agg (smV R La lc L m.wire m.puts)] w1 (RmR w.heap.size w1 R L' m'.wire m'.puts T fun v => .returned (.tuple #[v, .int .i64 (N : Int), .bool ok])))
    (hMail : ∀ w1, MlO w.heap.size w1 g m a c S → Calls Try.prog 21 #[.pointer (some ⟨g, 0, none⟩)] w1 fun e w' => e = .returned (.tuple #[.int .i64 (N : Int), .bool ok]) ∧ Mle w.heap.size w1 g m' a c S w')
    (hI' : MlI m') (hM' : MsR m' L') (hR' : m'.room = R) (hn' : m'.puts ≤ n) :
    Calls Try.prog 6 #[.pointer (some ⟨g, 0, none⟩), .pointer (some ⟨hm, 0, none⟩), .agg (opV10 o)] wr fun e w' => e = .returned (.bool true) ∧ MtR w g hm R n w' ∧ Ch (fun b => S b ∨ b = hm) wr w' := by
  have hlt : hm < wr.heap.size := bx_lt hbx
  have hSL := hF.sL
  have hSB := hF.sB
  obtain ⟨w1, hw1, b1, g1, z1⟩ : ∃ w1, Hid (wr.alloc (.cells (opV10 o) 36) = w1) ∧ w1.heap[wr.heap.size]? = some (.cells (opV10 o) 36 (0, 0)) ∧ Below wr.heap.size wr w1 ∧ wr.heap.size < w1.heap.size := ⟨_, rfl, heap_alloc_new wr _, bnew0 wr _, by rw [heap_size_alloc]; omega⟩
  have HRf := hid (hRef w1 g1)
  have HMl := hid hMail
  have s1 := bx_below hbx g1
  have x0 : w1.cell? ⟨wr.heap.size, 0, none⟩ = some (.int .u8 (o.1 : Int)) := by rw [cell_of_row _ _ 0 _ _ _ b1]; rfl
  clear hRef hMail
  go_enter Try.func6, Try.ntmps6
  go_wp2_with (first
    | (rw [hw1.out])
    | (with_reducible refine wpList_loadR rowSm rfl _ rfl _ rfl s1 rfl ?_)
    | (go_at_call 25; (with_reducible refine Calls.mono HRf.out ?_); rintro e w3 ⟨a3, c3, T3, rfl, l3, g3, t3⟩
       have s3 := bx_alloc (.cells smZ 30) (bx_below s1 g3)
       have f3 := heap_alloc_new w3 (.cells smZ 30))
    | (with_reducible refine wpList_storeR rowSm rfl _ _ rfl _ _ rfl rfl f3 rfl rfl (sm_ones _ _ _ _ _ _) ?_
       have g34 : Below w3.heap.size w3 ((w3.alloc (.cells smZ 30)).setRow w3.heap.size (smV R a3 c3 L' m'.wire m'.puts)) := below_setRow (bnew0 w3 _) (Nat.le_refl _) _
       have f4 := setRow_heap _ _ _ (smV R a3 c3 L' m'.wire m'.puts) _ _ f3
       have s4 := bx_below (bx_below s1 g3) g34
       clear s3 f3
       generalize (w3.alloc (.cells smZ 30)).setRow w3.heap.size (smV R a3 c3 L' m'.wire m'.puts) = w4 at *)
    | (with_reducible refine wpList_loadR rowSm rfl _ rfl _ rfl f4 rfl ?_)
    | (with_reducible refine wpList_storeR rowSm rfl _ _ rfl _ _ rfl rfl s4 rfl rfl (sm_ones _ _ _ _ _ _) ?_
       have k5 : Ch (fun b => b = hm) w4 (w4.setRow hm (smV R a3 c3 L' m'.wire m'.puts)) := (Ch.refl (fun b => b = hm) w4).setRow (.inl rfl) _
       have b5 := setRow_heap _ _ _ (smV R a3 c3 L' m'.wire m'.puts) _ _ s4
       have g14 := bstep (bstep g1 g3) g34
       have hF5 := (hF.below g14).ch k5 (fun b hb e => hnS (by rw [← e]; exact hb))
       have l4 := l3.below g34
       clear f4 s4 l3
       generalize w4.setRow hm (smV R a3 c3 L' m'.wire m'.puts) = w5 at *)
    | (go_at_call 21; (with_reducible refine Calls.mono (HMl.out _ hF5) ?_); rintro e w6 ⟨rfl, hF6, k6⟩))
  go_ret
  exact ⟨rfl, mt_next g14 hb k5 b5 k6 hF6 (fun b hb => .inl hb) hI' l4 (fun k hk => by rcases t3 k hk with h | h; exact .inl h; exact .inr (by omega)) hM' hR' hn' hhm hlt hSB hSL hnS hnT hTS, mt_ch g14 k5 k6⟩

set_option maxRecDepth 100000 in
set_option maxHeartbeats 8000000 in
theorem step_lost {w wr : World} {g hm R n : Nat} {m m' : Ml} {a La : Option Addr} {c lc : Nat} {S T : Nat → Prop} {L L' : List Sl} (o : Op10) (hF : MlO w.heap.size wr g m a c S) (hL : LmO w.heap.size wr La lc L T) (hbx : wr.heap[hm]? = some (.cells (smV R La lc L m.wire m.puts) 30 (0, 0))) (hhm : w.heap.size ≤ hm) (hnS : ¬ S hm) (hnT : ¬ T hm) (hTS : ∀ k, T k → ¬ S k) (hb : Below w.heap.size w wr) (hr : (o.1 : Int) % 8 = 4)
    (hRef : ∀ w1, Below wr.heap.size wr w1 → Calls Try.prog 24 #[.agg (smV R La lc L m.wire m.puts)] w1 (RmR w.heap.size w1 R L' m'.wire m'.puts T .returned))
    (hMail : ∀ w1, MlO w.heap.size w1 g m a c S → Calls Try.prog 20 #[.pointer (some ⟨g, 0, none⟩)] w1 fun e w' => e = .returned (.tuple #[]) ∧ Mle w.heap.size w1 g m' a c S w')
    (hI' : MlI m') (hM' : MsR m' L') (hR' : m'.room = R) (hn' : m'.puts ≤ n) :
    Calls Try.prog 6 #[.pointer (some ⟨g, 0, none⟩), .pointer (some ⟨hm, 0, none⟩), .agg (opV10 o)] wr fun e w' => e = .returned (.bool true) ∧ MtR w g hm R n w' ∧ Ch (fun b => S b ∨ b = hm) wr w' := by
  have hlt : hm < wr.heap.size := bx_lt hbx
  have hSL := hF.sL
  have hSB := hF.sB
  obtain ⟨w1, hw1, b1, g1, z1⟩ : ∃ w1, Hid (wr.alloc (.cells (opV10 o) 36) = w1) ∧ w1.heap[wr.heap.size]? = some (.cells (opV10 o) 36 (0, 0)) ∧ Below wr.heap.size wr w1 ∧ wr.heap.size < w1.heap.size := ⟨_, rfl, heap_alloc_new wr _, bnew0 wr _, by rw [heap_size_alloc]; omega⟩
  have HRf := hid (hRef w1 g1)
  have HMl := hid hMail
  have s1 := bx_below hbx g1
  have x0 : w1.cell? ⟨wr.heap.size, 0, none⟩ = some (.int .u8 (o.1 : Int)) := by rw [cell_of_row _ _ 0 _ _ _ b1]; rfl
  clear hRef hMail
  go_enter Try.func6, Try.ntmps6
  go_wp2_with (first
    | (rw [hw1.out])
    | (with_reducible refine wpList_loadR rowSm rfl _ rfl _ rfl s1 rfl ?_)
    | (go_at_call 24; (with_reducible refine Calls.mono HRf.out ?_); rintro e w4 ⟨a3, c3, T3, rfl, l4, g4, t3⟩
       have s4 := bx_below s1 g4)
    | (with_reducible refine wpList_storeR rowSm rfl _ _ rfl _ _ rfl rfl s4 rfl rfl (sm_ones _ _ _ _ _ _) ?_
       have k5 : Ch (fun b => b = hm) w4 (w4.setRow hm (smV R a3 c3 L' m'.wire m'.puts)) := (Ch.refl (fun b => b = hm) w4).setRow (.inl rfl) _
       have b5 := setRow_heap _ _ _ (smV R a3 c3 L' m'.wire m'.puts) _ _ s4
       have g14 := bstep g1 g4
       have hF5 := (hF.below g14).ch k5 (fun b hb e => hnS (by rw [← e]; exact hb))
       clear s4
       generalize w4.setRow hm (smV R a3 c3 L' m'.wire m'.puts) = w5 at *)
    | (go_at_call 20; (with_reducible refine Calls.mono (HMl.out _ hF5) ?_); rintro e w6 ⟨rfl, hF6, k6⟩))
  go_ret
  exact ⟨rfl, mt_next g14 hb k5 b5 k6 hF6 (fun b hb => .inl hb) hI' l4 (fun k hk => by rcases t3 k hk with h | h; exact .inl h; exact .inr (by omega)) hM' hR' hn' hhm hlt hSB hSL hnS hnT hTS, mt_ch g14 k5 k6⟩

theorem cell_other_row (w : World) (p b i : Nat) (cs : Array Value) (h : b ≠ p) : (w.setRow p cs).cell? ⟨b, i, none⟩ = w.cell? ⟨b, i, none⟩ := by
  have k : Ch (fun x => x = p) w (w.setRow p cs) := (Ch.refl (fun x => x = p) w).setRow (.inl rfl) _
  unfold World.cell?
  simp only [setRow_other _ _ _ _ h]

set_option maxRecDepth 100000 in
set_option maxHeartbeats 8000000 in
theorem step_abort6 {w wr : World} {g hm R n : Nat} {m m' : Ml} {a La : Option Addr} {c lc : Nat} {S T : Nat → Prop} {L L' : List Sl} (o : Op10) (hF : MlO w.heap.size wr g m a c S) (hL : LmO w.heap.size wr La lc L T) (hbx : wr.heap[hm]? = some (.cells (smV R La lc L m.wire m.puts) 30 (0, 0))) (hhm : w.heap.size ≤ hm) (hnS : ¬ S hm) (hnT : ¬ T hm) (hTS : ∀ k, T k → ¬ S k) (hb : Below w.heap.size w wr) (hr : (o.1 : Int) % 8 = 6) (ok : Bool) (en : Int)
    (hRef : ∀ w1, Below wr.heap.size wr w1 → Calls Try.prog 26 #[.agg (smV R La lc L m.wire m.puts), .int .i64 o.2.2] w1 (RmR w.heap.size w1 R L' m'.wire m'.puts T fun v => .returned (.tuple #[v, .bool ok, .int .i64 en])))
    (hMail : ∀ w1, MlO w.heap.size w1 g m a c S → Calls Try.prog 19 #[.pointer (some ⟨g, 0, none⟩), .int .i64 o.2.2] w1 fun e w' => e = .returned (.tuple #[.bool ok, .int .i64 en]) ∧ Mle w.heap.size w1 g m' a c S w')
    (hI' : MlI m') (hM' : MsR m' L') (hR' : m'.room = R) (hn' : m'.puts ≤ n) :
    Calls Try.prog 6 #[.pointer (some ⟨g, 0, none⟩), .pointer (some ⟨hm, 0, none⟩), .agg (opV10 o)] wr fun e w' => e = .returned (.bool true) ∧ MtR w g hm R n w' ∧ Ch (fun b => S b ∨ b = hm) wr w' := by
  have hlt : hm < wr.heap.size := bx_lt hbx
  have hSL := hF.sL
  have hSB := hF.sB
  obtain ⟨w1, hw1, b1, g1, z1⟩ : ∃ w1, Hid (wr.alloc (.cells (opV10 o) 36) = w1) ∧ w1.heap[wr.heap.size]? = some (.cells (opV10 o) 36 (0, 0)) ∧ Below wr.heap.size wr w1 ∧ wr.heap.size < w1.heap.size := ⟨_, rfl, heap_alloc_new wr _, bnew0 wr _, by rw [heap_size_alloc]; omega⟩
  have HRf := hid hRef
  have HMl := hid hMail
  have s1 := bx_below hbx g1
  have x0 : w1.cell? ⟨wr.heap.size, 0, none⟩ = some (.int .u8 (o.1 : Int)) := by rw [cell_of_row _ _ 0 _ _ _ b1]; rfl
  have x6 : w1.cell? ⟨wr.heap.size, 6, none⟩ = some (.int .i64 o.2.2) := by rw [cell_of_row _ _ 6 _ _ _ b1]; rfl
  clear hRef hMail
  have hd1 : Below w1.heap.size w1 w1.drew := (Below.refl _ _).drew
  have hq : ∀ w', Below w1.heap.size w1 w' → w'.heap[hm]? = some (.cells (smV R La lc L m.wire m.puts) 30 (0, 0)) := fun w' hw => bx_below s1 hw
  have hq6 : ∀ w', Below w1.heap.size w1 w' → w'.cell? ⟨wr.heap.size, 6, none⟩ = some (.int .i64 o.2.2) := fun w' hw => (hw.cell (p := ⟨wr.heap.size, 6, none⟩) z1).trans x6
  have HQ := hid hq
  have HQ6 := hid hq6
  clear hq hq6
  go_enter Try.func6, Try.ntmps6
  go_upto_region 2 with (rw [hw1.out])
  have HS : Below w1.heap.size w1 w1.drew := hd1
  refine Rest.begin (S := fun w' => Below w1.heap.size w1 w') (X := [5, 10, 11]) (by kernel_rfl) ?_
  change Rest _ _ _ _ _ _ _ _ _ w1.drew
  refine Rest.take (i := 0) (v := .pointer (some ⟨hm, 0, none⟩)) rfl (by kernel_rfl) (by kernel_rfl) (by kernel_rfl) (by kernel_rfl) (fun _ _ _ h => h) (.inl HS) (Or.inl ⟨by simp [Region.wanted], ?_⟩) ?_
  · intro w; go_simp
  refine Rest.take (i := 1) (v := .pointer (some ⟨hm, 0, none⟩)) rfl (by kernel_rfl) (by kernel_rfl) (by kernel_rfl) (by kernel_rfl) (fun _ _ _ h => h) (.inl HS) (Or.inl ⟨by simp [Region.wanted], ?_⟩) ?_
  · intro w; go_simp
  refine Rest.take (i := 3) (v := .pointer (some ⟨wr.heap.size, 6, none⟩)) rfl (by kernel_rfl) (by kernel_rfl) (by kernel_rfl) (by kernel_rfl) (fun _ _ _ h => h) (.inl HS) (Or.inl ⟨by simp [Region.wanted], ?_⟩) ?_
  · intro w; go_simp
  refine Rest.takeS (i := 2) (v := .agg (smV R La lc L m.wire m.puts)) rfl (by kernel_rfl) (by kernel_rfl) (by kernel_rfl) (by kernel_rfl) (fun _ _ _ h => h) HS (yields_loadR rowSm (by simp [Region.wanted]) _ rfl hm (by simp [Act.eval, Act.put]) _ rfl (fun w' hw => ⟨_, _, HQ.out w' hw⟩)) ?_
  refine Rest.takeS (i := 4) (v := .int .i64 o.2.2) rfl (by kernel_rfl) (by kernel_rfl) (by kernel_rfl) (by kernel_rfl) (fun _ _ _ h => h) HS (.inl ⟨by simp [Region.wanted], ?_⟩) ?_
  · intro w' hw; have q := HQ6.out w' hw; go_simp
  refine Rest.two (i := 5) (j := 10) (by kernel_rfl) rfl rfl (fun K hK => ?_) (fun K hK => ?_)
  · refine draw_callF 26 (by kernel_rfl) (by simp [Region.wanted]) _ _ _ rfl (by simp [Act.eval]) #[.agg (smV R La lc L m.wire m.puts), .int .i64 o.2.2] (by simp [Act.eval, Act.put]) _ (HRf.out w1.drew g1.drew) ?_
    rintro e w3 ⟨a3, c3, T3, rfl, l3, g3, t3⟩
    refine ⟨_, rfl, ?_⟩
    have g13 : Below w1.heap.size w1 w3 := bstep hd1 g3
    refine hK _ _ ⟨.inl g13, ?_⟩; clear hK K
    refine Rest.take (i := 6) (v := .tuple #[.agg (smV R a3 c3 L' m'.wire m'.puts), .bool ok, .int .i64 en]) rfl (by kernel_rfl) (by kernel_rfl) (by kernel_rfl) (by kernel_rfl) (fun _ _ _ h => h) (.inl g13) (Or.inl ⟨by simp [Region.wanted], ?_⟩) ?_
    · intro w; go_simp
    refine Rest.take (i := 7) (v := .agg (smV R a3 c3 L' m'.wire m'.puts)) rfl (by kernel_rfl) (by kernel_rfl) (by kernel_rfl) (by kernel_rfl) (fun _ _ _ h => h) (.inl g13) (Or.inl ⟨by simp [Region.wanted], ?_⟩) ?_
    · intro w; go_simp
    refine Rest.take (i := 8) (v := .bool ok) rfl (by kernel_rfl) (by kernel_rfl) (by kernel_rfl) (by kernel_rfl) (fun _ _ _ h => h) (.inl g13) (Or.inl ⟨by simp [Region.wanted], ?_⟩) ?_
    · intro w; go_simp
    refine Rest.take (i := 9) (v := .int .i64 en) rfl (by kernel_rfl) (by kernel_rfl) (by kernel_rfl) (by kernel_rfl) (fun _ _ _ h => h) (.inl g13) (Or.inl ⟨by simp [Region.wanted], ?_⟩) ?_
    · intro w; go_simp
    refine Rest.one (i := 10) (by kernel_rfl) rfl (fun K hK => ?_)
    rw [if_pos (by simp [Region.wanted])]
    go_simp
    refine hK _ _ ⟨.inl (g13.alloc g13.size _), ?_⟩; clear hK K
    refine Rest.one (i := 11) (by kernel_rfl) rfl (fun K hK => ?_)
    (with_reducible refine draw_storeR rowSm ?zq1gd ?zq1x ?zq1y ?zq1o w3.heap.size (smV R a3 c3 L' m'.wire m'.puts) ?zq1hx ?zq1hy (heap_alloc_new w3 (.cells smZ 30)) ?zq1n ?zq1old (sm_ones _ _ _ _ _ _) ?zq1h)
    case zq1o => exact rfl
    case zq1gd => exact rfl
    case zq1hx => first | (simp [Act.eval]; done) | simp [Act.eval, Act.put]
    case zq1hy => first | (simp [Act.eval]; done) | simp [Act.eval, Act.put]
    case zq1n => rfl
    case zq1old => rfl
    refine hK _ _ ⟨.inr (thru_of (by kernel_rfl)), Rest.of_any _ _ _ _ (thru_of (by kernel_rfl)) ?_⟩; clear hK K
    have f4 := setRow_heap _ _ _ (smV R a3 c3 L' m'.wire m'.puts) _ _ (heap_alloc_new w3 (.cells smZ 30))
    have g34 : Below w3.heap.size w3 ((w3.alloc (.cells smZ 30)).setRow w3.heap.size (smV R a3 c3 L' m'.wire m'.puts)) := below_setRow (bnew0 w3 _) (Nat.le_refl _) _
    have g14 : Below w1.heap.size w1 ((w3.alloc (.cells smZ 30)).setRow w3.heap.size (smV R a3 c3 L' m'.wire m'.puts)) := bstep g13 g34
    have l4 := l3.below g34
    have h3 : ∀ k, w1.drew.heap.size ≤ k → w1.heap.size ≤ k := fun k h => h
    generalize (w3.alloc (.cells smZ 30)).setRow w3.heap.size (smV R a3 c3 L' m'.wire m'.puts) = w4 at *
    refine wpAny_take (i := 12) (v := .bool ok) rfl (by kernel_rfl) (by kernel_rfl) (by kernel_rfl) (fun _ _ _ h => h) (Or.inl ⟨by simp [Region.wanted], ?_⟩) ?_
    · intro w; go_simp
    refine wpAny_take (i := 13) (v := .int .i64 en) rfl (by kernel_rfl) (by kernel_rfl) (by kernel_rfl) (fun _ _ _ h => h) (Or.inl ⟨by simp [Region.wanted], ?_⟩) ?_
    · intro w; go_simp
    refine wpAny_done (by kernel_rfl) ?_ _
    have s4 := HQ.out w4 g14
    have x64 := HQ6.out w4 g14
    have hne : wr.heap.size ≠ hm := Nat.ne_of_gt hlt
    have x65 : (w4.setRow hm (smV R a3 c3 L' m'.wire m'.puts)).cell? ⟨wr.heap.size, 6, none⟩ = some (.int .i64 o.2.2) := (cell_other_row w4 hm wr.heap.size 6 (smV R a3 c3 L' m'.wire m'.puts) hne).trans x64
    have f5 : True := trivial
    go_wp2_with (first
      | (with_reducible refine wpList_loadR rowSm rfl _ rfl _ rfl f4 rfl ?_)
      | (with_reducible refine wpList_storeR rowSm rfl _ _ rfl _ _ rfl rfl s4 rfl rfl (sm_ones _ _ _ _ _ _) ?_
         have k5 : Ch (fun b => b = hm) w4 (w4.setRow hm (smV R a3 c3 L' m'.wire m'.puts)) := (Ch.refl (fun b => b = hm) w4).setRow (.inl rfl) _
         have b5 := setRow_heap _ _ _ (smV R a3 c3 L' m'.wire m'.puts) _ _ s4
         have hF5 := (hF.below (bstep g1 g14)).ch k5 (fun b hb e => hnS (by rw [← e]; exact hb))
         clear f4 s4 x64
         generalize w4.setRow hm (smV R a3 c3 L' m'.wire m'.puts) = w5 at *)
      | (go_at_call 19; (with_reducible refine Calls.mono (HMl.out _ hF5) ?_); rintro e w6 ⟨rfl, hF6, k6⟩))
    go_ret
    exact ⟨rfl, mt_next (bstep g1 g14) hb k5 b5 k6 hF6 (fun b hb => .inl hb) hI' l4 (fun k hk => by rcases t3 k hk with h | h; exact .inl h; exact .inr (by have : w1.heap.size ≤ k := h3 k h; omega)) hM' hR' hn' hhm hlt hSB hSL hnS hnT hTS, mt_ch (bstep g1 g14) k5 k6⟩
  · rw [if_pos (by simp [Region.wanted])]
    go_simp
    have hd2 : Below w1.heap.size w1 (w1.drew.alloc (.cells smZ 30)) := hd1.alloc hd1.size _
    refine hK _ _ ⟨.inl hd2, ?_⟩; clear hK K
    refine Rest.one (i := 5) (by kernel_rfl) rfl (fun K hK => ?_)
    refine draw_callF 26 (by kernel_rfl) (by simp [Region.wanted]) _ _ _ rfl (by simp [Act.eval]) #[.agg (smV R La lc L m.wire m.puts), .int .i64 o.2.2] (by simp [Act.eval, Act.put]) _ (HRf.out (w1.drew.alloc (.cells smZ 30)) (bstep g1 hd2)) ?_
    rintro e w3 ⟨a3, c3, T3, rfl, l3, g3, t3⟩
    refine ⟨_, rfl, ?_⟩
    have g13 : Below w1.heap.size w1 w3 := bstep hd2 g3
    refine hK _ _ ⟨.inl g13, ?_⟩; clear hK K
    refine Rest.take (i := 6) (v := .tuple #[.agg (smV R a3 c3 L' m'.wire m'.puts), .bool ok, .int .i64 en]) rfl (by kernel_rfl) (by kernel_rfl) (by kernel_rfl) (by kernel_rfl) (fun _ _ _ h => h) (.inl g13) (Or.inl ⟨by simp [Region.wanted], ?_⟩) ?_
    · intro w; go_simp
    refine Rest.take (i := 7) (v := .agg (smV R a3 c3 L' m'.wire m'.puts)) rfl (by kernel_rfl) (by kernel_rfl) (by kernel_rfl) (by kernel_rfl) (fun _ _ _ h => h) (.inl g13) (Or.inl ⟨by simp [Region.wanted], ?_⟩) ?_
    · intro w; go_simp
    refine Rest.take (i := 8) (v := .bool ok) rfl (by kernel_rfl) (by kernel_rfl) (by kernel_rfl) (by kernel_rfl) (fun _ _ _ h => h) (.inl g13) (Or.inl ⟨by simp [Region.wanted], ?_⟩) ?_
    · intro w; go_simp
    refine Rest.take (i := 9) (v := .int .i64 en) rfl (by kernel_rfl) (by kernel_rfl) (by kernel_rfl) (by kernel_rfl) (fun _ _ _ h => h) (.inl g13) (Or.inl ⟨by simp [Region.wanted], ?_⟩) ?_
    · intro w; go_simp
    have f3 : w3.heap[w1.heap.size]? = some (.cells smZ 30 (0, 0)) := bx_below (heap_alloc_new w1.drew _) g3
    refine Rest.one (i := 11) (by kernel_rfl) rfl (fun K hK => ?_)
    (with_reducible refine draw_storeR rowSm ?zq2gd ?zq2x ?zq2y ?zq2o w1.heap.size (smV R a3 c3 L' m'.wire m'.puts) ?zq2hx ?zq2hy f3 ?zq2n ?zq2old (sm_ones _ _ _ _ _ _) ?zq2h)
    case zq2o => exact rfl
    case zq2gd => exact rfl
    case zq2hx => first | (simp [Act.eval]; done) | simp [Act.eval, Act.put]
    case zq2hy => first | (simp [Act.eval]; done) | simp [Act.eval, Act.put]
    case zq2n => rfl
    case zq2old => rfl
    refine hK _ _ ⟨.inr (thru_of (by kernel_rfl)), Rest.of_any _ _ _ _ (thru_of (by kernel_rfl)) ?_⟩; clear hK K
    have f4 := setRow_heap _ _ _ (smV R a3 c3 L' m'.wire m'.puts) _ _ f3
    have g14 : Below w1.heap.size w1 (w3.setRow w1.heap.size (smV R a3 c3 L' m'.wire m'.puts)) := below_setRow g13 (Nat.le_refl _) _
    have h3 : ∀ k, (w1.drew.alloc (.cells smZ 30)).heap.size ≤ k → w1.heap.size ≤ k := fun k h => Nat.le_trans hd2.size h
    have hz2 : (w1.drew.alloc (.cells smZ 30)).heap.size = w1.heap.size + 1 := by rw [heap_size_alloc]; rfl
    have hTL := hL.tL
    have l4 := l3.ch ((Ch.refl (fun b => b = w1.heap.size) w3).setRow (.inl rfl) (smV R a3 c3 L' m'.wire m'.puts)) (fun b hb e => by rcases t3 b hb with h | h; (have := hTL b h; omega); omega)
    clear f3 hz2 hTL
    generalize w3.setRow w1.heap.size (smV R a3 c3 L' m'.wire m'.puts) = w4 at *
    refine wpAny_take (i := 12) (v := .bool ok) rfl (by kernel_rfl) (by kernel_rfl) (by kernel_rfl) (fun _ _ _ h => h) (Or.inl ⟨by simp [Region.wanted], ?_⟩) ?_
    · intro w; go_simp
    refine wpAny_take (i := 13) (v := .int .i64 en) rfl (by kernel_rfl) (by kernel_rfl) (by kernel_rfl) (fun _ _ _ h => h) (Or.inl ⟨by simp [Region.wanted], ?_⟩) ?_
    · intro w; go_simp
    refine wpAny_done (by kernel_rfl) ?_ _
    have s4 := HQ.out w4 g14
    have x64 := HQ6.out w4 g14
    have hne : wr.heap.size ≠ hm := Nat.ne_of_gt hlt
    have x65 : (w4.setRow hm (smV R a3 c3 L' m'.wire m'.puts)).cell? ⟨wr.heap.size, 6, none⟩ = some (.int .i64 o.2.2) := (cell_other_row w4 hm wr.heap.size 6 (smV R a3 c3 L' m'.wire m'.puts) hne).trans x64
    have f5 : True := trivial
    go_wp2_with (first
      | (with_reducible refine wpList_loadR rowSm rfl _ rfl _ rfl f4 rfl ?_)
      | (with_reducible refine wpList_storeR rowSm rfl _ _ rfl _ _ rfl rfl s4 rfl rfl (sm_ones _ _ _ _ _ _) ?_
         have k5 : Ch (fun b => b = hm) w4 (w4.setRow hm (smV R a3 c3 L' m'.wire m'.puts)) := (Ch.refl (fun b => b = hm) w4).setRow (.inl rfl) _
         have b5 := setRow_heap _ _ _ (smV R a3 c3 L' m'.wire m'.puts) _ _ s4
         have hF5 := (hF.below (bstep g1 g14)).ch k5 (fun b hb e => hnS (by rw [← e]; exact hb))
         clear f4 s4 x64
         generalize w4.setRow hm (smV R a3 c3 L' m'.wire m'.puts) = w5 at *)
      | (go_at_call 19; (with_reducible refine Calls.mono (HMl.out _ hF5) ?_); rintro e w6 ⟨rfl, hF6, k6⟩))
    go_ret
    exact ⟨rfl, mt_next (bstep g1 g14) hb k5 b5 k6 hF6 (fun b hb => .inl hb) hI' l4 (fun k hk => by rcases t3 k hk with h | h; exact .inl h; exact .inr (by have : w1.heap.size ≤ k := h3 k h; omega)) hM' hR' hn' hhm hlt hSB hSL hnS hnT hTS, mt_ch (bstep g1 g14) k5 k6⟩

set_option maxRecDepth 100000 in
set_option maxHeartbeats 8000000 in
theorem step_abort7 {w wr : World} {g hm R n : Nat} {m m' : Ml} {a La : Option Addr} {c lc : Nat} {S T : Nat → Prop} {L L' : List Sl} (o : Op10) (hF : MlO w.heap.size wr g m a c S) (hL : LmO w.heap.size wr La lc L T) (hbx : wr.heap[hm]? = some (.cells (smV R La lc L m.wire m.puts) 30 (0, 0))) (hhm : w.heap.size ≤ hm) (hnS : ¬ S hm) (hnT : ¬ T hm) (hTS : ∀ k, T k → ¬ S k) (hb : Below w.heap.size w wr) (hr : (o.1 : Int) % 8 = 7) (ok : Bool) (en : Int)
    (hRef : ∀ w1, Below wr.heap.size wr w1 → Calls Try.prog 26 #[.agg (smV R La lc L m.wire m.puts), .int .i64 o.2.2] w1 (RmR w.heap.size w1 R L' m'.wire m'.puts T fun v => .returned (.tuple #[v, .bool ok, .int .i64 en])))
    (hMail : ∀ w1, MlO w.heap.size w1 g m a c S → Calls Try.prog 19 #[.pointer (some ⟨g, 0, none⟩), .int .i64 o.2.2] w1 fun e w' => e = .returned (.tuple #[.bool ok, .int .i64 en]) ∧ Mle w.heap.size w1 g m' a c S w')
    (hI' : MlI m') (hM' : MsR m' L') (hR' : m'.room = R) (hn' : m'.puts ≤ n) :
    Calls Try.prog 6 #[.pointer (some ⟨g, 0, none⟩), .pointer (some ⟨hm, 0, none⟩), .agg (opV10 o)] wr fun e w' => e = .returned (.bool true) ∧ MtR w g hm R n w' ∧ Ch (fun b => S b ∨ b = hm) wr w' := by
  have hlt : hm < wr.heap.size := bx_lt hbx
  have hSL := hF.sL
  have hSB := hF.sB
  obtain ⟨w1, hw1, b1, g1, z1⟩ : ∃ w1, Hid (wr.alloc (.cells (opV10 o) 36) = w1) ∧ w1.heap[wr.heap.size]? = some (.cells (opV10 o) 36 (0, 0)) ∧ Below wr.heap.size wr w1 ∧ wr.heap.size < w1.heap.size := ⟨_, rfl, heap_alloc_new wr _, bnew0 wr _, by rw [heap_size_alloc]; omega⟩
  have HRf := hid hRef
  have HMl := hid hMail
  have s1 := bx_below hbx g1
  have x0 : w1.cell? ⟨wr.heap.size, 0, none⟩ = some (.int .u8 (o.1 : Int)) := by rw [cell_of_row _ _ 0 _ _ _ b1]; rfl
  have x6 : w1.cell? ⟨wr.heap.size, 6, none⟩ = some (.int .i64 o.2.2) := by rw [cell_of_row _ _ 6 _ _ _ b1]; rfl
  clear hRef hMail
  have hd1 : Below w1.heap.size w1 w1.drew := (Below.refl _ _).drew
  have hq : ∀ w', Below w1.heap.size w1 w' → w'.heap[hm]? = some (.cells (smV R La lc L m.wire m.puts) 30 (0, 0)) := fun w' hw => bx_below s1 hw
  have hq6 : ∀ w', Below w1.heap.size w1 w' → w'.cell? ⟨wr.heap.size, 6, none⟩ = some (.int .i64 o.2.2) := fun w' hw => (hw.cell (p := ⟨wr.heap.size, 6, none⟩) z1).trans x6
  have HQ := hid hq
  have HQ6 := hid hq6
  clear hq hq6
  go_enter Try.func6, Try.ntmps6
  go_upto_region 2 with (rw [hw1.out])
  have HS : Below w1.heap.size w1 w1.drew := hd1
  refine Rest.begin (S := fun w' => Below w1.heap.size w1 w') (X := [5, 10, 11]) (by kernel_rfl) ?_
  change Rest _ _ _ _ _ _ _ _ _ w1.drew
  refine Rest.take (i := 0) (v := .pointer (some ⟨hm, 0, none⟩)) rfl (by kernel_rfl) (by kernel_rfl) (by kernel_rfl) (by kernel_rfl) (fun _ _ _ h => h) (.inl HS) (Or.inl ⟨by simp [Region.wanted], ?_⟩) ?_
  · intro w; go_simp
  refine Rest.take (i := 1) (v := .pointer (some ⟨hm, 0, none⟩)) rfl (by kernel_rfl) (by kernel_rfl) (by kernel_rfl) (by kernel_rfl) (fun _ _ _ h => h) (.inl HS) (Or.inl ⟨by simp [Region.wanted], ?_⟩) ?_
  · intro w; go_simp
  refine Rest.take (i := 3) (v := .pointer (some ⟨wr.heap.size, 6, none⟩)) rfl (by kernel_rfl) (by kernel_rfl) (by kernel_rfl) (by kernel_rfl) (fun _ _ _ h => h) (.inl HS) (Or.inl ⟨by simp [Region.wanted], ?_⟩) ?_
  · intro w; go_simp
  refine Rest.takeS (i := 2) (v := .agg (smV R La lc L m.wire m.puts)) rfl (by kernel_rfl) (by kernel_rfl) (by kernel_rfl) (by kernel_rfl) (fun _ _ _ h => h) HS (yields_loadR rowSm (by simp [Region.wanted]) _ rfl hm (by simp [Act.eval, Act.put]) _ rfl (fun w' hw => ⟨_, _, HQ.out w' hw⟩)) ?_
  refine Rest.takeS (i := 4) (v := .int .i64 o.2.2) rfl (by kernel_rfl) (by kernel_rfl) (by kernel_rfl) (by kernel_rfl) (fun _ _ _ h => h) HS (.inl ⟨by simp [Region.wanted], ?_⟩) ?_
  · intro w' hw; have q := HQ6.out w' hw; go_simp
  refine Rest.two (i := 5) (j := 10) (by kernel_rfl) rfl rfl (fun K hK => ?_) (fun K hK => ?_)
  · refine draw_callF 26 (by kernel_rfl) (by simp [Region.wanted]) _ _ _ rfl (by simp [Act.eval]) #[.agg (smV R La lc L m.wire m.puts), .int .i64 o.2.2] (by simp [Act.eval, Act.put]) _ (HRf.out w1.drew g1.drew) ?_
    rintro e w3 ⟨a3, c3, T3, rfl, l3, g3, t3⟩
    refine ⟨_, rfl, ?_⟩
    have g13 : Below w1.heap.size w1 w3 := bstep hd1 g3
    refine hK _ _ ⟨.inl g13, ?_⟩; clear hK K
    refine Rest.take (i := 6) (v := .tuple #[.agg (smV R a3 c3 L' m'.wire m'.puts), .bool ok, .int .i64 en]) rfl (by kernel_rfl) (by kernel_rfl) (by kernel_rfl) (by kernel_rfl) (fun _ _ _ h => h) (.inl g13) (Or.inl ⟨by simp [Region.wanted], ?_⟩) ?_
    · intro w; go_simp
    refine Rest.take (i := 7) (v := .agg (smV R a3 c3 L' m'.wire m'.puts)) rfl (by kernel_rfl) (by kernel_rfl) (by kernel_rfl) (by kernel_rfl) (fun _ _ _ h => h) (.inl g13) (Or.inl ⟨by simp [Region.wanted], ?_⟩) ?_
    · intro w; go_simp
    refine Rest.take (i := 8) (v := .bool ok) rfl (by kernel_rfl) (by kernel_rfl) (by kernel_rfl) (by kernel_rfl) (fun _ _ _ h => h) (.inl g13) (Or.inl ⟨by simp [Region.wanted], ?_⟩) ?_
    · intro w; go_simp
    refine Rest.take (i := 9) (v := .int .i64 en) rfl (by kernel_rfl) (by kernel_rfl) (by kernel_rfl) (by kernel_rfl) (fun _ _ _ h => h) (.inl g13) (Or.inl ⟨by simp [Region.wanted], ?_⟩) ?_
    · intro w; go_simp
    refine Rest.one (i := 10) (by kernel_rfl) rfl (fun K hK => ?_)
    rw [if_pos (by simp [Region.wanted])]
    go_simp
    refine hK _ _ ⟨.inl (g13.alloc g13.size _), ?_⟩; clear hK K
    refine Rest.one (i := 11) (by kernel_rfl) rfl (fun K hK => ?_)
    (with_reducible refine draw_storeR rowSm ?zq3gd ?zq3x ?zq3y ?zq3o w3.heap.size (smV R a3 c3 L' m'.wire m'.puts) ?zq3hx ?zq3hy (heap_alloc_new w3 (.cells smZ 30)) ?zq3n ?zq3old (sm_ones _ _ _ _ _ _) ?zq3h)
    case zq3o => exact rfl
    case zq3gd => exact rfl
    case zq3hx => first | (simp [Act.eval]; done) | simp [Act.eval, Act.put]
    case zq3hy => first | (simp [Act.eval]; done) | simp [Act.eval, Act.put]
    case zq3n => rfl
    case zq3old => rfl
    refine hK _ _ ⟨.inr (thru_of (by kernel_rfl)), Rest.of_any _ _ _ _ (thru_of (by kernel_rfl)) ?_⟩; clear hK K
    have f4 := setRow_heap _ _ _ (smV R a3 c3 L' m'.wire m'.puts) _ _ (heap_alloc_new w3 (.cells smZ 30))
    have g34 : Below w3.heap.size w3 ((w3.alloc (.cells smZ 30)).setRow w3.heap.size (smV R a3 c3 L' m'.wire m'.puts)) := below_setRow (bnew0 w3 _) (Nat.le_refl _) _
    have g14 : Below w1.heap.size w1 ((w3.alloc (.cells smZ 30)).setRow w3.heap.size (smV R a3 c3 L' m'.wire m'.puts)) := bstep g13 g34
    have l4 := l3.below g34
    have h3 : ∀ k, w1.drew.heap.size ≤ k → w1.heap.size ≤ k := fun k h => h
    generalize (w3.alloc (.cells smZ 30)).setRow w3.heap.size (smV R a3 c3 L' m'.wire m'.puts) = w4 at *
    refine wpAny_take (i := 12) (v := .bool ok) rfl (by kernel_rfl) (by kernel_rfl) (by kernel_rfl) (fun _ _ _ h => h) (Or.inl ⟨by simp [Region.wanted], ?_⟩) ?_
    · intro w; go_simp
    refine wpAny_take (i := 13) (v := .int .i64 en) rfl (by kernel_rfl) (by kernel_rfl) (by kernel_rfl) (fun _ _ _ h => h) (Or.inl ⟨by simp [Region.wanted], ?_⟩) ?_
    · intro w; go_simp
    refine wpAny_done (by kernel_rfl) ?_ _
    have s4 := HQ.out w4 g14
    have x64 := HQ6.out w4 g14
    have hne : wr.heap.size ≠ hm := Nat.ne_of_gt hlt
    have x65 : (w4.setRow hm (smV R a3 c3 L' m'.wire m'.puts)).cell? ⟨wr.heap.size, 6, none⟩ = some (.int .i64 o.2.2) := (cell_other_row w4 hm wr.heap.size 6 (smV R a3 c3 L' m'.wire m'.puts) hne).trans x64
    have f5 : True := trivial
    go_wp2_with (first
      | (with_reducible refine wpList_loadR rowSm rfl _ rfl _ rfl f4 rfl ?_)
      | (with_reducible refine wpList_storeR rowSm rfl _ _ rfl _ _ rfl rfl s4 rfl rfl (sm_ones _ _ _ _ _ _) ?_
         have k5 : Ch (fun b => b = hm) w4 (w4.setRow hm (smV R a3 c3 L' m'.wire m'.puts)) := (Ch.refl (fun b => b = hm) w4).setRow (.inl rfl) _
         have b5 := setRow_heap _ _ _ (smV R a3 c3 L' m'.wire m'.puts) _ _ s4
         have hF5 := (hF.below (bstep g1 g14)).ch k5 (fun b hb e => hnS (by rw [← e]; exact hb))
         clear f4 s4 x64
         generalize w4.setRow hm (smV R a3 c3 L' m'.wire m'.puts) = w5 at *)
      | (go_at_call 19; (with_reducible refine Calls.mono (HMl.out _ hF5) ?_); rintro e w6 ⟨rfl, hF6, k6⟩))
    go_ret
    exact ⟨rfl, mt_next (bstep g1 g14) hb k5 b5 k6 hF6 (fun b hb => .inl hb) hI' l4 (fun k hk => by rcases t3 k hk with h | h; exact .inl h; exact .inr (by have : w1.heap.size ≤ k := h3 k h; omega)) hM' hR' hn' hhm hlt hSB hSL hnS hnT hTS, mt_ch (bstep g1 g14) k5 k6⟩
  · rw [if_pos (by simp [Region.wanted])]
    go_simp
    have hd2 : Below w1.heap.size w1 (w1.drew.alloc (.cells smZ 30)) := hd1.alloc hd1.size _
    refine hK _ _ ⟨.inl hd2, ?_⟩; clear hK K
    refine Rest.one (i := 5) (by kernel_rfl) rfl (fun K hK => ?_)
    refine draw_callF 26 (by kernel_rfl) (by simp [Region.wanted]) _ _ _ rfl (by simp [Act.eval]) #[.agg (smV R La lc L m.wire m.puts), .int .i64 o.2.2] (by simp [Act.eval, Act.put]) _ (HRf.out (w1.drew.alloc (.cells smZ 30)) (bstep g1 hd2)) ?_
    rintro e w3 ⟨a3, c3, T3, rfl, l3, g3, t3⟩
    refine ⟨_, rfl, ?_⟩
    have g13 : Below w1.heap.size w1 w3 := bstep hd2 g3
    refine hK _ _ ⟨.inl g13, ?_⟩; clear hK K
    refine Rest.take (i := 6) (v := .tuple #[.agg (smV R a3 c3 L' m'.wire m'.puts), .bool ok, .int .i64 en]) rfl (by kernel_rfl) (by kernel_rfl) (by kernel_rfl) (by kernel_rfl) (fun _ _ _ h => h) (.inl g13) (Or.inl ⟨by simp [Region.wanted], ?_⟩) ?_
    · intro w; go_simp
    refine Rest.take (i := 7) (v := .agg (smV R a3 c3 L' m'.wire m'.puts)) rfl (by kernel_rfl) (by kernel_rfl) (by kernel_rfl) (by kernel_rfl) (fun _ _ _ h => h) (.inl g13) (Or.inl ⟨by simp [Region.wanted], ?_⟩) ?_
    · intro w; go_simp
    refine Rest.take (i := 8) (v := .bool ok) rfl (by kernel_rfl) (by kernel_rfl) (by kernel_rfl) (by kernel_rfl) (fun _ _ _ h => h) (.inl g13) (Or.inl ⟨by simp [Region.wanted], ?_⟩) ?_
    · intro w; go_simp
    refine Rest.take (i := 9) (v := .int .i64 en) rfl (by kernel_rfl) (by kernel_rfl) (by kernel_rfl) (by kernel_rfl) (fun _ _ _ h => h) (.inl g13) (Or.inl ⟨by simp [Region.wanted], ?_⟩) ?_
    · intro w; go_simp
    have f3 : w3.heap[w1.heap.size]? = some (.cells smZ 30 (0, 0)) := bx_below (heap_alloc_new w1.drew _) g3
    refine Rest.one (i := 11) (by kernel_rfl) rfl (fun K hK => ?_)
    (with_reducible refine draw_storeR rowSm ?zq4gd ?zq4x ?zq4y ?zq4o w1.heap.size (smV R a3 c3 L' m'.wire m'.puts) ?zq4hx ?zq4hy f3 ?zq4n ?zq4old (sm_ones _ _ _ _ _ _) ?zq4h)
    case zq4o => exact rfl
    case zq4gd => exact rfl
    case zq4hx => first | (simp [Act.eval]; done) | simp [Act.eval, Act.put]
    case zq4hy => first | (simp [Act.eval]; done) | simp [Act.eval, Act.put]
    case zq4n => rfl
    case zq4old => rfl
    refine hK _ _ ⟨.inr (thru_of (by kernel_rfl)), Rest.of_any _ _ _ _ (thru_of (by kernel_rfl)) ?_⟩; clear hK K
    have f4 := setRow_heap _ _ _ (smV R a3 c3 L' m'.wire m'.puts) _ _ f3
    have g14 : Below w1.heap.size w1 (w3.setRow w1.heap.size (smV R a3 c3 L' m'.wire m'.puts)) := below_setRow g13 (Nat.le_refl _) _
    have h3 : ∀ k, (w1.drew.alloc (.cells smZ 30)).heap.size ≤ k → w1.heap.size ≤ k := fun k h => Nat.le_trans hd2.size h
    have hz2 : (w1.drew.alloc (.cells smZ 30)).heap.size = w1.heap.size + 1 := by rw [heap_size_alloc]; rfl
    have hTL := hL.tL
    have l4 := l3.ch ((Ch.refl (fun b => b = w1.heap.size) w3).setRow (.inl rfl) (smV R a3 c3 L' m'.wire m'.puts)) (fun b hb e => by rcases t3 b hb with h | h; (have := hTL b h; omega); omega)
    clear f3 hz2 hTL
    generalize w3.setRow w1.heap.size (smV R a3 c3 L' m'.wire m'.puts) = w4 at *
    refine wpAny_take (i := 12) (v := .bool ok) rfl (by kernel_rfl) (by kernel_rfl) (by kernel_rfl) (fun _ _ _ h => h) (Or.inl ⟨by simp [Region.wanted], ?_⟩) ?_
    · intro w; go_simp
    refine wpAny_take (i := 13) (v := .int .i64 en) rfl (by kernel_rfl) (by kernel_rfl) (by kernel_rfl) (fun _ _ _ h => h) (Or.inl ⟨by simp [Region.wanted], ?_⟩) ?_
    · intro w; go_simp
    refine wpAny_done (by kernel_rfl) ?_ _
    have s4 := HQ.out w4 g14
    have x64 := HQ6.out w4 g14
    have hne : wr.heap.size ≠ hm := Nat.ne_of_gt hlt
    have x65 : (w4.setRow hm (smV R a3 c3 L' m'.wire m'.puts)).cell? ⟨wr.heap.size, 6, none⟩ = some (.int .i64 o.2.2) := (cell_other_row w4 hm wr.heap.size 6 (smV R a3 c3 L' m'.wire m'.puts) hne).trans x64
    have f5 : True := trivial
    go_wp2_with (first
      | (with_reducible refine wpList_loadR rowSm rfl _ rfl _ rfl f4 rfl ?_)
      | (with_reducible refine wpList_storeR rowSm rfl _ _ rfl _ _ rfl rfl s4 rfl rfl (sm_ones _ _ _ _ _ _) ?_
         have k5 : Ch (fun b => b = hm) w4 (w4.setRow hm (smV R a3 c3 L' m'.wire m'.puts)) := (Ch.refl (fun b => b = hm) w4).setRow (.inl rfl) _
         have b5 := setRow_heap _ _ _ (smV R a3 c3 L' m'.wire m'.puts) _ _ s4
         have hF5 := (hF.below (bstep g1 g14)).ch k5 (fun b hb e => hnS (by rw [← e]; exact hb))
         clear f4 s4 x64
         generalize w4.setRow hm (smV R a3 c3 L' m'.wire m'.puts) = w5 at *)
      | (go_at_call 19; (with_reducible refine Calls.mono (HMl.out _ hF5) ?_); rintro e w6 ⟨rfl, hF6, k6⟩))
    go_ret
    exact ⟨rfl, mt_next (bstep g1 g14) hb k5 b5 k6 hF6 (fun b hb => .inl hb) hI' l4 (fun k hk => by rcases t3 k hk with h | h; exact .inl h; exact .inr (by have : w1.heap.size ≤ k := h3 k h; omega)) hM' hR' hn' hhm hlt hSB hSL hnS hnT hTS, mt_ch (bstep g1 g14) k5 k6⟩
end Go.Proofs.Ytffbkcjkmhjfnaa
