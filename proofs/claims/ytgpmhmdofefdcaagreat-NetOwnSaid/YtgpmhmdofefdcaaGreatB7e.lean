/-
  Contract of inBody: a bit of the body, or a stuff bit.
  Contract of inBody: a stuff bit, a plain bit; all in one.
  Contracts: the library's clone of bits; the spans; what a bit leads to at each place, as the plain function says.
-/
import Derived.Test.YtgpmhmdofefdcaaGreatB7b
import Derived.Lib.SliceRun
namespace Go.Proofs.YtgpmhmdofefdcaaGreat
open Go.RowKit
set_option linter.unusedVariables false

/-- The state's box, the result's, the run's, and the row that grows, all in one. -/
structure In7 (B g : Nat) (w wr : World) (q : Nat) (t r u : Array Value) (a : Option Addr) (n c : Nat) (l : List Bool) : Prop where
  t : wr.heap[g]? = some (.cells t 52 (0, 0))
  r : wr.heap[g + 1]? = some (.cells r 52 (0, 0))
  u : wr.heap[q]? = some (.cells u 50 (0, 0))
  own : OL .bool 4 B wr a n c l
  bel : Below B w wr
  hq : g + 1 < q
  hB : B ≤ g
  nt : NB a g
  nr : NB a (g + 1)
  nu : NB a q

section
variable {B g q : Nat} {w wr w2 : World} {t r u t' : Array Value} {a a2 : Option Addr} {n c n2 c2 : Nat} {l l2 : List Bool}

theorem In7.size (h : In7 B g w wr q t r u a n c l) : B ≤ wr.heap.size := by have := bx_lt h.t; have := h.hB; omega

theorem In7.call (h : In7 B g w wr q t r u a n c l) (gg : Below wr.heap.size wr w2) : In7 B g w w2 q t r u a n c l :=
  ⟨bx_below h.t gg, bx_below h.r gg, bx_below h.u gg, h.own.below gg, h.bel.trans (gg.mono h.size), h.hq, h.hB, h.nt, h.nr, h.nu⟩

theorem In7.alloc (h : In7 B g w wr q t r u a n c l) (o : Obj) : In7 B g w (wr.alloc o) q t r u a n c l :=
  ⟨bx_alloc _ h.t, bx_alloc _ h.r, bx_alloc _ h.u, h.own.alloc _, h.bel.alloc h.size _, h.hq, h.hB, h.nt, h.nr, h.nu⟩

theorem In7.set (h : In7 B g w wr q t r u a n c l) (i : Nat) (v : Value) : In7 B g w (wr.setCell ⟨g, i, none⟩ v) q (t.setIfInBounds i v) r u a n c l :=
  ⟨heap_setCell_same wr g i _ _ v h.t, by rw [heap_setCell_other _ _ _ _ (by simp)]; exact h.r, by rw [heap_setCell_other _ _ _ _ (by have := h.hq; simp; omega)]; exact h.u,
   h.own.kept fun k hk => heap_setCell_other _ _ _ _ (by subst hk; exact h.nt.block), h.bel.setCell h.hB _, h.hq, h.hB, h.nt, h.nr, h.nu⟩

theorem In7.app (h : In7 B g w wr q t r u a n c l) (ho : OL .bool 4 B w2 a2 n2 c2 l2) (gg : Below B wr w2) (hk : ∀ k, k < wr.heap.size → NB a k → w2.heap[k]? = wr.heap[k]? ∧ NB a2 k) : In7 B g w w2 q t r u a2 n2 c2 l2 :=
  ⟨((hk g (bx_lt h.t) h.nt).1).trans h.t, ((hk _ (bx_lt h.r) h.nr).1).trans h.r, ((hk _ (bx_lt h.u) h.nu).1).trans h.u, ho, h.bel.trans gg, h.hq, h.hB, (hk g (bx_lt h.t) h.nt).2, (hk _ (bx_lt h.r) h.nr).2, (hk _ (bx_lt h.u) h.nu).2⟩

theorem In7.fin (h : In7 B g w wr q t r u a n c l) (v0 v1 v2 v3 v4 : Value) : OL .bool 4 B (((((wr.setCell ⟨g + 1, 0, none⟩ v0).setCell ⟨g + 1, 1, none⟩ v1).setCell ⟨g + 1, 2, none⟩ v2).setCell ⟨g + 1, 3, none⟩ v3).setCell ⟨g + 1, 4, none⟩ v4) a n c l ∧
    Below B w (((((wr.setCell ⟨g + 1, 0, none⟩ v0).setCell ⟨g + 1, 1, none⟩ v1).setCell ⟨g + 1, 2, none⟩ v2).setCell ⟨g + 1, 3, none⟩ v3).setCell ⟨g + 1, 4, none⟩ v4) := by
  refine ⟨h.own.kept fun k hk => ?_, below7 h.bel (by have := h.hB; omega) _ _ _ _ _⟩
  have hn : k ≠ g + 1 := by subst hk; exact h.nr.block
  rw [heap_setCell_other _ _ _ _ hn, heap_setCell_other _ _ _ _ hn, heap_setCell_other _ _ _ _ hn, heap_setCell_other _ _ _ _ hn, heap_setCell_other _ _ _ _ hn]
end

theorem nb_lt {B : Nat} {w : World} {a : Option Addr} {n c : Nat} {l : List Bool} (h : OL .bool 4 B w a n c l) {k : Nat} (hk : w.heap.size ≤ k) : NB a k := fun q hq => by
  have := (h.ltB hq).1; omega

theorem boxed5 (w : World) (E : TypeId) (v0 v1 v2 v3 v4 u0 u1 u2 u3 u4 : Value) : ∃ w0, Hid ((w.alloc (.cells #[v0, v1, v2, v3, v4] E)).alloc (.cells #[u0, u1, u2, u3, u4] E) = w0) ∧ w0.heap[w.heap.size]? = some (.cells #[v0, v1, v2, v3, v4] E (0, 0)) ∧ w0.heap[w.heap.size + 1]? = some (.cells #[u0, u1, u2, u3, u4] E (0, 0)) ∧ Below w.heap.size w w0 := by
  refine ⟨_, rfl, bx_alloc _ (heap_alloc_new _ _), ?_, bnew (bnew0 _ _) _⟩
  have := heap_alloc_new (w.alloc (.cells #[v0, v1, v2, v3, v4] E)) (.cells #[u0, u1, u2, u3, u4] E)
  simpa using this

theorem lit7 (w1 : World) (o : Obj) (x : Bool) : RL .bool ((w1.alloc o).alloc (.cells #[.bool x] 4)) (some ⟨w1.heap.size + 1, 0, none⟩) 1 1 [x] := by
  have := (ol_lit Value.bool 4 0 (w1.alloc o) [x] _ 1 rfl rfl (by omega) (Nat.zero_le _)).rl
  rw [heap_size_alloc] at this
  exact this

theorem In7.start {B : Nat} {w w0 w1 : World} {t r : Array Value} {a : Option Addr} {n c : Nat} {l : List Bool} (hol : OL .bool 4 B w a n c l) (hB : B ≤ w.heap.size) (ht : w0.heap[w.heap.size]? = some (.cells t 52 (0, 0)))
    (hr : w0.heap[w.heap.size + 1]? = some (.cells r 52 (0, 0))) (hb0 : Below w.heap.size w w0) (g1 : Below w0.heap.size w0 w1) (u : Array Value) : In7 B w.heap.size w (w1.alloc (.cells u 50)) w1.heap.size t r u a n c l := by
  have hs := bx_lt (bx_below hr g1)
  exact ⟨bx_alloc _ (bx_below ht g1), bx_alloc _ (bx_below hr g1), heap_alloc_new _ _, ((hol.below hb0).below g1).alloc _, ((hb0.trans (g1.mono hb0.size)).mono hB).alloc (by omega) _, by omega, hB, nb_lt hol (Nat.le_refl _), nb_lt hol (by omega), nb_lt hol (by omega)⟩

set_option maxHeartbeats 1000000 in
theorem inBody_wrong (B : Nat) (w : World) (b : Bool) (m : Nat) (a : Option Addr) (n c : Nat) (l : List Bool) (fi x : Bool) (hol : OL .bool 4 B w a n c l) (hB : B ≤ w.heap.size) (hr : rightA b m) (hk : (nxt b m x).2 = 2) :
    Calls Tryz.prog 100 #[.agg #[.bool b, .int .u8 (m : Int), .slice a n c, .int .u8 0, .bool fi], .bool x] w fun e w' => e = .returned (.tuple #[.agg #[.bool b, .int .u8 (m : Int), .slice a n c, .int .u8 11, .bool fi], .int .u8 1]) ∧ OL .bool 4 B w' a n c l ∧ Below B w w' := by
  have hv := fun w1 => over_any w1 b m a n c 0 fi 1
  have hn := fun w1 => next_any w1 b m x hr
  generalize nxt b m x = N at hn hk
  obtain ⟨⟨b1, m1⟩, kd⟩ := N
  dsimp only at hn hk
  subst hk
  have hn' : ∀ (w1 : World), Calls Tryz.prog 49 #[.agg #[.bool b, .int .u8 (m : Int)], .bool x] w1 fun e w' => e = .returned (.tuple #[.agg #[.bool b1, .int .u8 (m1 : Int)], .int .u8 2]) ∧ Below w1.heap.size w1 w' := hn
  clear hn
  obtain ⟨w0, hw0, ht, hrr, hb0⟩ := boxed5 w 52 (.bool b) (.int .u8 (m : Int)) (.slice a n c) (.int .u8 0) (.bool fi) (.bool false) (.int .u8 0) (.slice none 0 0) (.int .u8 0) (.bool false)
  obtain ⟨c0, c1, c2, c3, c4⟩ := bx5 ht
  go_enter Tryz.func100, Tryz.ntmps100
  go_wp2_with (first
    | (go_at_call 49; rw [hw0.out]; (with_reducible refine (hn' _).mono ?_); rintro e w1 ⟨rfl, g1⟩; clear c0 c1 c2 c3 c4; have hI := In7.start hol hB ht hrr hb0 g1 #[.bool b1, .int .u8 (m1 : Int)]; obtain ⟨c0, c1, c2, c3, c4⟩ := bx5 hI.t)
    | (go_at_call 111; (with_reducible refine (hv _).mono ?_); rintro e w2 ⟨rfl, g2⟩; clear c0 c1 c2 c3 c4; have hJ := hI.call g2; obtain ⟨c0, c1, c2, c3, c4⟩ := bx5 hJ.r; have f0 := bx_thaw hJ.r))
  exact bodyPost_ret (v := .tuple #[.agg #[.bool b, .int .u8 (m : Int), .slice a n c, .int .u8 11, .bool fi], .int .u8 1]) (by simp [results, Tryz.results100, go_sem, c0, c1, c2, c3, c4]) rfl ⟨rfl, hJ.fin _ _ _ _ _⟩
end Go.Proofs.YtgpmhmdofefdcaaGreat

namespace Go.Proofs.YtgpmhmdofefdcaaGreat
open Go.RowKit
set_option linter.unusedVariables false

set_option maxHeartbeats 2000000 in
theorem inBody_stuff (B : Nat) (w : World) (b : Bool) (m : Nat) (a : Option Addr) (n c : Nat) (l : List Bool) (fi x : Bool) (hol : OL .bool 4 B w a n c l) (hB : B ≤ w.heap.size) (hn1 : n ≤ 10000) (hr : rightA b m) (hk : (nxt b m x).2 = 1) :
    Calls Tryz.prog 100 #[.agg #[.bool b, .int .u8 (m : Int), .slice a n c, .int .u8 0, .bool fi], .bool x] w fun e w' => ∃ a' c', e = .returned (.tuple #[.agg #[.bool (nxt b m x).1.1, .int .u8 ((nxt b m x).1.2 : Int), .slice a' n c', .int .u8 (if (cmpL l && !decide ((nxt b m x).1.2 = 5)) = true then 1 else 0), .bool fi], .int .u8 0]) ∧ OL .bool 4 B w' a' n c' l ∧ Below B w w' := by
  have hn := fun w1 => next_any w1 b m x hr
  have hm1 := (nxt_right (x := x) hr).1.1
  generalize nxt b m x = N at hn hk hm1
  obtain ⟨⟨b1, m1⟩, kd⟩ := N
  dsimp only at hn hk hm1
  subst hk
  have hn' : ∀ (w1 : World), Calls Tryz.prog 49 #[.agg #[.bool b, .int .u8 (m : Int)], .bool x] w1 fun e w' => e = .returned (.tuple #[.agg #[.bool b1, .int .u8 (m1 : Int)], .int .u8 1]) ∧ Below w1.heap.size w1 w' := hn
  clear hn
  obtain ⟨w0, hw0, ht, hrr, hb0⟩ := boxed5 w 52 (.bool b) (.int .u8 (m : Int)) (.slice a n c) (.int .u8 0) (.bool fi) (.bool false) (.int .u8 0) (.slice none 0 0) (.int .u8 0) (.bool false)
  obtain ⟨c0, c1, c2, c3, c4⟩ := bx5 ht
  have hm256 : m1 < 256 := by omega
  have hdu := fun (w1 : World) (a1 : Option Addr) (c1 : Nat) => due_any w1 b1 m1 a1 n c1 0 fi hm256
  have hon := fun (w1 : World) (a1 : Option Addr) (c1 : Nat) => onward_any w1 b1 m1 a1 n c1 0 fi 0 1 rfl (by omega)
  clear hm1 hm256
  cases hcp : cmpL l
  · have hcm : ∀ (w1 : World) (a1 : Option Addr) (c1 : Nat), RL .bool w1 a1 n c1 l → Calls Tryz.prog 112 #[.slice a1 n c1] w1 fun e w' => e = .returned (.bool false) ∧ Below w1.heap.size w1 w' := fun w1 a1 c1 h => hcp ▸ complete_any w1 a1 n c1 l h (by omega)
    simp only [Bool.false_and, Bool.false_eq_true, if_false]
    clear hcp hdu hon
    go_enter Tryz.func100, Tryz.ntmps100
    go_wp2_with (first
      | (go_at_call 49; rw [hw0.out]; (with_reducible refine (hn' _).mono ?_); rintro e w1 ⟨rfl, g1⟩; clear c0 c1 c2 c3 c4; have hI := In7.start hol hB ht hrr hb0 g1 #[.bool b1, .int .u8 (m1 : Int)]; obtain ⟨c0, c1, c2, c3, c4⟩ := bx5 hI.t; obtain ⟨d0, d1, d2, d3⟩ := bx hI.u; have f0 := bx_thaw hI.t)
      | (go_at_call 112; have hK := (hI.set 0 (.bool b1)).set 1 (.int .u8 (m1 : Int)); (with_reducible refine (hcm _ _ _ hK.own.rl).mono ?_); rintro e w5 ⟨rfl, g5⟩; clear c0 c1 c2 c3 c4 f0; have hL := hK.call g5; obtain ⟨c0, c1, c2, c3, c4⟩ := bx5 hL.t; obtain ⟨r0, r1, r2, r3, r4⟩ := bx5 hL.r; have f0 := bx_thaw hL.r))
    exact bodyPost_ret (v := .tuple #[.agg #[.bool b1, .int .u8 (m1 : Int), .slice a n c, .int .u8 0, .bool fi], .int .u8 0]) (by simp [results, Tryz.results100, go_sem, r0, r1, r2, r3, r4]) rfl ⟨_, _, rfl, hL.fin _ _ _ _ _⟩
  · have hcm : ∀ (w1 : World) (a1 : Option Addr) (c1 : Nat), RL .bool w1 a1 n c1 l → Calls Tryz.prog 112 #[.slice a1 n c1] w1 fun e w' => e = .returned (.bool true) ∧ Below w1.heap.size w1 w' := fun w1 a1 c1 h => hcp ▸ complete_any w1 a1 n c1 l h (by omega)
    simp only [Bool.true_and]
    clear hcp
    by_cases h5 : m1 = 5
    · simp only [decide_eq_true h5] at hdu ⊢
      simp only [Bool.not_true, Bool.false_eq_true, if_false]
      clear hon h5
      go_enter Tryz.func100, Tryz.ntmps100
      go_wp2_with (first
        | (go_at_call 49; rw [hw0.out]; (with_reducible refine (hn' _).mono ?_); rintro e w1 ⟨rfl, g1⟩; clear c0 c1 c2 c3 c4; have hI := In7.start hol hB ht hrr hb0 g1 #[.bool b1, .int .u8 (m1 : Int)]; obtain ⟨c0, c1, c2, c3, c4⟩ := bx5 hI.t; obtain ⟨d0, d1, d2, d3⟩ := bx hI.u; have f0 := bx_thaw hI.t)
        | (go_at_call 112; have hK := (hI.set 0 (.bool b1)).set 1 (.int .u8 (m1 : Int)); (with_reducible refine (hcm _ _ _ hK.own.rl).mono ?_); rintro e w5 ⟨rfl, g5⟩; clear c0 c1 c2 c3 c4 f0; have hL := hK.call g5; obtain ⟨c0, c1, c2, c3, c4⟩ := bx5 hL.t; obtain ⟨r0, r1, r2, r3, r4⟩ := bx5 hL.r; have f0 := bx_thaw hL.r)
        | (go_at_call 96; (with_reducible refine (hdu _ _ _).mono ?_); rintro e w6 ⟨rfl, g6⟩; clear c0 c1 c2 c3 c4 f0 r0 r1 r2 r3 r4; have hM := hL.call g6; obtain ⟨c0, c1, c2, c3, c4⟩ := bx5 hM.t; obtain ⟨r0, r1, r2, r3, r4⟩ := bx5 hM.r; have f0 := bx_thaw hM.r))
      exact bodyPost_ret (v := .tuple #[.agg #[.bool b1, .int .u8 (m1 : Int), .slice a n c, .int .u8 0, .bool fi], .int .u8 0]) (by simp [results, Tryz.results100, go_sem, r0, r1, r2, r3, r4]) rfl ⟨_, _, rfl, hM.fin _ _ _ _ _⟩
    · simp only [decide_eq_false h5] at hdu ⊢
      simp only [Bool.not_false, if_true]
      clear h5
      go_enter Tryz.func100, Tryz.ntmps100
      go_wp2_with (first
        | (go_at_call 49; rw [hw0.out]; (with_reducible refine (hn' _).mono ?_); rintro e w1 ⟨rfl, g1⟩; clear c0 c1 c2 c3 c4; have hI := In7.start hol hB ht hrr hb0 g1 #[.bool b1, .int .u8 (m1 : Int)]; obtain ⟨c0, c1, c2, c3, c4⟩ := bx5 hI.t; obtain ⟨d0, d1, d2, d3⟩ := bx hI.u; have f0 := bx_thaw hI.t)
        | (go_at_call 112; have hK := (hI.set 0 (.bool b1)).set 1 (.int .u8 (m1 : Int)); (with_reducible refine (hcm _ _ _ hK.own.rl).mono ?_); rintro e w5 ⟨rfl, g5⟩; clear c0 c1 c2 c3 c4 f0; have hL := hK.call g5; obtain ⟨c0, c1, c2, c3, c4⟩ := bx5 hL.t; obtain ⟨r0, r1, r2, r3, r4⟩ := bx5 hL.r; have f0 := bx_thaw hL.r)
        | (go_at_call 96; (with_reducible refine (hdu _ _ _).mono ?_); rintro e w6 ⟨rfl, g6⟩; clear c0 c1 c2 c3 c4 f0 r0 r1 r2 r3 r4; have hM := hL.call g6; obtain ⟨c0, c1, c2, c3, c4⟩ := bx5 hM.t; obtain ⟨r0, r1, r2, r3, r4⟩ := bx5 hM.r; have f0 := bx_thaw hM.r)
        | (go_at_call 113; (with_reducible refine (hon _ _ _).mono ?_); rintro e w7 ⟨rfl, g7⟩; clear c0 c1 c2 c3 c4 f0 r0 r1 r2 r3 r4; have hO := hM.call g7; obtain ⟨c0, c1, c2, c3, c4⟩ := bx5 hO.r; have f0 := bx_thaw hO.r))
      exact bodyPost_ret (v := .tuple #[.agg #[.bool b1, .int .u8 (m1 : Int), .slice a n c, .int .u8 1, .bool fi], .int .u8 0]) (by simp [results, Tryz.results100, go_sem, c0, c1, c2, c3, c4]) rfl ⟨_, _, rfl, hO.fin _ _ _ _ _⟩

set_option maxHeartbeats 4000000 in
theorem inBody_plain (B : Nat) (w : World) (b : Bool) (m : Nat) (a : Option Addr) (n c : Nat) (l : List Bool) (fi x : Bool) (hol : OL .bool 4 B w a n c l) (hB : B ≤ w.heap.size) (hn1 : n ≤ 10000) (hr : rightA b m) (hk : (nxt b m x).2 = 0) :
    Calls Tryz.prog 100 #[.agg #[.bool b, .int .u8 (m : Int), .slice a n c, .int .u8 0, .bool fi], .bool x] w fun e w' => ∃ a' c', e = .returned (.tuple #[.agg #[.bool (nxt b m x).1.1, .int .u8 ((nxt b m x).1.2 : Int), .slice a' (n + 1) c', .int .u8 (if (cmpL (l ++ [x]) && !decide ((nxt b m x).1.2 = 5)) = true then 1 else 0), .bool (fitL (l ++ [x]))], .int .u8 0]) ∧ OL .bool 4 B w' a' (n + 1) c' (l ++ [x]) ∧ Below B w w' := by
  have hn := fun w1 => next_any w1 b m x hr
  have hm1 := (nxt_right (x := x) hr).1.1
  have hfit : Hid (fitL (l ++ [x]) = (peU (l ++ [x]) == 0)) := by
    show _ = _
    unfold fitL peU
    cases paK (l ++ [x])
    · rfl
    · by_cases hs : suV (l ++ [x]) = 0#15 <;> simp [hs]
  obtain ⟨fi', hfi'⟩ : ∃ fi', fi' = fitL (l ++ [x]) := ⟨_, rfl⟩
  rw [← hfi'] at hfit ⊢
  have hpa : ∀ (w1 : World) (a1 : Option Addr) (c1 : Nat), RL .bool w1 a1 (n + 1) c1 (l ++ [x]) → _ := fun w1 a1 c1 h => parse_U w1 a1 (n + 1) c1 (l ++ [x]) h (by omega)
  generalize peU (l ++ [x]) = pe at hpa hfit
  generalize paU (l ++ [x]) = pf at hpa
  obtain ⟨pid, pext, prem, pdlc, pdata⟩ := pf
  dsimp only at hpa
  generalize hlen : pdata.length = plen at hpa
  have hpe : (pe == 0) = fi' := hfit.out.symm
  replace hpa : ∀ (w1 : World) (a1 : Option Addr) (c1 : Nat), RL .bool w1 a1 (n + 1) c1 (l ++ [x]) → Calls Tryz.prog 97 #[.slice a1 (n + 1) c1] w1 fun e w' => ∃ a' c', e = .returned (.tuple #[.agg #[.int .u32 (pid : Int), .bool pext, .bool prem, .int .u8 (pdlc : Int), .slice a' plen c'], .int .i64 pe]) ∧ Below w1.heap.size w1 w' := fun w1 a1 c1 h => (hpa w1 a1 c1 h).mono fun e w' ⟨a', c', h1, _, h2⟩ => ⟨a', c', h1, h2⟩
  clear hlen hfit hfi'
  generalize nxt b m x = N at hn hk hm1
  obtain ⟨⟨b1, m1⟩, kd⟩ := N
  dsimp only at hn hk hm1
  subst hk
  have hn' : ∀ (w1 : World), Calls Tryz.prog 49 #[.agg #[.bool b, .int .u8 (m : Int)], .bool x] w1 fun e w' => e = .returned (.tuple #[.agg #[.bool b1, .int .u8 (m1 : Int)], .int .u8 0]) ∧ Below w1.heap.size w1 w' := hn
  clear hn
  obtain ⟨w0, hw0, ht, hrr, hb0⟩ := boxed5 w 52 (.bool b) (.int .u8 (m : Int)) (.slice a n c) (.int .u8 0) (.bool fi) (.bool false) (.int .u8 0) (.slice none 0 0) (.int .u8 0) (.bool false)
  obtain ⟨c0, c1, c2, c3, c4⟩ := bx5 ht
  have hm256 : m1 < 256 := by omega
  have hdu := fun (w1 : World) (a1 : Option Addr) (c1 : Nat) => due_any w1 b1 m1 a1 (n + 1) c1 0 fi' hm256
  have hon := fun (w1 : World) (a1 : Option Addr) (c1 : Nat) => onward_any w1 b1 m1 a1 (n + 1) c1 0 fi' 0 1 rfl (by omega)
  clear hm1 hm256
  cases hcp : cmpL (l ++ [x])
  · have hcm : ∀ (w1 : World) (a1 : Option Addr) (c1 : Nat), RL .bool w1 a1 (n + 1) c1 (l ++ [x]) → Calls Tryz.prog 112 #[.slice a1 (n + 1) c1] w1 fun e w' => e = .returned (.bool false) ∧ Below w1.heap.size w1 w' := fun w1 a1 c1 h => hcp ▸ complete_any w1 a1 (n + 1) c1 (l ++ [x]) h (by omega)
    simp only [Bool.false_and, Bool.false_eq_true, if_false]
    clear hcp hdu hon
    go_enter Tryz.func100, Tryz.ntmps100
    go_wp2_with (first
      | (go_at_call 49; rw [hw0.out]; (with_reducible refine (hn' _).mono ?_); rintro e w1 ⟨rfl, g1⟩; clear c0 c1 c2 c3 c4; have hI := In7.start hol hB ht hrr hb0 g1 #[.bool b1, .int .u8 (m1 : Int)]; obtain ⟨c0, c1, c2, c3, c4⟩ := bx5 hI.t; obtain ⟨d0, d1, d2, d3⟩ := bx hI.u; have f0 := bx_thaw hI.t)
      | (at_builtin; refine wpList_appg (f := Value.bool) tB rfl _ _ rfl rfl (hI.own.alloc _) rfl (lit7 _ _ _) (by omega) (fun _ => rfl) (by omega) (by omega) (by have := hI.size; simp only [heap_size_alloc] at this ⊢; omega) ?_; intro w3 a3 k3 hol3 hb3 hk3 hs3; clear c0 c1 c2 c3 c4 f0 d0 d1 d2 d3; have hA := (hI.alloc _).app hol3 hb3 hk3; obtain ⟨c0, c1, c2, c3, c4⟩ := bx5 hA.t; have f0 := bx_thaw hA.t; have hA2 := hA.set 2 (.slice a3 (n + 1) k3))
      | (go_at_call 97; (with_reducible refine (hpa _ _ _ hA2.own.rl).mono ?_); rintro e w4 ⟨pa4, pc4, rfl, g4⟩; clear c0 c1 c2 c3 c4 f0; have hP := (hA2.call g4).alloc (.cells #[.int .u32 (pid : Int), .bool pext, .bool prem, .int .u8 (pdlc : Int), .slice pa4 plen pc4] 26); have hP4 := hP.set 4 (.bool fi'); obtain ⟨c0, c1, c2, c3, c4⟩ := bx5 hP.t; obtain ⟨d0, d1, d2, d3⟩ := bx hP.u; have f0 := bx_thaw hP.t)
      | (go_at_call 112; have hK := (hP4.set 0 (.bool b1)).set 1 (.int .u8 (m1 : Int)); (with_reducible refine (hcm _ _ _ hK.own.rl).mono ?_); rintro e w5 ⟨rfl, g5⟩; clear c0 c1 c2 c3 c4 f0; have hL := hK.call g5; obtain ⟨c0, c1, c2, c3, c4⟩ := bx5 hL.t; obtain ⟨r0, r1, r2, r3, r4⟩ := bx5 hL.r; have f0 := bx_thaw hL.r))
    exact bodyPost_ret (v := .tuple #[.agg #[.bool b1, .int .u8 (m1 : Int), .slice a3 (n + 1) k3, .int .u8 0, .bool fi'], .int .u8 0]) (by simp [results, Tryz.results100, go_sem, r0, r1, r2, r3, r4]) rfl ⟨_, _, rfl, hL.fin _ _ _ _ _⟩
  · have hcm : ∀ (w1 : World) (a1 : Option Addr) (c1 : Nat), RL .bool w1 a1 (n + 1) c1 (l ++ [x]) → Calls Tryz.prog 112 #[.slice a1 (n + 1) c1] w1 fun e w' => e = .returned (.bool true) ∧ Below w1.heap.size w1 w' := fun w1 a1 c1 h => hcp ▸ complete_any w1 a1 (n + 1) c1 (l ++ [x]) h (by omega)
    simp only [Bool.true_and]
    clear hcp
    by_cases h5 : m1 = 5
    · simp only [decide_eq_true h5] at hdu ⊢
      simp only [Bool.not_true, Bool.false_eq_true, if_false]
      clear hon h5
      go_enter Tryz.func100, Tryz.ntmps100
      go_wp2_with (first
        | (go_at_call 49; rw [hw0.out]; (with_reducible refine (hn' _).mono ?_); rintro e w1 ⟨rfl, g1⟩; clear c0 c1 c2 c3 c4; have hI := In7.start hol hB ht hrr hb0 g1 #[.bool b1, .int .u8 (m1 : Int)]; obtain ⟨c0, c1, c2, c3, c4⟩ := bx5 hI.t; obtain ⟨d0, d1, d2, d3⟩ := bx hI.u; have f0 := bx_thaw hI.t)
        | (at_builtin; refine wpList_appg (f := Value.bool) tB rfl _ _ rfl rfl (hI.own.alloc _) rfl (lit7 _ _ _) (by omega) (fun _ => rfl) (by omega) (by omega) (by have := hI.size; simp only [heap_size_alloc] at this ⊢; omega) ?_; intro w3 a3 k3 hol3 hb3 hk3 hs3; clear c0 c1 c2 c3 c4 f0 d0 d1 d2 d3; have hA := (hI.alloc _).app hol3 hb3 hk3; obtain ⟨c0, c1, c2, c3, c4⟩ := bx5 hA.t; have f0 := bx_thaw hA.t; have hA2 := hA.set 2 (.slice a3 (n + 1) k3))
        | (go_at_call 97; (with_reducible refine (hpa _ _ _ hA2.own.rl).mono ?_); rintro e w4 ⟨pa4, pc4, rfl, g4⟩; clear c0 c1 c2 c3 c4 f0; have hP := (hA2.call g4).alloc (.cells #[.int .u32 (pid : Int), .bool pext, .bool prem, .int .u8 (pdlc : Int), .slice pa4 plen pc4] 26); have hP4 := hP.set 4 (.bool fi'); obtain ⟨c0, c1, c2, c3, c4⟩ := bx5 hP.t; obtain ⟨d0, d1, d2, d3⟩ := bx hP.u; have f0 := bx_thaw hP.t)
        | (go_at_call 112; have hK := (hP4.set 0 (.bool b1)).set 1 (.int .u8 (m1 : Int)); (with_reducible refine (hcm _ _ _ hK.own.rl).mono ?_); rintro e w5 ⟨rfl, g5⟩; clear c0 c1 c2 c3 c4 f0; have hL := hK.call g5; obtain ⟨c0, c1, c2, c3, c4⟩ := bx5 hL.t; obtain ⟨r0, r1, r2, r3, r4⟩ := bx5 hL.r; have f0 := bx_thaw hL.r)
        | (go_at_call 96; (with_reducible refine (hdu _ _ _).mono ?_); rintro e w6 ⟨rfl, g6⟩; clear c0 c1 c2 c3 c4 f0 r0 r1 r2 r3 r4; have hM := hL.call g6; obtain ⟨c0, c1, c2, c3, c4⟩ := bx5 hM.t; obtain ⟨r0, r1, r2, r3, r4⟩ := bx5 hM.r; have f0 := bx_thaw hM.r))
      exact bodyPost_ret (v := .tuple #[.agg #[.bool b1, .int .u8 (m1 : Int), .slice a3 (n + 1) k3, .int .u8 0, .bool fi'], .int .u8 0]) (by simp [results, Tryz.results100, go_sem, r0, r1, r2, r3, r4]) rfl ⟨_, _, rfl, hM.fin _ _ _ _ _⟩
    · simp only [decide_eq_false h5] at hdu ⊢
      simp only [Bool.not_false, if_true]
      clear h5
      go_enter Tryz.func100, Tryz.ntmps100
      go_wp2_with (first
        | (go_at_call 49; rw [hw0.out]; (with_reducible refine (hn' _).mono ?_); rintro e w1 ⟨rfl, g1⟩; clear c0 c1 c2 c3 c4; have hI := In7.start hol hB ht hrr hb0 g1 #[.bool b1, .int .u8 (m1 : Int)]; obtain ⟨c0, c1, c2, c3, c4⟩ := bx5 hI.t; obtain ⟨d0, d1, d2, d3⟩ := bx hI.u; have f0 := bx_thaw hI.t)
        | (at_builtin; refine wpList_appg (f := Value.bool) tB rfl _ _ rfl rfl (hI.own.alloc _) rfl (lit7 _ _ _) (by omega) (fun _ => rfl) (by omega) (by omega) (by have := hI.size; simp only [heap_size_alloc] at this ⊢; omega) ?_; intro w3 a3 k3 hol3 hb3 hk3 hs3; clear c0 c1 c2 c3 c4 f0 d0 d1 d2 d3; have hA := (hI.alloc _).app hol3 hb3 hk3; obtain ⟨c0, c1, c2, c3, c4⟩ := bx5 hA.t; have f0 := bx_thaw hA.t; have hA2 := hA.set 2 (.slice a3 (n + 1) k3))
        | (go_at_call 97; (with_reducible refine (hpa _ _ _ hA2.own.rl).mono ?_); rintro e w4 ⟨pa4, pc4, rfl, g4⟩; clear c0 c1 c2 c3 c4 f0; have hP := (hA2.call g4).alloc (.cells #[.int .u32 (pid : Int), .bool pext, .bool prem, .int .u8 (pdlc : Int), .slice pa4 plen pc4] 26); have hP4 := hP.set 4 (.bool fi'); obtain ⟨c0, c1, c2, c3, c4⟩ := bx5 hP.t; obtain ⟨d0, d1, d2, d3⟩ := bx hP.u; have f0 := bx_thaw hP.t)
        | (go_at_call 112; have hK := (hP4.set 0 (.bool b1)).set 1 (.int .u8 (m1 : Int)); (with_reducible refine (hcm _ _ _ hK.own.rl).mono ?_); rintro e w5 ⟨rfl, g5⟩; clear c0 c1 c2 c3 c4 f0; have hL := hK.call g5; obtain ⟨c0, c1, c2, c3, c4⟩ := bx5 hL.t; obtain ⟨r0, r1, r2, r3, r4⟩ := bx5 hL.r; have f0 := bx_thaw hL.r)
        | (go_at_call 96; (with_reducible refine (hdu _ _ _).mono ?_); rintro e w6 ⟨rfl, g6⟩; clear c0 c1 c2 c3 c4 f0 r0 r1 r2 r3 r4; have hM := hL.call g6; obtain ⟨c0, c1, c2, c3, c4⟩ := bx5 hM.t; obtain ⟨r0, r1, r2, r3, r4⟩ := bx5 hM.r; have f0 := bx_thaw hM.r)
        | (go_at_call 113; (with_reducible refine (hon _ _ _).mono ?_); rintro e w7 ⟨rfl, g7⟩; clear c0 c1 c2 c3 c4 f0 r0 r1 r2 r3 r4; have hO := hM.call g7; obtain ⟨c0, c1, c2, c3, c4⟩ := bx5 hO.r; have f0 := bx_thaw hO.r))
      exact bodyPost_ret (v := .tuple #[.agg #[.bool b1, .int .u8 (m1 : Int), .slice a3 (n + 1) k3, .int .u8 1, .bool fi'], .int .u8 0]) (by simp [results, Tryz.results100, go_sem, c0, c1, c2, c3, c4]) rfl ⟨_, _, rfl, hO.fin _ _ _ _ _⟩
end Go.Proofs.YtgpmhmdofefdcaaGreat

namespace Go.Proofs.YtgpmhmdofefdcaaGreat
open Go.RowKit
set_option linter.unusedVariables false

theorem clone7_any (w : World) (a : Option Addr) (n c : Nat) (l : List Bool) (h : RL .bool w a n c l) (hn : n ≤ 1000000) :
    Calls Tryz.prog 53 #[.slice a n c] w fun e w' => ∃ a' c', e = .returned (.slice a' n c') ∧ OL .bool 4 w.heap.size w' a' n c' l ∧ Below w.heap.size w w' := by
  have q22 : ∀ (w : World) (a : Option Addr) (n c n' c' : Nat), (binOp .eql 29 (.slice a n c) (.slice none n' c')).run Tryz.prog w = .ok (.bool a.isNone) w := fun w a n c n' c' => Lib.run_eql_slice_nil w _ _ a n c n' c' tB.und
  cases a with
  | none =>
    obtain rfl : n = 0 := by
      by_cases h0 : n = 0
      · exact h0
      · obtain ⟨b, off, e, _⟩ := h.cell (by omega); cases e
    obtain rfl : l = [] := List.eq_nil_of_length_eq_zero h.len
    go_enter Tryz.func53, Tryz.ntmps53
    go_wp2
    go_ret
    exact ⟨none, 0, rfl, OL.nil _ _ _ _, Below.refl _ _⟩
  | some ad =>
    have h1 := h.below (bnew0 w (.cells #[] 4))
    have ho := ol_lit Value.bool 4 w.heap.size w [] #[] 0 rfl rfl (by omega) (Nat.le_refl _)
    go_enter Tryz.func53, Tryz.ntmps53
    go_wp2_with (at_builtin; refine wpList_app (f := Value.bool) tB rfl _ _ rfl rfl ho rfl h1 (fun _ => rfl) (by omega) (by omega) (by simp) ?_; intro w10 a10 c10 hol10 hb10)
    go_ret
    rw [Nat.zero_add, List.nil_append] at hol10
    exact ⟨a10, c10, rfl, hol10, (bnew0 w _).trans hb10⟩

/-- The cells of the spans. -/
def spC : Array Value := #[.int .u8 0, .int .u8 0, .func (.func 100) #[] #[], .int .u8 1, .int .u8 1, .func (.func 101) #[] #[], .int .u8 2, .int .u8 2, .func (.func 102) #[] #[],
  .int .u8 3, .int .u8 3, .func (.func 103) #[] #[], .int .u8 4, .int .u8 9, .func (.func 104) #[] #[], .int .u8 10, .int .u8 10, .func (.func 105) #[] #[]]

theorem spans_any (w : World) :
    Calls Tryz.prog 94 #[] w fun e w' => e = .returned (.slice (some ⟨w.heap.size, 0, none⟩) 6 6) ∧ w'.heap[w.heap.size]? = some (.cells spC 140 (0, 0)) ∧ Below w.heap.size w w' := by
  go_enter Tryz.func94, Tryz.ntmps94
  go_wp2
  go_ret
  exact ⟨rfl, heap_alloc_new _ _, bnew0 _ _⟩

section
variable {s : Tk} {x : Bool}

theorem nx_two (h : s.p = 2) : nxT s x = (⟨s.b, s.m, s.l, 3, s.fi⟩, 0) := by unfold nxT; rw [if_neg (by omega), if_pos h]
theorem nx_ten (h : s.p = 10) : nxT s x = (⟨s.b, s.m, s.l, 11, s.fi⟩, if x then 6 else 5) := by unfold nxT; rw [if_neg (by omega), if_neg (by omega), if_pos h]
theorem nx_over (h : 10 < s.p) : nxT s x = (s, 6) := by unfold nxT; rw [if_neg (by omega), if_neg (by omega), if_neg (by omega), if_pos h]
theorem nx_dom (h0 : s.p ≠ 0) (h2 : s.p ≠ 2) (h10 : s.p < 10) : nxT s false = (⟨s.b, s.m, s.l, 11, s.fi⟩, 2) := by
  unfold nxT; rw [if_neg h0, if_neg h2, if_neg (by omega), if_neg (by omega), if_pos rfl]
theorem nx_bad (h : s.p = 3) (hf : s.fi = false) : nxT s true = (⟨s.b, s.m, s.l, 11, s.fi⟩, 3) := by
  unfold nxT; rw [if_neg (by omega), if_neg (by omega), if_neg (by omega), if_neg (by omega), if_neg (show ¬ (true = false) by simp), if_pos ⟨h, hf⟩]
theorem nx_on (h0 : s.p ≠ 0) (h2 : s.p ≠ 2) (h10 : s.p < 10) (hf : s.p = 3 → s.fi = true) : nxT s true = (⟨s.b, s.m, s.l, s.p + 1, s.fi⟩, if s.p = 9 then 4 else 0) := by
  unfold nxT; rw [if_neg h0, if_neg h2, if_neg (by omega), if_neg (by omega), if_neg (show ¬ (true = false) by simp), if_neg (fun h => by rw [hf h.1] at h; simp at h)]
end

/-- What a function that a bit leads to returns: the plain function's state and what it says. -/
def Lead (f : FuncId) (B : Nat) (s : Tk) (x : Bool) : Prop := ∀ (w : World) (a : Option Addr) (n c : Nat), n = s.l.length → OL .bool 4 B w a n c s.l → B ≤ w.heap.size →
    Calls Tryz.prog f #[.agg #[.bool s.b, .int .u8 (s.m : Int), .slice a n c, .int .u8 (s.p : Int), .bool s.fi], .bool x] w fun e w' => ∃ a' c',
      e = .returned (.tuple #[.agg #[.bool (nxT s x).1.b, .int .u8 ((nxT s x).1.m : Int), .slice a' (nxT s x).1.l.length c', .int .u8 ((nxT s x).1.p : Int), .bool (nxT s x).1.fi], .int .u8 ((nxT s x).2 : Int)]) ∧
      OL .bool 4 B w' a' (nxT s x).1.l.length c' (nxT s x).1.l ∧ Below B w w'

theorem lead_body (B : Nat) (s : Tk) (x : Bool) (hp : s.p = 0) (hl : s.l.length ≤ 10000) (hr : rightA s.b s.m) : Lead 100 B s x := by
  intro w a n c hn hol hB
  have h2 : (nxt s.b s.m x).2 = 0 ∨ (nxt s.b s.m x).2 = 1 ∨ (nxt s.b s.m x).2 = 2 := by
    unfold nxt; split <;> split <;> simp
  subst hn
  rw [hp]
  unfold nxT
  rw [if_pos hp]
  rcases h2 with h | h | h
  · rw [if_neg (by omega), if_neg (by omega)]
    refine (inBody_plain B w s.b s.m a _ c s.l s.fi x hol hB hl hr h).mono ?_
    rintro e w' ⟨a', c', rfl, ho, hb⟩
    dsimp only
    rw [List.length_append]
    refine ⟨a', c', ?_, ho, hb⟩
    split <;> rfl
  · rw [if_neg (by omega), if_pos h]
    refine (inBody_stuff B w s.b s.m a _ c s.l s.fi x hol hB hl hr h).mono ?_
    rintro e w' ⟨a', c', rfl, ho, hb⟩
    dsimp only
    refine ⟨a', c', ?_, ho, hb⟩
    split <;> rfl
  · rw [if_pos h]
    refine (inBody_wrong B w s.b s.m a _ c s.l s.fi x hol hB hr h).mono ?_
    rintro e w' ⟨rfl, ho, hb⟩
    exact ⟨a, c, rfl, ho, hb⟩

theorem lead_fixed (B : Nat) (s : Tk) (x : Bool) (hp : s.p = 1) : Lead 101 B s x := by
  intro w a n c hn hol hB
  subst hn
  rw [hp]
  refine (atFixed_any w s.b s.m a _ c 1 2 s.fi x rfl (by omega)).mono ?_
  rintro e w' ⟨rfl, hb⟩
  cases x
  · rw [nx_dom (by omega) (by omega) (by omega)]
    exact ⟨a, c, rfl, hol.below hb, hb.mono hB⟩
  · rw [nx_on (by omega) (by omega) (by omega) (by omega), hp]
    exact ⟨a, c, rfl, hol.below hb, hb.mono hB⟩

theorem lead_ack (B : Nat) (s : Tk) (x : Bool) (hp : s.p = 2) : Lead 102 B s x := by
  intro w a n c hn hol hB
  subst hn
  rw [hp]
  refine (atAck_any w s.b s.m a _ c s.fi x).mono ?_
  rintro e w' ⟨rfl, hb⟩
  rw [nx_two hp]
  exact ⟨a, c, rfl, hol.below hb, hb.mono hB⟩

theorem lead_done (B : Nat) (s : Tk) (x : Bool) (hp : s.p = 3) : Lead 103 B s x := by
  intro w a n c hn hol hB
  subst hn
  rw [hp]
  refine (atDone_any w s.b s.m a _ c s.fi x).mono ?_
  rintro e w' ⟨rfl, hb⟩
  cases x
  · rw [nx_dom (by omega) (by omega) (by omega)]
    exact ⟨a, c, rfl, hol.below hb, hb.mono hB⟩
  · cases hf : s.fi
    · rw [nx_bad hp hf, hf]
      exact ⟨a, c, rfl, hol.below hb, hb.mono hB⟩
    · rw [nx_on (by omega) (by omega) (by omega) (fun _ => hf), hp, hf]
      exact ⟨a, c, rfl, hol.below hb, hb.mono hB⟩

theorem lead_end (B : Nat) (s : Tk) (x : Bool) (hp : 4 ≤ s.p) (hp9 : s.p ≤ 9) : Lead 104 B s x := by
  intro w a n c hn hol hB
  subst hn
  refine (atEnd_any w s.b s.m a _ c (s.p : Int) ((s.p + 1 : Nat) : Int) s.fi x (by omega) (by omega)).mono ?_
  rintro e w' ⟨rfl, hb⟩
  cases x
  · rw [nx_dom (by omega) (by omega) (by omega)]
    exact ⟨a, c, rfl, hol.below hb, hb.mono hB⟩
  · rw [nx_on (by omega) (by omega) (by omega) (by omega)]
    refine ⟨a, c, ?_, hol.below hb, hb.mono hB⟩
    by_cases h9 : s.p = 9
    · rw [if_pos (show (s.p : Int) = 9 by omega), if_pos h9]; rfl
    · rw [if_neg (show ¬ (s.p : Int) = 9 by omega), if_neg h9]; rfl

theorem lead_last (B : Nat) (s : Tk) (x : Bool) (hp : s.p = 10) : Lead 105 B s x := by
  intro w a n c hn hol hB
  subst hn
  rw [hp]
  refine (atLast_any w s.b s.m a _ c s.fi x).mono ?_
  rintro e w' ⟨rfl, hb⟩
  rw [nx_ten hp]
  refine ⟨a, c, ?_, hol.below hb, hb.mono hB⟩
  cases x <;> rfl
end Go.Proofs.YtgpmhmdofefdcaaGreat
