/-
  The walk of the statement StuffTells: it returns true for every input, and nothing that was there has changed.
-/
import Derived.Test.YthdjocfnkhhghaaB2f
namespace Go.Proofs.Ythdjocfnkhhghaa
open Go.RowKit
set_option linter.unusedVariables false

/-- Behind a box that was laid, and a call. -/
theorem one_bx {w w1 : World} {E : TypeId} {u : Array Value} (g1 : Below (w.alloc (.cells u E)).heap.size (w.alloc (.cells u E)) w1) : w1.heap[w.heap.size]? = some (.cells u E (0, 0)) ∧ Below w.heap.size w w1 ∧ w.heap.size + 1 ≤ w1.heap.size :=
  ⟨bx_below (heap_alloc_new _ _) g1, (bnew0 w _).trans (g1.mono (by simp)), by have := g1.size; rw [heap_size_alloc] at this; exact this⟩

set_option maxHeartbeats 1000000 in
theorem stuffTells_walk (w : World) (b : Bool) (m : Nat) (x : Bool) (a : Option Addr) (n c : Nat) (l : List Bool) (hm : m < 256) (h : RL .bool w a n c l) (m1 : n ≤ 9223372036854775807) :
    Calls Try.prog 3 #[.agg #[.bool b, .int .u8 (m : Int)], .bool x, .slice a n c] w fun e w' => e = .returned (.bool true) ∧ Below w.heap.size w w' := by
  by_cases h1 : 300 < n
  · go_enter Try.func3, Try.ntmps3
    go_wp2_with (go_at_call 7; refine (awake2_any _).mono ?_; rintro e w1 ⟨rfl, hb1⟩)
    go_ret
    exact ⟨rfl, bstep (bnew0 w _) hb1⟩
  obtain ⟨PL, hPL⟩ : ∃ PL, PL = putL l := ⟨_, rfl⟩
  obtain ⟨T1, hT1⟩ : ∃ T1, T1 = (tkL l).1 := ⟨_, rfl⟩
  obtain ⟨T2, hT2⟩ : ∃ T2, T2 = (tkL l).2 := ⟨_, rfl⟩
  have hPLn : PL.length ≤ 1000000 := by rw [hPL]; have := (putL_len l).2; have := h.len; omega
  have hTKn : T1.length ≤ 1000000 := by rw [hT1]; have := tkL_len l; have := h.len; omega
  have HPL := hid hPL; have HT1 := hid hT1; have HT2 := hid hT2
  clear hPL hT1 hT2
  by_cases hr : (decide (m ≤ 5) && (!b || !decide (m = 0))) = true
  · have hra : rightA b m := by
      refine ⟨by simp at hr; exact hr.1, fun h0 => ?_⟩
      subst h0
      cases b
      · rfl
      · simp at hr
    have hm5 : ¬ (5 : Int) < (m : Int) := by have := hra.1; omega
    obtain ⟨d, hd, hdd⟩ : ∃ d, ((m : Int) == 5) = d ∧ decide (m = 5) = d := ⟨decide (m = 5), by rw [Bool.eq_iff_iff]; simp; omega, rfl⟩
    obtain ⟨z, hz, hzb⟩ : ∃ z, ((m : Int) == 0) = z ∧ (z = true → b = false) := ⟨decide (m = 0), by rw [Bool.eq_iff_iff]; simp, fun h => hra.2 (by simpa using h)⟩
    have HR := hid hra
    clear hr hra
    obtain ⟨b1, hb1'⟩ : ∃ b1, b1 = (nxt b m x).1.1 := ⟨_, rfl⟩
    obtain ⟨m1, hm1⟩ : ∃ m1, m1 = (nxt b m x).1.2 := ⟨_, rfl⟩
    obtain ⟨kd, hkd⟩ : ∃ kd, kd = (nxt b m x).2 := ⟨_, rfl⟩
    have HB1 := hid hb1'; have HM1 := hid hm1; have HKD := hid hkd
    clear hb1' hm1 hkd
    cases z
    all_goals
      first | (obtain rfl := hzb rfl) | skip
      cases d
    all_goals
      go_enter Try.func3, Try.ntmps3
      go_wp2_with (first
        | (go_at_call 8; refine (next_any _ _ m x HR.out).mono ?_; rw [← HB1.out, ← HM1.out, ← HKD.out]; rintro e w1 ⟨rfl, g1⟩; obtain ⟨p1, gg1, q1⟩ := one_bx g1; obtain ⟨c0, c1, _, _⟩ := bx (bx_alloc (.cells #[.bool b1, .int .u8 (m1 : Int)] 23) p1))
        | (go_at_call 9; refine (owed_any _ _ m (by omega)).mono ?_; rw [hdd]; rintro e w2 ⟨rfl, g2⟩; have gg2 := bstep gg1 ((bnew0 w1 _).trans (g2.mono (by simp))); have p2 := bx_below (bx_alloc _ p1) g2; have r2 := bx_below (heap_alloc_new w1 _) g2; obtain ⟨c2, c3, _, _⟩ := bx p2; obtain ⟨d2, d3, _, _⟩ := bx r2)
        | (go_at_call 10; refine (refNext_any w2 _ m x HR.out).mono ?_; rw [← HB1.out, ← HM1.out, ← HKD.out]; rintro e w3 ⟨rfl, g3⟩; have gg3 := bstep gg2 g3; obtain ⟨c4, c5, _, _⟩ := bx (bx_alloc (.cells #[.bool b1, .int .u8 (m1 : Int)] 23) (bx_below p2 g3)); obtain ⟨d4, d5, _, _⟩ := bx (bx_alloc (.cells #[.bool b1, .int .u8 (m1 : Int)] 23) (bx_below r2 g3)); have gg3' := gg3.alloc gg3.size (.cells #[.bool b1, .int .u8 (m1 : Int)] 23))
        | (go_at_call 11; refine (anew_any _ a n c l (h.below gg3') (by omega)).mono ?_; rintro e w4 ⟨a4, c4, rfl, hol4, g4⟩; have gg4 := bstep gg3' g4; have hm4 := hol4.rl; have hl4 := h.below gg4)
        | (go_at_call 12; refine (take_any w4 _ _ _ _ hm4 (by omega)).mono ?_; rw [← HT1.out, ← HT2.out]; rintro e w5 ⟨a5, c5, rfl, hol5, g5⟩; have gg5 := bstep gg4 g5; have hm5' := hm4.below g5; have hl5 := h.below gg5)
        | (go_at_call 13; refine (refTake_any w5 _ _ _ _ hl5 (by omega)).mono ?_; rw [← HT1.out, ← HT2.out]; rintro e w6 ⟨a6, c6, rfl, hol6, g6⟩; have gg6 := bstep gg5 g6; have hm6 := hm5'.below g6; have hl6 := h.below gg6; have ht6 := hol5.rl.below g6)
        | (go_at_call 15; refine (put_any w6 _ _ _ _ hm6 (by omega)).mono ?_; rw [← HPL.out]; rintro e w7 ⟨a7, c7, rfl, hol7, g7⟩; have gg7 := bstep gg6 g7; have hm7 := hm6.below g7; have hl7 := h.below gg7; have ht7 := ht6.below g7; have hu7 := hol6.rl.below g7)
        | (go_at_call 16; refine (refPut_any w7 _ _ _ _ hl7 (by omega)).mono ?_; rw [← HPL.out]; rintro e w8 ⟨a8, c8, rfl, hol8, g8⟩; have gg8 := bstep gg7 g8; have hm8 := hm7.below g8; have hl8 := h.below gg8; have ht8 := ht7.below g8; have hu8 := hu7.below g8; have hp8 := hol7.rl.below g8)
        | (go_at_call 14; (with_reducible refine (same_any w8 _ _ _ _ _ _ _ _ hp8 hol8.rl hPLn).mono ?_); rintro e w9 ⟨rfl, rfl⟩)
        | (go_at_call 14; (with_reducible refine (same_any w8 _ _ _ _ _ _ _ _ ht8 hu8 hTKn).mono ?_); rintro e w9 ⟨rfl, rfl⟩)
        | (go_at_call 14; (with_reducible refine (same_any w8 _ _ _ _ _ _ _ _ hm8 hl8 (by omega)).mono ?_); rintro e w9 ⟨rfl, rfl⟩)
        | (go_at_call 7; refine (awake2_any w8).mono ?_; rintro e w9 ⟨rfl, g9⟩))
    all_goals
      go_ret
      exact ⟨rfl, bstep gg8 g9⟩
  · have hr0 : (decide (m ≤ 5) && (!b || !decide (m = 0))) = false := by simpa using hr
    have hm55 : m ≠ 5 := by rintro rfl; cases b <;> simp at hr0
    have hcase : (5 : Int) < (m : Int) ∨ (¬ (5 : Int) < (m : Int) ∧ ((m : Int) == 0) = true ∧ b = true) := by
      by_cases h6 : 5 < m
      · exact .inl (by omega)
      · right
        cases b
        · simp at hr0; omega
        · simp at hr0; exact ⟨by omega, by simp; have := hr0 (by omega); omega, rfl⟩
    clear hr
    rcases hcase with h6 | ⟨h6, h7, rfl⟩
    all_goals
      go_enter Try.func3, Try.ntmps3
      go_wp2_with (first
        | (go_at_call 8; refine (next_wrong _ _ m x hm hr0).mono ?_; rintro e w1 ⟨rfl, g1⟩; obtain ⟨p1, gg1, q1⟩ := one_bx g1; obtain ⟨c0, c1, _, _⟩ := bx (bx_alloc (.cells #[.bool false, .int .u8 0] 23) p1))
        | (go_at_call 9; refine (owed_none _ _ m hm hm55).mono ?_; rintro e w2 ⟨rfl, g2⟩; have gg2 := bstep gg1 ((bnew0 w1 _).trans (g2.mono (by simp))); have p2 := bx_below (bx_alloc _ p1) g2; have r2 := bx_below (heap_alloc_new w1 _) g2; obtain ⟨c2, c3, _, _⟩ := bx p2; obtain ⟨d2, d3, _, _⟩ := bx r2)
        | (go_at_call 11; refine (anew_any _ a n c l (h.below gg2) (by omega)).mono ?_; rintro e w4 ⟨a4, c4, rfl, hol4, g4⟩; have gg4 := bstep gg2 g4; have hm4 := hol4.rl; have hl4 := h.below gg4)
        | (go_at_call 12; refine (take_any w4 _ _ _ _ hm4 (by omega)).mono ?_; rw [← HT1.out, ← HT2.out]; rintro e w5 ⟨a5, c5, rfl, hol5, g5⟩; have gg5 := bstep gg4 g5; have hm5' := hm4.below g5; have hl5 := h.below gg5)
        | (go_at_call 13; refine (refTake_any w5 _ _ _ _ hl5 (by omega)).mono ?_; rw [← HT1.out, ← HT2.out]; rintro e w6 ⟨a6, c6, rfl, hol6, g6⟩; have gg6 := bstep gg5 g6; have hm6 := hm5'.below g6; have hl6 := h.below gg6; have ht6 := hol5.rl.below g6)
        | (go_at_call 15; refine (put_any w6 _ _ _ _ hm6 (by omega)).mono ?_; rw [← HPL.out]; rintro e w7 ⟨a7, c7, rfl, hol7, g7⟩; have gg7 := bstep gg6 g7; have hm7 := hm6.below g7; have hl7 := h.below gg7; have ht7 := ht6.below g7; have hu7 := hol6.rl.below g7)
        | (go_at_call 16; refine (refPut_any w7 _ _ _ _ hl7 (by omega)).mono ?_; rw [← HPL.out]; rintro e w8 ⟨a8, c8, rfl, hol8, g8⟩; have gg8 := bstep gg7 g8; have hm8 := hm7.below g8; have hl8 := h.below gg8; have ht8 := ht7.below g8; have hu8 := hu7.below g8; have hp8 := hol7.rl.below g8)
        | (go_at_call 14; (with_reducible refine (same_any w8 _ _ _ _ _ _ _ _ hp8 hol8.rl hPLn).mono ?_); rintro e w9 ⟨rfl, rfl⟩)
        | (go_at_call 14; (with_reducible refine (same_any w8 _ _ _ _ _ _ _ _ ht8 hu8 hTKn).mono ?_); rintro e w9 ⟨rfl, rfl⟩)
        | (go_at_call 14; (with_reducible refine (same_any w8 _ _ _ _ _ _ _ _ hm8 hl8 (by omega)).mono ?_); rintro e w9 ⟨rfl, rfl⟩)
        | (go_at_call 7; refine (awake2_any w8).mono ?_; rintro e w9 ⟨rfl, g9⟩))
    all_goals
      go_ret
      exact ⟨rfl, bstep gg8 g9⟩
end Go.Proofs.Ythdjocfnkhhghaa
