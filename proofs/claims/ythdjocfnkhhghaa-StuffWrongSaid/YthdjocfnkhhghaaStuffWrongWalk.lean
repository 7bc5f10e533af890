/-
  The walk of the statement StuffWrong: it returns true for every input, and nothing that was there has changed.
-/
import Derived.Test.YthdjocfnkhhghaaB2f
import Derived.Lib.QuietBelow
namespace Go.Proofs.Ythdjocfnkhhghaa
open Go.RowKit Go.Sort
set_option linter.unusedVariables false

set_option maxHeartbeats 1000000 in
theorem stuffWrong_walk (w : World) (a : Option Addr) (n c : Nat) (l : List Bool) (u : Nat) (h : RL .bool w a n c l) (hu : u < 65536) (m1 : n ≤ 9223372036854775807) :
    Calls Try.prog 5 #[.slice a n c, .int .u16 (u : Int)] w fun e w' => e = .returned (.bool true) ∧ Below w.heap.size w w' := by
  by_cases h1 : 400 < n
  · go_enter Try.func5, Try.ntmps5
    go_wp2_with (go_at_call 7; refine (awake2_any _).mono ?_; rintro e w1 ⟨rfl, hb1⟩)
    go_ret
    exact ⟨rfl, hb1⟩
  obtain ⟨T1, hT1⟩ : ∃ T1, T1 = (tkL l).1 := ⟨_, rfl⟩
  obtain ⟨T2, hT2⟩ : ∃ T2, T2 = (tkL l).2 := ⟨_, rfl⟩
  have hTKn : T1.length ≤ 1000000 := by rw [hT1]; have := tkL_len l; have := h.len; omega
  have hln := h.len
  rcases tkL_stop l with hs | ⟨j, y, hs, hj, y5, y4, y0⟩
  · -- nothing is wrong
    obtain ⟨k, hk⟩ : ∃ k, k = u % (n + 1) := ⟨_, rfl⟩
    have hki : (u : Int) % ((n : Int) + 1) = (k : Int) := by rw [hk]; norm_cast
    have hkj : k ≤ n := by have := Nat.mod_lt u (show 0 < n + 1 by omega); omega
    have hcut := tkL_cut (l := l) (k := k) (by omega) (fun d hd => by rw [hs] at hd; omega)
    have hag := tkL_again hcut.1
    obtain ⟨P, hP⟩ : ∃ P, P = (tkL (l.take k)).1 := ⟨_, rfl⟩
    obtain ⟨A, hA⟩ : ∃ A, A = putL P := ⟨_, rfl⟩
    obtain ⟨p, hp⟩ : ∃ p, p = P.length := ⟨_, rfl⟩
    obtain ⟨q, hq⟩ : ∃ q, q = A.length := ⟨_, rfl⟩
    obtain ⟨t, ht⟩ : ∃ t, t = T1.length := ⟨_, rfl⟩
    rw [← hP, ← hT1] at hcut
    rw [← hP, ← hA] at hag
    have hlk : (l.take k).length = k := by rw [List.length_take]; omega
    have hqk : (q = k ∨ q = k + 1) ∧ A.take k = l.take k := by
      rcases hag with e | ⟨z, e⟩
      · exact ⟨.inl (by rw [hq, e, hlk]), by rw [e]; exact List.take_of_length_le (by omega)⟩
      · refine ⟨.inr (by rw [hq, e, List.length_append, hlk]; rfl), ?_⟩
        rw [e]; exact List.take_left' hlk
    have hpt : p ≤ t := by rw [hp, ht]; exact hcut.2.2
    have hpt' : ¬ (t : Int) < (p : Int) := by omega
    have hpl : p ≤ 1000 := by have := tkL_len (l.take k); rw [← hP, hlk] at this; omega
    have HTL : Hid (tkL (l.take k) = (P, -1)) := by rw [hP]; exact Prod.ext rfl hcut.1
    have HPRE : Hid (P = T1.take p) := by rw [hp]; exact hcut.2.1
    have HAT := hid hqk.2
    have HP := hid hp; have HA := hid hA; have HQ := hid hq; have HT := hid ht
    have HT1 := hid hT1; have HT2 := hid hT2; have HS := hid (hT2.trans hs)
    have hq01 := hqk.1
    clear hT1 hT2 hs hP hA hq ht hcut hag hqk hlk hk hp
    have kk : (((k : Int) + 1) == (k : Int)) = false := by simp; omega
    rcases hq01 with hq1 | hq1
    all_goals
      rw [hq1] at HQ
      go_enter Try.func5, Try.ntmps5
      go_wp2_with (first
        | (go_at_call 12; (with_reducible refine (take_any w a n c l h (by omega)).mono ?_); rw [← HT1.out, ← HT2.out, HS.out, ← HT.out]; rintro e w1 ⟨a1, c1, rfl, hol1, g1⟩; have hl1 := h.below g1; have hl1' := h.below g1)
        | (with_reducible refine wpList_cutTo (f := Value.bool) tB rfl _ _ rfl _ _ k rfl rfl (by omega) hl1 (by omega) ?_; intro a2 hr2)
        | (go_at_call 12; (with_reducible refine (take_any _ a2 k c _ hr2 (by omega)).mono ?_); rw [HTL.out, ← HP.out]; rintro e w2 ⟨a3, c3, rfl, hol3, g2⟩; have g02 := bstep g1 g2; have hl2 := h.below g02; have hg2 := hol1.rl.below g2; obtain ⟨a4, q1, q2, hr4⟩ := run_cutTo tB hg2 .i64 p hpt)
        | (go_at_call 14; (with_reducible refine (same_any w2 _ _ _ _ _ _ _ _ hol3.rl hr4 (by omega)).mono ?_); rw [← HPRE.out]; rintro e w3 ⟨rfl, rfl⟩)
        | (go_at_call 15; (with_reducible refine (put_any w2 _ _ _ _ hol3.rl (by omega)).mono ?_); rw [← HA.out, HQ.out.symm]; rintro e w4 ⟨a5, c5, rfl, hol5, g4⟩; have g04 := bstep g02 g4; have hl4 := h.below g04; obtain ⟨a6, q3, q4, hr6⟩ := run_cutTo tB hol5.rl .i64 k (by omega); obtain ⟨a7, q5, q6, hr7⟩ := run_cutTo tB hl4 .i64 k (by omega); have hsm : ∀ d os, Calls Try.prog 14 #[.slice a6 k c5, .slice a7 k c] (grow (redrawn w4 d) os) fun e w'' => e = .returned (.bool true) ∧ ∃ p : Regrown, w'' = grow (redrawn w4 p.d) p.os := fun d os => Calls.regrown_of ((same_any _ a6 k c5 _ a7 k c _ (hr6.below (below_regrown _ _ _)) (hr7.below (below_regrown _ _ _)) (by omega)).mono fun e w' h9 => ⟨h9.1.trans (ret_bool (by rw [HAT.out]; simp)), by rw [← h9.2]; exact Below.refl _ _⟩); have haw : ∀ d os, Calls Try.prog 7 #[] (grow (redrawn w4 d) os) fun e w'' => e = .returned (.bool true) ∧ ∃ p : Regrown, w'' = grow (redrawn w4 p.d) p.os := fun d os => Calls.regrown_of (awake2_any _)))
      refine wp_region_quiet_below (by kernel_rfl) (by kernel_rfl) ?_
      repeat (go_big_quiet_step (first
        | (go_at_call 14; exact hsm _ _)
        | (go_at_call 7; exact haw _ _)))
      refine wpQuiet_nil ?_
      intro w9 hw9
      have gg : Below w4.heap.size w4 w9 := by obtain ⟨p9, rfl⟩ := hw9; exact below_regrown _ _ _
      clear hw9
      go_wp2
      go_ret
      exact ⟨rfl, bstep g04 gg⟩
  · -- something is wrong
    obtain ⟨b0, off, x0, rfl, _, _⟩ := h.at (k := j) (by omega)
    have Y5 := hid y5; have Y4 := hid y4; have Y0 := hid y0
    clear y5 y4 y0
    have i1 : decide ((j : Int) + 5 < 5) = false := decide_eq_false (by omega)
    have i2 : decide ((n : Int) ≤ (j : Int) + 5) = false := decide_eq_false (by omega)
    have i3 : (((j : Int) + 5) == -1) = false := by simp; omega
    have i4 : (j : Int) + 5 < (n : Int) := by omega
    have i5 : (j : Int) + 4 < (n : Int) := by omega
    have i6 : (j : Int) < (n : Int) := by omega
    obtain ⟨k, hk⟩ : ∃ k, k = u % (j + 5 + 1) := ⟨_, rfl⟩
    have hki : (u : Int) % ((j : Int) + 5 + 1) = (k : Int) := by rw [hk]; norm_cast
    have hkj : k ≤ j + 5 := by have := Nat.mod_lt u (show 0 < j + 5 + 1 by omega); omega
    have hcut := tkL_cut (l := l) (k := k) (by omega) (fun d hd => by rw [hs] at hd; omega)
    have hag := tkL_again hcut.1
    obtain ⟨P, hP⟩ : ∃ P, P = (tkL (l.take k)).1 := ⟨_, rfl⟩
    obtain ⟨A, hA⟩ : ∃ A, A = putL P := ⟨_, rfl⟩
    obtain ⟨p, hp⟩ : ∃ p, p = P.length := ⟨_, rfl⟩
    obtain ⟨q, hq⟩ : ∃ q, q = A.length := ⟨_, rfl⟩
    obtain ⟨t, ht⟩ : ∃ t, t = T1.length := ⟨_, rfl⟩
    rw [← hP, ← hT1] at hcut
    rw [← hP, ← hA] at hag
    have hlk : (l.take k).length = k := by rw [List.length_take]; omega
    have hqk : (q = k ∨ q = k + 1) ∧ A.take k = l.take k := by
      rcases hag with e | ⟨z, e⟩
      · exact ⟨.inl (by rw [hq, e, hlk]), by rw [e]; exact List.take_of_length_le (by omega)⟩
      · refine ⟨.inr (by rw [hq, e, List.length_append, hlk]; rfl), ?_⟩
        rw [e]; exact List.take_left' hlk
    have hpt : p ≤ t := by rw [hp, ht]; exact hcut.2.2
    have hpt' : ¬ (t : Int) < (p : Int) := by omega
    have hpl : p ≤ 1000 := by have := tkL_len (l.take k); rw [← hP, hlk] at this; omega
    have HTL : Hid (tkL (l.take k) = (P, -1)) := by rw [hP]; exact Prod.ext rfl hcut.1
    have HPRE : Hid (P = T1.take p) := by rw [hp]; exact hcut.2.1
    have HAT := hid hqk.2
    have HP := hid hp; have HA := hid hA; have HQ := hid hq; have HT := hid ht
    have HT1 := hid hT1; have HT2 := hid hT2; have HS := hid (hT2.trans hs)
    have hq01 := hqk.1
    clear hT1 hT2 hs hP hA hq ht hcut hag hqk hlk hk hp
    have kk : (((k : Int) + 1) == (k : Int)) = false := by simp; omega
    rcases hq01 with hq1 | hq1
    all_goals
      rw [hq1] at HQ
      go_enter Try.func5, Try.ntmps5
      go_wp2_with (first
        | (go_at_call 12; (with_reducible refine (take_any w _ n c l h (by omega)).mono ?_); rw [← HT1.out, ← HT2.out, HS.out, ← HT.out]; rintro e w1 ⟨a1, c1, rfl, hol1, g1⟩; have hl1 := h.below g1; have hl1' := h.below g1; obtain ⟨_, _, z0, ez0, hz0, ck0⟩ := hl1.at (k := j) (by omega); cases ez0; have ey0 : z0 = y := by { have e1 := Y0.out; rw [hz0] at e1; simpa using e1 }; clear hz0; obtain ⟨_, _, z4, ez4, hz4, ck4⟩ := hl1.at (k := j + 4) (by omega); cases ez4; have ey4 : z4 = y := by { have e1 := Y4.out; rw [hz4] at e1; simpa using e1 }; clear hz4; obtain ⟨_, _, z5, ez5, hz5, ck5⟩ := hl1.at (k := j + 5) (by omega); cases ez5; have ey5 : z5 = y := by { have e1 := Y5.out; rw [hz5] at e1; simpa using e1 }; clear hz5; rw [ey0] at ck0; rw [ey4] at ck4; rw [ey5] at ck5; clear ey0 ey4 ey5))
      cases y
    all_goals
      go_big_quiet (fail)
      have gd := below_drewN g1 nq
      have hl1d := h.below gd
      have hol1d := hol1.drewN nq
      clear hl1 hl1' hol1 g1 ck0 ck4 ck5
      generalize w1.drewN nq = wd at *
      go_wp2_with (first
        | (with_reducible refine wpList_cutTo (f := Value.bool) tB rfl _ _ rfl _ _ k rfl rfl (by omega) hl1d (by omega) ?_; intro a2 hr2)
        | (go_at_call 12; (with_reducible refine (take_any _ a2 k c _ hr2 (by omega)).mono ?_); rw [HTL.out, ← HP.out]; rintro e w2 ⟨a3, c3, rfl, hol3, g2⟩; have g02 := bstep gd g2; have hl2 := h.below g02; have hg2 := hol1d.rl.below g2; obtain ⟨a4, q1, q2, hr4⟩ := run_cutTo tB hg2 .i64 p hpt)
        | (go_at_call 14; (with_reducible refine (same_any w2 _ _ _ _ _ _ _ _ hol3.rl hr4 (by omega)).mono ?_); rw [← HPRE.out]; rintro e w3 ⟨rfl, rfl⟩)
        | (go_at_call 15; (with_reducible refine (put_any w2 _ _ _ _ hol3.rl (by omega)).mono ?_); rw [← HA.out, HQ.out.symm]; rintro e w4 ⟨a5, c5, rfl, hol5, g4⟩; have g04 := bstep g02 g4; have hl4 := h.below g04; obtain ⟨a6, q3, q4, hr6⟩ := run_cutTo tB hol5.rl .i64 k (by omega); obtain ⟨a7, q5, q6, hr7⟩ := run_cutTo tB hl4 .i64 k (by omega); have hsm : ∀ d os, Calls Try.prog 14 #[.slice a6 k c5, .slice a7 k c] (grow (redrawn w4 d) os) fun e w'' => e = .returned (.bool true) ∧ ∃ p : Regrown, w'' = grow (redrawn w4 p.d) p.os := fun d os => Calls.regrown_of ((same_any _ a6 k c5 _ a7 k c _ (hr6.below (below_regrown _ _ _)) (hr7.below (below_regrown _ _ _)) (by omega)).mono fun e w' h9 => ⟨h9.1.trans (ret_bool (by rw [HAT.out]; simp)), by rw [← h9.2]; exact Below.refl _ _⟩); have haw : ∀ d os, Calls Try.prog 7 #[] (grow (redrawn w4 d) os) fun e w'' => e = .returned (.bool true) ∧ ∃ p : Regrown, w'' = grow (redrawn w4 p.d) p.os := fun d os => Calls.regrown_of (awake2_any _)))
      refine wp_region_quiet_below (by kernel_rfl) (by kernel_rfl) ?_
      repeat (go_big_quiet_step (first
        | (go_at_call 14; exact hsm _ _)
        | (go_at_call 7; exact haw _ _)))
      refine wpQuiet_nil ?_
      intro w9 hw9
      have gg : Below w4.heap.size w4 w9 := by obtain ⟨p9, rfl⟩ := hw9; exact below_regrown _ _ _
      clear hw9
      go_wp2
      go_ret
      exact ⟨rfl, bstep g04 gg⟩
end Go.Proofs.Ythdjocfnkhhghaa
