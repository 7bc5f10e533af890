/-
  Contracts of the document's own answers of layer 5: right lists, what is made.
-/
import Derived.Test.YtoeeaohgihipgaaB5e
namespace Go.Proofs.Ytoeeaohgihipgaa
open Go.RowKit Go.Sort
set_option linter.unusedVariables false

theorem refRight_any (w : World) (a : Option Addr) (n c : Nat) (l : List Fl) (h : RK fe 2 w a n c l) (hn : n ≤ 100000) :
    Calls Try.prog 12 #[.slice a n c] w fun e w' => e = .returned (.bool (rightB l)) ∧ Below w.heap.size w w' := by
  have HLN := hid h.len
  go_enter Try.func12, Try.ntmps12
  go_wp2
  go_loopg [3] n (fun gn i wr => ∃ k : Nat, k ≤ n ∧ gn = n - k ∧ i = .int .i64 (k : Int) ∧ Sor (l.take k) ∧ AllF (l.take k) ∧ Below w.heap.size w wr)
  case atStart => exact ⟨0, by omega, by omega, rfl, by simp [Sor], by simp [AllF], Below.refl _ _⟩
  case round =>
    obtain ⟨k, hk, rfl, rfl, hs, hall, hb⟩ := hrel
    have HS := hid hs; clear hs
    have HALL := hid hall; clear hall
    by_cases hlt : k < n
    · obtain ⟨b, off, s, u, rfl, hx, hbk, hc0, hc1⟩ := rf_at (h.below hb) hlt
      have HX := hid hx; clear hx
      have hc0 := cell_regrown hc0
      have hc1 := cell_regrown hc1
      have k1 : ∀ d os, Calls Try.prog 27 #[.agg #[.int .i64 s, .int .u8 (u : Int)]] (grow (redrawn wr d) os) fun e w'' => e = .returned (.bool (isF (s, u))) ∧ ∃ p : Regrown, w'' = grow (redrawn wr p.d) p.os := fun d os =>
        Calls.regrown_of (may_any _ s u)
      cases hF : isF (s, u)
      · rw [hF] at k1
        have HE := hid (rightB_false (l := l) fun hr => by have := hr.2.1 _ (List.mem_of_getElem? HX.out); rw [hF] at this; cases this)
        clear hF
        go_wp2
        refine wp_region_quiet_below (by kernel_rfl) (by kernel_rfl) ?_
        repeat (go_big_quiet_step (first | (go_at_call 27; with_reducible exact k1 _ _)))
        refine wpQuiet_nil ?_
        intro w9 hw9
        have g9 : Below wr.heap.size wr w9 := by obtain ⟨p9, rfl⟩ := hw9; exact below_regrown _ _ _
        clear hw9 k1 hc0 hc1
        go_wp2
        go_ret
        exact ⟨ret_bool HE.out.symm, bstep hb g9⟩
      · rw [hF] at k1
        have HA2 := hid (show AllF (l.take (k + 1)) by
          rw [allF_iff, all_snoc HX.out, (allF_iff _).1 HALL.out, hF]; rfl)
        clear hF
        by_cases h0 : k = 0
        · subst h0
          simp only [Nat.zero_mul, Nat.add_zero] at hc0 hc1
          go_wp2
          refine wp_region_quiet_below (by kernel_rfl) (by kernel_rfl) ?_
          repeat (go_big_quiet_step (first | (go_at_call 27; with_reducible exact k1 _ _)))
          refine wpQuiet_nil ?_
          intro w9 hw9
          have g9 : Below wr.heap.size wr w9 := by obtain ⟨p9, rfl⟩ := hw9; exact below_regrown _ _ _
          clear hw9 k1 hc0 hc1
          go_wp2
          go_roundg (n - 1)
          case measure => omega
          case rel => exact ⟨1, by omega, rfl, by go_num, sor_one l, HA2.out, bstep hb g9⟩
        · obtain ⟨j, rfl⟩ : ∃ j, k = j + 1 := ⟨k - 1, by omega⟩
          obtain ⟨b', off', s2, u2, e2, hx2, hbk2, hc2, hc3⟩ := rf_at (h.below hb) (k := j) (by omega)
          cases e2
          have HX2 := hid hx2; clear hx2
          have hc2 := cell_regrown hc2
          have hc3 := cell_regrown hc3
          have k2 : ∀ d os, Calls Try.prog 29 #[.agg #[.int .i64 s2, .int .u8 (u2 : Int)], .agg #[.int .i64 s, .int .u8 (u : Int)]] (grow (redrawn wr d) os) fun e w'' => e = .returned (.bool (ltF (s2, u2) (s, u))) ∧ ∃ p : Regrown, w'' = grow (redrawn wr p.d) p.os := fun d os =>
            Calls.regrown_of (less_any _ s2 s u2 u)
          have i1 : IntKind.i64.wrap (((j + 1 : Nat) : Int) - 1) = (j : Int) := by rw [IntWalk.i64_in _ (by omega)]; omega
          have i4 : (j : Int) < (n : Int) := by omega
          have i5 : ((j + 1 : Nat) : Int) < (n : Int) := by omega
          have i6 : (0 : Int) < ((j + 1 : Nat) : Int) := by omega
          clear h0
          cases hlt2 : ltF (s2, u2) (s, u)
          · rw [hlt2] at k2
            have HF := hid (rightB_false (l := l) fun hr => sor_not HX2.out HX.out hlt2 hr.2.2)
            clear hlt2
            go_wp2
            refine wp_region_quiet_below (by kernel_rfl) (by kernel_rfl) ?_
            repeat (go_big_quiet_step (first | (go_at_call 27; with_reducible exact k1 _ _) | (go_at_call 29; with_reducible exact k2 _ _)))
            refine wpQuiet_nil ?_
            intro w9 hw9
            have g9 : Below wr.heap.size wr w9 := by obtain ⟨p9, rfl⟩ := hw9; exact below_regrown _ _ _
            clear hw9 k1 k2 hc0 hc1 hc2 hc3
            go_wp2
            go_ret
            exact ⟨ret_bool HF.out.symm, bstep hb g9⟩
          · rw [hlt2] at k2
            have HF := hid (sor_step HS.out HX2.out HX.out hlt2)
            clear hlt2
            go_wp2
            refine wp_region_quiet_below (by kernel_rfl) (by kernel_rfl) ?_
            repeat (go_big_quiet_step (first | (go_at_call 27; with_reducible exact k1 _ _) | (go_at_call 29; with_reducible exact k2 _ _)))
            refine wpQuiet_nil ?_
            intro w9 hw9
            have g9 : Below wr.heap.size wr w9 := by obtain ⟨p9, rfl⟩ := hw9; exact below_regrown _ _ _
            clear hw9 k1 k2 hc0 hc1 hc2 hc3
            go_wp2
            go_roundg (n - (j + 1 + 1))
            case measure => omega
            case rel => exact ⟨j + 1 + 1, by omega, rfl, by go_num, HF.out, HA2.out, bstep hb g9⟩
    · have e1 := HS.out
      have e2 := HALL.out
      rw [List.take_of_length_le (by rw [HLN.out]; omega)] at e1 e2
      have HE := hid (rightB_true (l := l) ⟨by rw [HLN.out]; exact hn, e2, e1⟩)
      clear e1 e2
      go_wp2
      go_ret
      exact ⟨ret_bool (by rw [HE.out]; simp; omega), hb⟩
end Go.Proofs.Ytoeeaohgihipgaa
