/-
  Contracts: which lists are right.
-/
import Derived.Test.YtoeeaohgihipgaaB5d
import Derived.Test.YtoeeaohgihipgaaM5b
import Derived.StillTailTactics
namespace Go.Proofs.Ytoeeaohgihipgaa
open Go.RowKit Go.Sort
set_option linter.unusedVariables false

theorem less_any (w : World) (s s2 : Int) (u u2 : Nat) : Calls Try.prog 29 #[.agg #[.int .i64 s, .int .u8 (u : Int)], .agg #[.int .i64 s2, .int .u8 (u2 : Int)]] w fun e w' => e = .returned (.bool (ltF (s, u) (s2, u2))) ∧ Below w.heap.size w w' := by
  by_cases h1 : s < s2
  · have hF : ltF (s, u) (s2, u2) = true := by simp [ltF]; omega
    rw [hF]; clear hF
    go_enter Try.func29, Try.ntmps29
    go_wp2
    go_ret
    exact ⟨rfl, bnew (bnew0 w _) _⟩
  · by_cases h2 : s = s2
    · subst h2
      by_cases h3 : (u : Int) < (u2 : Int)
      · have hF : ltF (s, u) (s, u2) = true := by simp [ltF]; omega
        rw [hF]; clear hF
        have h3' : decide (u < u2) = true := by simp; omega
        go_enter Try.func29, Try.ntmps29
        go_wp2
        go_ret
        exact ⟨rfl, bnew (bnew0 w _) _⟩
      · have hF : ltF (s, u) (s, u2) = false := by simp [ltF]; omega
        rw [hF]; clear hF
        have h3' : decide (u < u2) = false := by simp; omega
        go_enter Try.func29, Try.ntmps29
        go_wp2
        go_ret
        exact ⟨rfl, bnew (bnew0 w _) _⟩
    · have hF : ltF (s, u) (s2, u2) = false := by simp [ltF]; omega
      rw [hF]; clear hF
      have h2' : (s == s2) = false := by simpa using h2
      clear h2
      go_enter Try.func29, Try.ntmps29
      go_wp2
      go_ret
      exact ⟨rfl, bnew (bnew0 w _) _⟩

theorem grown_below {w w' : World} (h : ∃ q os', w' = grow (w.drewN q) os') : Below w.heap.size w w' := by
  obtain ⟨q, os', rfl⟩ := h
  refine ⟨rfl, rfl, rfl, by simp [grow], fun k hk => ?_⟩
  simp [grow, Array.getElem?_append_left hk]

theorem right_any (w : World) (a : Option Addr) (n c : Nat) (l : List Fl) (h : RK fe 2 w a n c l) (hn : n ≤ 100000000) :
    Calls Try.prog 11 #[.slice a n c] w fun e w' => e = .returned (.bool (rightB l)) ∧ Below w.heap.size w w' := by
  by_cases hbig : 100000 < n
  · have hF : rightB l = false := rightB_false fun hr => by have := hr.1; rw [h.len] at this; omega
    rw [hF]; clear hF
    go_enter Try.func11, Try.ntmps11
    go_wp2
    go_ret
    exact ⟨rfl, Below.refl _ _⟩
  · cases hall : l.all isF
    · have hF : rightB l = false := rightB_false fun hr => by have := (allF_iff l).1 hr.2.1; rw [hall] at this; cases this
      rw [hF]; clear hF
      have hca := all_any w a n c l h hn
      rw [hall] at hca
      clear hall
      go_enter Try.func11, Try.ntmps11
      go_wp2_with (first | (go_at_call 24; with_reducible refine hca.mono ?_; rintro e w' ⟨rfl, g1⟩))
      go_ret
      exact ⟨rfl, g1⟩
    · have hca := all_any w a n c l h hn
      rw [hall] at hca
      have HALL := hid ((allF_iff l).2 hall); clear hall
      have hln := h.len
      go_enter Try.func11, Try.ntmps11
      go_wp2_with (first | (go_at_call 24; with_reducible refine hca.mono ?_; rintro e w1 ⟨rfl, g1⟩) | (go_at_call 25; with_reducible refine (bySteps_any _).mono ?_; rintro e w2 ⟨rfl, g2⟩))
      have hb3 := bnew (g1.trans (g2.mono g1.size)) (.cells #[.func (.func 31) #[] #[]] 49)
      have hbx3 := heap_alloc_new w2 (.cells #[.func (.func 31) #[] #[]] 49)
      have hlt3 : w2.heap.size < (w2.alloc (.cells #[.func (.func 31) #[] #[]] 49)).heap.size := by simp
      have HLN := hid hln; clear hln
      generalize hw3 : w2.alloc (.cells #[.func (.func 31) #[] #[]] 49) = w3 at *
      clear hw3 hca
      go_loopg [4] (n + 1) (fun gn i wr => ∃ k : Nat, k ≤ n ∧ gn = n + 1 - k ∧ i = .int .i64 ((k : Int) + 1) ∧ Sor (l.take (k + 1)) ∧ wr.heap[w2.heap.size]? = some (.cells #[.func (.func 31) #[] #[]] 49 (0, 0)) ∧ Below w.heap.size w wr)
      case atStart => exact ⟨0, by omega, by omega, rfl, sor_one l, hbx3, hb3⟩
      case round =>
        obtain ⟨k, hk, rfl, rfl, hs, hbox, hb⟩ := hrel
        have HS := hid hs; clear hs
        clear hb3 hbx3
        by_cases hlt : k + 1 < n
        · obtain ⟨b, off, s, u, rfl, hx, hbk, hc0, hc1⟩ := rf_at (h.below hb) (k := k) (by omega)
          obtain ⟨b', off', s2, u2, e2, hx2, hbk2, hc2, hc3⟩ := rf_at (h.below hb) hlt
          cases e2
          have HX := hid hx; clear hx
          have HX2 := hid hx2; clear hx2
          have hfx : wr.cell? ⟨w2.heap.size, 0, none⟩ = some (.func (.func 31) #[] #[]) := by rw [cell_of_row _ _ 0 _ _ _ hbox]; rfl
          have k1 : ∀ d os, Calls Try.prog 31 #[.agg #[.int .i64 s, .int .u8 (u : Int)], .agg #[.int .i64 s2, .int .u8 (u2 : Int)]] (grow (redrawn wr d) os) fun e w'' => e = .returned (.int .i64 (cmpF (s, u) (s2, u2))) ∧ ∃ p : Regrown, w'' = grow (redrawn wr p.d) p.os := fun d os =>
            Calls.regrown_of ((closure_any (s, u) (s2, u2) _).mono fun e w' he => ⟨he.1, grown_below he.2⟩)
          have hgq := cmpF_geq (s, u) (s2, u2)
          generalize hcv : cmpF (s, u) (s2, u2) = cv at *
          clear hcv
          have hc0 := cell_regrown hc0
          have hc1 := cell_regrown hc1
          have hc2 := cell_regrown hc2
          have hc3 := cell_regrown hc3
          have hfx := cell_regrown hfx
          have i1 : IntKind.i64.wrap ((k : Int) + 1 - 1) = (k : Int) := by rw [IntWalk.i64_in _ (by omega)]; omega
          have i2 : ((k : Int) + 1).toNat = k + 1 := by omega
          have i3 : (0 : Int) ≤ (k : Int) + 1 := by omega
          have i4 : (k : Int) < (n : Int) := by omega
          have i5 : (k : Int) + 1 < (n : Int) := by omega
          cases hlt2 : ltF (s, u) (s2, u2)
          · rw [hlt2] at hgq
            simp only [Bool.not_false] at hgq
            have HF := hid (rightB_false (l := l) fun hr => sor_not HX.out HX2.out hlt2 hr.2.2)
            clear hlt2
            go_wp2
            refine wp_region_quiet_below (by kernel_rfl) (by kernel_rfl) ?_
            repeat (go_big_quiet_step (first | (go_at_call 31; with_reducible exact k1 _ _)))
            refine wpQuiet_nil ?_
            intro w9 hw9
            have g9 : Below wr.heap.size wr w9 := by obtain ⟨p9, rfl⟩ := hw9; exact below_regrown _ _ _
            clear hw9 k1 hc0 hc1 hc2 hc3 hfx
            go_wp2
            go_ret
            exact ⟨ret_bool HF.out.symm, bstep hb g9⟩
          · rw [hlt2] at hgq
            simp only [Bool.not_true] at hgq
            have HF := hid (sor_step HS.out HX.out HX2.out hlt2)
            clear hlt2
            go_wp2
            refine wp_region_quiet_below (by kernel_rfl) (by kernel_rfl) ?_
            repeat (go_big_quiet_step (first | (go_at_call 31; with_reducible exact k1 _ _)))
            refine wpQuiet_nil ?_
            intro w9 hw9
            have g9 : Below wr.heap.size wr w9 := by obtain ⟨p9, rfl⟩ := hw9; exact below_regrown _ _ _
            clear hw9 k1 hc0 hc1 hc2 hc3 hfx
            go_wp2
            go_roundg (n + 1 - (k + 1))
            case measure => omega
            case rel => exact ⟨k + 1, by omega, rfl, by go_num, HF.out, bx_below hbox g9, bstep hb g9⟩
        · have HE := hid (rightB_true (l := l) ⟨by rw [HLN.out]; omega, HALL.out, by have := HS.out; rwa [List.take_of_length_le (by rw [HLN.out]; omega)] at this⟩)
          go_wp2
          go_ret
          exact ⟨ret_bool HE.out.symm, hb⟩
end Go.Proofs.Ytoeeaohgihipgaa
