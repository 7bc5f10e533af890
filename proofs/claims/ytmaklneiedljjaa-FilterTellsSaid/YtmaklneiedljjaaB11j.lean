/-
  Contracts of the document's own filters: bits, which are right, which frames one lets in.
-/
import Derived.Test.YtmaklneiedljjaaB11h
namespace Go.Proofs.Ytmaklneiedljjaa
open Go.RowKit Go.Sort
set_option linter.unusedVariables false

theorem refMost_any (e : Bool) (w : World) : Calls Try.prog 28 #[.bool e] w fun r w' => r = .returned (.int .u32 (topF e : Int)) ∧ w = w' := by
  cases e
  · go_enter Try.func28, Try.ntmps28
    go_wp2
    go_ret
    exact ⟨rfl, rfl⟩
  · go_enter Try.func28, Try.ntmps28
    go_wp2
    go_ret
    exact ⟨rfl, rfl⟩

theorem bit_any (x k : Nat) (hx : x < 4294967296) (hk : k ≤ 31) (w : World) : Calls Try.prog 30 #[.int .u32 (x : Int), .int .i64 (k : Int)] w fun r w' => r = .returned (.bool (x.testBit k)) ∧ w = w' := by
  obtain ⟨q, hq⟩ : ∃ q : Nat, q = x / 2 ^ k := ⟨_, rfl⟩
  have hql : q < 4294967296 := by rw [hq]; exact Nat.lt_of_le_of_lt (Nat.div_le_self _ _) hx
  have hs2 : (x : Int) / 2 ^ k = (q : Int) := by rw [hq]; simp
  have ht : x.testBit k = decide (q % 2 = 1) := by rw [Nat.testBit_eq_decide_div_mod_eq, hq]
  have ht2 : ((q : Int) % 2 == 1) = decide (q % 2 = 1) := by rw [Bool.eq_iff_iff]; simp; omega
  rw [ht]
  clear ht
  have HQ := hid hq; clear hq
  have HS := hid hs2; clear hs2
  generalize decide (q % 2 = 1) = z at *
  go_enter Try.func30, Try.ntmps30
  go_wp2
  go_ret
  exact ⟨ret_bool (by rw [HS.out, Int.tmod_eq_emod_of_nonneg (by omega)]; exact ht2), rfl⟩

theorem right_bits {x : Fi} (hx : x.Ok) : rightF x = true ↔ x.mask ≤ topF x.ext ∧ x.mat ≤ topF x.ext ∧ ∀ k, k < 29 → x.mat.testBit k = true → x.mask.testBit k = true := by
  rw [rightF_iff hx]
  constructor
  · rintro ⟨h1, h2⟩
    refine ⟨h1, ?_, fun k _ => h2 k⟩
    have e : x.mat &&& x.mask = x.mat := Nat.eq_of_testBit_eq fun k => by
      rw [Nat.testBit_and]
      cases hk : x.mat.testBit k
      · rfl
      · rw [h2 k hk]; rfl
    rw [← e]
    exact Nat.le_trans Nat.and_le_right h1
  · rintro ⟨h1, h2, h3⟩
    refine ⟨h1, fun k hk => h3 k ?_ hk⟩
    have : x.mat < 2 ^ 29 := by
      have : topF x.ext ≤ 536870911 := by unfold topF; split <;> omega
      omega
    exact bit_le this hk

set_option maxRecDepth 100000 in
set_option maxHeartbeats 4000000 in
theorem refRight11_any (x : Fi) (hx : x.Ok) (w : World) : Calls Try.prog 16 #[.agg (fiV x)] w fun r w' => r = .returned (.bool (rightF x)) ∧ RowKit.Below w.heap.size w w' := by
  have HRB := hid (right_bits hx)
  obtain ⟨w0, hw0, hbx, gg0⟩ := boxed11 w 25 (fiV x)
  have HBX := hid hbx
  obtain ⟨x0, x1, x2⟩ := bx3r hbx
  have hx1 := hx.1
  have hx2 := hx.2
  have kM : ∀ d os, Calls Try.prog 28 #[.bool x.ext] (grow (redrawn w0 d) os) fun r w'' => r = .returned (.int .u32 (topF x.ext : Int)) ∧ ∃ r : Regrown, w'' = grow (redrawn w0 r.d) r.os := fun d os =>
    Calls.regrown_of ((refMost_any x.ext _).mono fun e w' he => ⟨he.1, by rw [he.2]; exact RowKit.Below.refl _ _⟩)
  obtain ⟨t, ht⟩ : ∃ t, t = topF x.ext := ⟨_, rfl⟩
  rw [← ht] at HRB kM
  clear ht hbx
  go_enter Try.func16, Try.ntmps16
  go_wp2
  rw [hw0.out]
  by_cases h1 : x.mask ≤ t
  · have d1 : decide (t < x.mask) = false := by simp; omega
    have d1' : decide ((t : Int) < (x.mask : Int)) = false := by simp; omega
    by_cases h2 : x.mat ≤ t
    · have d2 : decide (t < x.mat) = false := by simp; omega
      have d2' : decide ((t : Int) < (x.mat : Int)) = false := by simp; omega
      refine wp_region_quiet_below (by kernel_rfl) (by kernel_rfl) ?_
      repeat (go_big_quiet_step (first | (go_at_call 28; with_reducible exact kM _ _)))
      refine wpQuiet_nil ?_
      intro w9 hw9
      have g9 : RowKit.Below w0.heap.size w0 w9 := by obtain ⟨p9, rfl⟩ := hw9; exact below_regrown _ _ _
      clear hw9 kM x0 x1 x2
      have gg9 := bstep gg0 g9
      have HB9 := hid (bx_below HBX.out g9)
      clear d1 d1' d2 d2' HBX g9
      have H1 := hid h1
      have H2 := hid h2
      clear h1 h2
      go_wp2
      go_loopg [3] (29 - 0) (fun gn vi wr => ∃ k : Nat, k ≤ 29 ∧ gn = 29 - k ∧ vi = .int .i64 (k : Int) ∧ Hid (∀ j, j < k → x.mat.testBit j = true → x.mask.testBit j = true) ∧ wr = w9)
      case atStart => exact ⟨0, by omega, by omega, by first | rfl | (go_num; done), hid (fun j hj => by omega), rfl⟩
      case round =>
        obtain ⟨k, hk, rfl, rfl, HA, rfl⟩ := hrel
        by_cases hlt : k < 29
        · obtain ⟨y0, y1, y2⟩ := bx3 HB9.out
          have kA := hid (fun w => bit_any x.mat k hx2 (by omega) w)
          have kB := hid (fun w => bit_any x.mask k hx1 (by omega) w)
          obtain ⟨p, hp⟩ : ∃ p, p = x.mat.testBit k := ⟨_, rfl⟩
          obtain ⟨q, hq⟩ : ∃ q, q = x.mask.testBit k := ⟨_, rfl⟩
          rw [← hp] at kA
          rw [← hq] at kB
          have HP := hid hp
          have HQ := hid hq
          clear hp hq
          cases p
          · go_wp2_with (first | (go_at_call 30; (with_reducible refine (kA.out _).mono ?_); rintro e w' ⟨rfl, rfl⟩))
            go_roundg (29 - (k + 1))
            case measure => omega
            case rel => exact ⟨k + 1, by omega, rfl, by go_num, hid (fun j hj hb => by
              by_cases e : j = k
              · subst e; rw [← HP.out] at hb; cases hb
              · exact HA.out j (by omega) hb), rfl⟩
          · cases q
            · have HF := hid (show rightF x = false by
                cases h : rightF x
                · rfl
                · have := (HRB.out.1 h).2.2 k hlt HP.out.symm
                  rw [← HQ.out] at this; cases this)
              go_wp2_with (first
                | (go_at_call 30; (with_reducible refine (kA.out _).mono ?_); rintro e w' ⟨rfl, rfl⟩)
                | (go_at_call 30; (with_reducible refine (kB.out _).mono ?_); rintro e w' ⟨rfl, rfl⟩))
              go_ret
              exact ⟨ret_bool HF.out.symm, gg9⟩
            · go_wp2_with (first
                | (go_at_call 30; (with_reducible refine (kA.out _).mono ?_); rintro e w' ⟨rfl, rfl⟩)
                | (go_at_call 30; (with_reducible refine (kB.out _).mono ?_); rintro e w' ⟨rfl, rfl⟩))
              go_roundg (29 - (k + 1))
              case measure => omega
              case rel => exact ⟨k + 1, by omega, rfl, by go_num, hid (fun j hj hb => by
                by_cases e : j = k
                · subst e; exact HQ.out.symm
                · exact HA.out j (by omega) hb), rfl⟩
        · obtain rfl : k = 29 := by omega
          have HF := hid (show rightF x = true from HRB.out.2 ⟨H1.out, H2.out, fun j hj => HA.out j hj⟩)
          go_wp2
          go_ret
          exact ⟨ret_bool HF.out.symm, gg9⟩
    · have d2 : decide (t < x.mat) = true := by simp; omega
      have d2' : decide ((t : Int) < (x.mat : Int)) = true := by simp; omega
      have HF := hid (show rightF x = false by
        cases h : rightF x
        · rfl
        · exact absurd (HRB.out.1 h).2.1 h2)
      refine wp_region_quiet_below (by kernel_rfl) (by kernel_rfl) ?_
      repeat (go_big_quiet_step (first | (go_at_call 28; with_reducible exact kM _ _)))
      refine wpQuiet_nil ?_
      intro w9 hw9
      have g9 : RowKit.Below w0.heap.size w0 w9 := by obtain ⟨p9, rfl⟩ := hw9; exact below_regrown _ _ _
      clear hw9 kM x0 x1 x2
      go_wp2
      go_ret
      exact ⟨ret_bool HF.out.symm, bstep gg0 g9⟩
  · have d1 : decide (t < x.mask) = true := by simp; omega
    have d1' : decide ((t : Int) < (x.mask : Int)) = true := by simp; omega
    have HF := hid (show rightF x = false by
      cases h : rightF x
      · rfl
      · exact absurd (HRB.out.1 h).1 h1)
    refine wp_region_quiet_below (by kernel_rfl) (by kernel_rfl) ?_
    repeat (go_big_quiet_step (first | (go_at_call 28; with_reducible exact kM _ _)))
    refine wpQuiet_nil ?_
    intro w9 hw9
    have g9 : RowKit.Below w0.heap.size w0 w9 := by obtain ⟨p9, rfl⟩ := hw9; exact below_regrown _ _ _
    clear hw9 kM x0 x1 x2
    go_wp2
    go_ret
    exact ⟨ret_bool HF.out.symm, bstep gg0 g9⟩
end Go.Proofs.Ytmaklneiedljjaa
