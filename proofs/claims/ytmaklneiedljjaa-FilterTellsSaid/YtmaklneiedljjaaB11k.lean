/-
  Contracts of the document's own filters: which frames one lets in; the first of a list; what covers what.
-/
import Derived.Test.YtmaklneiedljjaaB11j
namespace Go.Proofs.Ytmaklneiedljjaa
open Go.RowKit Go.Sort
set_option linter.unusedVariables false

theorem lets_bits {x : Fi} (hx : x.Ok) (id : Nat) (e : Bool) : letsF id e x = true ↔ rightF x = true ∧ x.ext = e ∧ ∀ k, k < 32 → x.mask.testBit k = true → x.mat.testBit k = id.testBit k := by
  rw [letsF_iff hx]
  constructor
  · rintro ⟨h1, h2, h3⟩
    exact ⟨h1, h2, fun k _ hk => by rw [← h3 k, hk, Bool.and_true]⟩
  · rintro ⟨h1, h2, h3⟩
    refine ⟨h1, h2, fun k => ?_⟩
    have hr := ((rightF_iff hx).1 h1).2 k
    cases hk : x.mask.testBit k
    · rw [Bool.and_false]
      cases hm : x.mat.testBit k
      · rfl
      · rw [hr hm] at hk; cases hk
    · rw [Bool.and_true]
      exact (h3 k (bit_le (n := 32) (by simpa using hx.1) hk) hk).symm

theorem covers_bits {x y : Fi} (hx : x.Ok) (hy : y.Ok) : coversF x y = true ↔ rightF x = true ∧ rightF y = true ∧ x.ext = y.ext ∧ ∀ k, k < 29 → x.mask.testBit k = true → y.mask.testBit k = true ∧ x.mat.testBit k = y.mat.testBit k := by
  rw [coversF_iff hx hy]
  constructor
  · rintro ⟨h1, h2, h3, h4, h5⟩
    exact ⟨h1, h2, h3, fun k _ hk => ⟨h4 k hk, by rw [← h5 k, hk, Bool.and_true]⟩⟩
  · rintro ⟨h1, h2, h3, h4⟩
    have ht : topF x.ext ≤ 536870911 := by unfold topF; split <;> omega
    have hm : x.mask < 2 ^ 29 := by have := ((rightF_iff hx).1 h1).1; omega
    refine ⟨h1, h2, h3, fun k hk => (h4 k (bit_le hm hk) hk).1, fun k => ?_⟩
    cases hk : x.mask.testBit k
    · rw [Bool.and_false]
      cases hm : x.mat.testBit k
      · rfl
      · rw [((rightF_iff hx).1 h1).2 k hm] at hk; cases hk
    · rw [Bool.and_true]
      exact (h4 k (bit_le hm hk) hk).2.symm

set_option maxRecDepth 100000 in
set_option maxHeartbeats 4000000 in
theorem refLets_any (x : Fi) (hx : x.Ok) (id : Nat) (e r : Bool) (dl cd : Value) (hi : id < 4294967296) (w : World) : Calls Try.prog 24 #[.agg (fiV x), .agg (fmV id e r dl cd)] w fun q w' => q = .returned (.bool (letsF id e x)) ∧ RowKit.Below w.heap.size w w' := by
  have HLB := hid (lets_bits hx id e)
  obtain ⟨w0, hw0, b1, b2, gg0⟩ := boxed11b w 25 30 (fiV x) (fmV id e r dl cd)
  have B1 := hid b1
  have B2 := hid b2
  have kR := hid (fun w => refRight11_any x hx w)
  have hx1 := hx.1
  have hx2 := hx.2
  obtain ⟨R, hR⟩ : ∃ R, R = rightF x := ⟨_, rfl⟩
  rw [← hR] at kR HLB
  clear hR
  go_enter Try.func24, Try.ntmps24
  go_upto_region 1 with fail
  rw [hw0.out]
  cases R
  · have HF := hid (show letsF id e x = false by
      cases h : letsF id e x
      · rfl
      · have := (HLB.out.1 h).1; cases this)
    go_wp2_with (first
      | (with_reducible refine wpList_loadR rowFi rfl _ rfl _ rfl b1 rfl ?_)
      | (go_at_call 16; (with_reducible refine (kR.out _).mono ?_); rintro q w1 ⟨rfl, g1⟩))
    go_ret
    exact ⟨ret_bool HF.out.symm, bstep gg0 g1⟩
  · by_cases hEq : x.ext = e
    · have hE := hid hEq
      have hee : (x.ext == e) = true := by simpa using hEq
      clear hEq
      go_upto_region 3 with (first
        | (with_reducible refine wpList_loadR rowFi rfl _ rfl _ rfl b1 rfl ?_)
        | (go_at_call 16; (with_reducible refine (kR.out _).mono ?_); rintro q w1 ⟨rfl, g1⟩; (obtain ⟨y0, y1, y2⟩ := bx3 (bx_below b1 g1)); (obtain ⟨z0, z1, z2, z3, z4⟩ := bx5 (bx_below b2 g1)); have C1 := hid (bx_below b1 g1); have C2 := hid (bx_below b2 g1)))
      clear b1 b2 y0 y1 y2 z0 z1 z2 z3 z4
      have gg1 := bstep gg0 g1
      go_wp2
      go_loopg [5] (32 - 0) (fun gn vi wr => ∃ k : Nat, k ≤ 32 ∧ gn = 32 - k ∧ vi = .int .i64 (k : Int) ∧ Hid (∀ j, j < k → x.mask.testBit j = true → x.mat.testBit j = id.testBit j) ∧ Hid (RowKit.Below w1.heap.size w1 wr))
      case atStart => exact ⟨0, by omega, by omega, by first | rfl | (go_num; done), hid (fun j hj => by omega), hid (RowKit.Below.refl _ _)⟩
      case round =>
        obtain ⟨k, hk, rfl, rfl, HA, HB⟩ := hrel
        by_cases hlt : k < 32
        · obtain ⟨y0, y1, y2⟩ := bx3r (bx_below C1.out HB.out)
          obtain ⟨v0, v1, v2, v3, v4⟩ := bx5 (bx_below C2.out HB.out)
          have v0 : ∀ d os, (grow (redrawn wr d) os).cell? ⟨w.heap.size + 1, 0, none⟩ = _ := fun d os => cell_regrown v0 d os
          have toG : ∀ (y : Nat) (hy : y < 4294967296) d os, Calls Try.prog 30 #[.int .u32 (y : Int), .int .i64 (k : Int)] (grow (redrawn wr d) os) fun r w'' => r = .returned (.bool (y.testBit k)) ∧ ∃ r : Regrown, w'' = grow (redrawn wr r.d) r.os := fun y hy d os =>
            Calls.regrown_of ((bit_any y k hy (by omega) _).mono fun e w' he => ⟨he.1, by rw [he.2]; exact RowKit.Below.refl _ _⟩)
          have kA := toG x.mask hx1
          have kB := toG x.mat hx2
          have kC := toG id hi
          obtain ⟨p, hp⟩ : ∃ p, p = x.mask.testBit k := ⟨_, rfl⟩
          obtain ⟨q, hq⟩ : ∃ q, q = x.mat.testBit k := ⟨_, rfl⟩
          obtain ⟨s, hs⟩ : ∃ s, s = id.testBit k := ⟨_, rfl⟩
          rw [← hp] at kA
          rw [← hq] at kB
          rw [← hs] at kC
          have HP := hid hp
          have HQ := hid hq
          have HS := hid hs
          clear hp hq hs toG v1 v2 v3 v4
          have NXT := hid (fun (h : p = true → q = s) (j : Nat) (hj : j < k + 1) (hb : x.mask.testBit j = true) => show x.mat.testBit j = id.testBit j by
              by_cases e : j = k
              · subst e; rw [← HP.out] at hb; rw [← HQ.out, ← HS.out]; exact h hb
              · exact HA.out j (by omega) hb)
          have BAD := hid (fun (h1 : p = true) (h2 : q ≠ s) => show letsF id e x = false by
                cases h : letsF id e x
                · rfl
                · have := (HLB.out.1 h).2.2 k hlt (by rw [← HP.out]; exact h1)
                  rw [← HQ.out, ← HS.out] at this; exact absurd this h2)
          clear HP HQ HS
          cases p
          · go_wp2
            refine wp_region_quiet_below (by kernel_rfl) (by kernel_rfl) ?_
            repeat (go_big_quiet_step (first | (go_at_call 30; with_reducible exact kA _ _) | (go_at_call 30; with_reducible exact kB _ _) | (go_at_call 30; with_reducible exact kC _ _)))
            refine wpQuiet_nil ?_
            intro w9 hw9
            have g9 : RowKit.Below wr.heap.size wr w9 := by obtain ⟨p9, rfl⟩ := hw9; exact below_regrown _ _ _
            clear hw9 kA kB kC y0 y1 y2 v0
            go_wp2
            go_roundg (32 - (k + 1))
            case measure => omega
            case rel => exact ⟨k + 1, by omega, rfl, by go_num, hid (NXT.out (fun h => by first | trivial | (cases h; done) | rfl)), hid (bstep HB.out g9)⟩
          · cases q
            · cases s
              · go_wp2
                refine wp_region_quiet_below (by kernel_rfl) (by kernel_rfl) ?_
                repeat (go_big_quiet_step (first | (go_at_call 30; with_reducible exact kA _ _) | (go_at_call 30; with_reducible exact kB _ _) | (go_at_call 30; with_reducible exact kC _ _)))
                refine wpQuiet_nil ?_
                intro w9 hw9
                have g9 : RowKit.Below wr.heap.size wr w9 := by obtain ⟨p9, rfl⟩ := hw9; exact below_regrown _ _ _
                clear hw9 kA kB kC y0 y1 y2 v0
                go_wp2
                go_roundg (32 - (k + 1))
                case measure => omega
                case rel => exact ⟨k + 1, by omega, rfl, by go_num, hid (NXT.out (fun h => by first | trivial | (cases h; done) | rfl)), hid (bstep HB.out g9)⟩
              · go_wp2
                refine wp_region_quiet_below (by kernel_rfl) (by kernel_rfl) ?_
                repeat (go_big_quiet_step (first | (go_at_call 30; with_reducible exact kA _ _) | (go_at_call 30; with_reducible exact kB _ _) | (go_at_call 30; with_reducible exact kC _ _)))
                refine wpQuiet_nil ?_
                intro w9 hw9
                have g9 : RowKit.Below wr.heap.size wr w9 := by obtain ⟨p9, rfl⟩ := hw9; exact below_regrown _ _ _
                clear hw9 kA kB kC y0 y1 y2 v0
                go_wp2
                go_ret
                exact ⟨ret_bool (BAD.out (by first | rfl | trivial) (by simp)).symm, bstep gg1 (bstep HB.out g9)⟩
            · cases s
              · go_wp2
                refine wp_region_quiet_below (by kernel_rfl) (by kernel_rfl) ?_
                repeat (go_big_quiet_step (first | (go_at_call 30; with_reducible exact kA _ _) | (go_at_call 30; with_reducible exact kB _ _) | (go_at_call 30; with_reducible exact kC _ _)))
                refine wpQuiet_nil ?_
                intro w9 hw9
                have g9 : RowKit.Below wr.heap.size wr w9 := by obtain ⟨p9, rfl⟩ := hw9; exact below_regrown _ _ _
                clear hw9 kA kB kC y0 y1 y2 v0
                go_wp2
                go_ret
                exact ⟨ret_bool (BAD.out (by first | rfl | trivial) (by simp)).symm, bstep gg1 (bstep HB.out g9)⟩
              · go_wp2
                refine wp_region_quiet_below (by kernel_rfl) (by kernel_rfl) ?_
                repeat (go_big_quiet_step (first | (go_at_call 30; with_reducible exact kA _ _) | (go_at_call 30; with_reducible exact kB _ _) | (go_at_call 30; with_reducible exact kC _ _)))
                refine wpQuiet_nil ?_
                intro w9 hw9
                have g9 : RowKit.Below wr.heap.size wr w9 := by obtain ⟨p9, rfl⟩ := hw9; exact below_regrown _ _ _
                clear hw9 kA kB kC y0 y1 y2 v0
                go_wp2
                go_roundg (32 - (k + 1))
                case measure => omega
                case rel => exact ⟨k + 1, by omega, rfl, by go_num, hid (NXT.out (fun h => by first | trivial | (cases h; done) | rfl)), hid (bstep HB.out g9)⟩
        · obtain rfl : k = 32 := by omega
          have HF := hid (show letsF id e x = true from HLB.out.2 ⟨by first | rfl | trivial, hE.out, fun j hj => HA.out j hj⟩)
          go_wp2
          go_ret
          exact ⟨ret_bool HF.out.symm, bstep gg1 HB.out⟩
    · have hee : (x.ext == e) = false := by simpa using hEq
      have HF := hid (show letsF id e x = false by
        cases h : letsF id e x
        · rfl
        · exact absurd (HLB.out.1 h).2.1 hEq)
      clear hEq
      go_wp2_with (first
        | (with_reducible refine wpList_loadR rowFi rfl _ rfl _ rfl b1 rfl ?_)
        | (go_at_call 16; (with_reducible refine (kR.out _).mono ?_); rintro q w1 ⟨rfl, g1⟩; (obtain ⟨y0, y1, y2⟩ := bx3 (bx_below b1 g1)); (obtain ⟨z0, z1, z2, z3, z4⟩ := bx5 (bx_below b2 g1))))
      go_ret
      exact ⟨ret_bool HF.out.symm, bstep gg0 g1⟩
end Go.Proofs.Ytmaklneiedljjaa
