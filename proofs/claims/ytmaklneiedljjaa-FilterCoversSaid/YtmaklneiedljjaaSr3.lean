/-
  The library's heap sort and its reversal of a range, at numbers of 32 bits.
-/
import Derived.Test.YtmaklneiedljjaaSr
import Derived.Sort.WalkB3
namespace Go.Proofs.Ytmaklneiedljjaa
open Go.RowKit Go.Sort
set_option linter.unusedVariables false

set_option maxHeartbeats 8000000 in
set_option maxRecDepth 100000 in
theorem sift_any (off g c N lo hi F : Nat) (w : World) (d : Array Nat) (h : Sr off g c N w w d) (hb : F + hi ≤ N) (hN : N ≤ 1000000) (hlo : lo ≤ 1000000) :
    Calls Try.prog 48 #[.slice (some ⟨g, off, none⟩) N c, .int .i64 lo, .int .i64 hi, .int .i64 F] w fun e w' => e = .returned (.tuple #[]) ∧ Sr off g c N w w' (siftDown ltN hi F lo d) := by
  have H := hid h; clear h
  go_enter Try.func48, Try.ntmps48
  go_wp2
  go_loopg [8] (hi - lo) (fun gn vi wr => ∃ (r : Nat) (dk : Array Nat), r ≤ 1000000 ∧ gn = hi - r ∧ vi = .int .i64 (r : Int) ∧ Hid (Sr off g c N w wr dk) ∧ Hid (siftDown ltN hi F r dk = siftDown ltN hi F lo d))
  case atStart => exact ⟨lo, d, hlo, rfl, rfl, H, hid rfl⟩
  case round =>
    obtain ⟨r, dk, hr, rfl, rfl, HS, HO⟩ := hrel
    obtain ⟨G, HG, hcw, hfw⟩ := HS.out.fam
    by_cases hend : hi ≤ 2 * r + 1
    · go_wp2
      go_end0
      exact ⟨rfl, by rw [← HO.out, sd_end ltN _ hend]; exact HS.out⟩
    · have hFr : F + r < N := by omega
      have hwF : IntKind.i64.wrap ((F : Int) + (r : Int)) = (F : Int) + (r : Int) := IntWalk.i64_in _ ⟨by omega, by omega⟩
      have hwr : IntKind.i64.wrap (2 * (r : Int) + 1 + 1) = 2 * (r : Int) + 1 + 1 := IntWalk.i64_in _ ⟨by omega, by omega⟩
      by_cases h2 : 2 * r + 2 < hi
      · have d2 : decide (2 * (r : Int) + 1 + 1 < (hi : Int)) = true := by simp; omega
        cases hl : ltN (G (F + (2 * r + 1))) (G (F + (2 * r + 2)))
        · have HL := hid hl
          have hless := fun w => less_u32 (G (F + (2 * r + 1))) (G (F + (2 * r + 2))) w
          rw [hl] at hless
          clear hl
          cases hl3 : ltN (G (F + r)) (G (F + (2 * r + 1)))
          · have HL3 := hid hl3
            have hless3 := fun w => less_u32 (G (F + r)) (G (F + (2 * r + 1))) w
            rw [hl3] at hless3
            clear hl3
            go_wp2
            go_quiet (first | (go_at_call 43; refine Calls.quiet_of_same (hless _)))
            go_wp2
            have HSd := hid (HS.out.drewN nq)
            obtain ⟨hcd, hfd⟩ := HSd.out.reads HG
            clear hcw hfw
            generalize wr.drewN nq = wd at *
            go_quiet (first | (go_at_call 43; refine Calls.quiet_of_same (hless3 _)))
            go_wp2
            (try simp only [Exit.inBlock, Exit.then])
            refine bodyPost_ret (results_none rfl _ _ _) rfl ?_
            exact ⟨rfl, by rw [← HO.out, sd_left_stop ltN _ (by omega) (fun _ => by rw [← HG.out, ← HG.out]; exact HL.out) (by rw [← HG.out, ← HG.out]; exact HL3.out)]; exact HSd.out.drewN _⟩
          · have HL3 := hid hl3
            have hless3 := fun w => less_u32 (G (F + r)) (G (F + (2 * r + 1))) w
            rw [hl3] at hless3
            clear hl3
            go_wp2
            go_quiet (first | (go_at_call 43; refine Calls.quiet_of_same (hless _)))
            go_wp2
            have HSd := hid (HS.out.drewN nq)
            obtain ⟨hcd, hfd⟩ := HSd.out.reads HG
            clear hcw hfw
            generalize wr.drewN nq = wd at *
            go_quiet (first | (go_at_call 43; refine Calls.quiet_of_same (hless3 _)))
            go_wp2
            go_region
            all_goals go_wp2
            go_roundg (hi - (2 * r + 1))
            case measure => omega
            case rel =>
              refine ⟨2 * r + 1, swp dk (F + r) (F + (2 * r + 1)), by omega, rfl, by first | rfl | (congr 1; omega), hid ?_, hid ((sd_left_go ltN dk (by omega) (fun _ => by rw [← HG.out, ← HG.out]; exact HL.out) (by rw [← HG.out, ← HG.out]; exact HL3.out)).symm.trans HO.out)⟩
              exact HSd.out.swp _ (F + r) (F + (2 * r + 1)) (HG.out _) (HG.out _)
        · have HL := hid hl
          have hless := fun w => less_u32 (G (F + (2 * r + 1))) (G (F + (2 * r + 2))) w
          rw [hl] at hless
          clear hl
          cases hl3 : ltN (G (F + r)) (G (F + (2 * r + 2)))
          · have HL3 := hid hl3
            have hless3 := fun w => less_u32 (G (F + r)) (G (F + (2 * r + 2))) w
            rw [hl3] at hless3
            clear hl3
            go_wp2
            go_quiet (first | (go_at_call 43; refine Calls.quiet_of_same (hless _)))
            go_wp2
            have HSd := hid (HS.out.drewN nq)
            obtain ⟨hcd, hfd⟩ := HSd.out.reads HG
            clear hcw hfw
            generalize wr.drewN nq = wd at *
            go_quiet (first | (go_at_call 43; refine Calls.quiet_of_same (hless3 _)))
            go_wp2
            (try simp only [Exit.inBlock, Exit.then])
            refine bodyPost_ret (results_none rfl _ _ _) rfl ?_
            exact ⟨rfl, by rw [← HO.out, sd_right_stop ltN _ h2 (by rw [← HG.out, ← HG.out]; exact HL.out) (by rw [← HG.out, ← HG.out]; exact HL3.out)]; exact HSd.out.drewN _⟩
          · have HL3 := hid hl3
            have hless3 := fun w => less_u32 (G (F + r)) (G (F + (2 * r + 2))) w
            rw [hl3] at hless3
            clear hl3
            go_wp2
            go_quiet (first | (go_at_call 43; refine Calls.quiet_of_same (hless _)))
            go_wp2
            have HSd := hid (HS.out.drewN nq)
            obtain ⟨hcd, hfd⟩ := HSd.out.reads HG
            clear hcw hfw
            generalize wr.drewN nq = wd at *
            go_quiet (first | (go_at_call 43; refine Calls.quiet_of_same (hless3 _)))
            go_wp2
            go_region
            all_goals go_wp2
            go_roundg (hi - (2 * r + 2))
            case measure => omega
            case rel =>
              refine ⟨2 * r + 2, swp dk (F + r) (F + (2 * r + 2)), by omega, rfl, by first | rfl | (congr 1; omega), hid ?_, hid ((sd_right_go ltN dk h2 (by rw [← HG.out, ← HG.out]; exact HL.out) (by rw [← HG.out, ← HG.out]; exact HL3.out)).symm.trans HO.out)⟩
              exact HSd.out.swp _ (F + r) (F + (2 * r + 2)) (HG.out _) (HG.out _)
      · have d2 : decide (2 * (r : Int) + 1 + 1 < (hi : Int)) = false := by simp; omega
        cases hl3 : ltN (G (F + r)) (G (F + (2 * r + 1)))
        · have HL3 := hid hl3
          have hless3 := fun w => less_u32 (G (F + r)) (G (F + (2 * r + 1))) w
          rw [hl3] at hless3
          clear hl3
          go_wp2
          go_quiet (first | (go_at_call 43; refine Calls.quiet_of_same (less_u32 _ _ _)))
          go_wp2
          have HSd := hid (HS.out.drewN nq)
          obtain ⟨hcd, hfd⟩ := HSd.out.reads HG
          clear hcw hfw
          generalize wr.drewN nq = wd at *
          go_quiet (first | (go_at_call 43; refine Calls.quiet_of_same (hless3 _)))
          go_wp2
          (try simp only [Exit.inBlock, Exit.then])
          refine bodyPost_ret (results_none rfl _ _ _) rfl ?_
          exact ⟨rfl, by rw [← HO.out, sd_left_stop ltN _ (by omega) (fun h => absurd h h2) (by rw [← HG.out, ← HG.out]; exact HL3.out)]; exact HSd.out.drewN _⟩
        · have HL3 := hid hl3
          have hless3 := fun w => less_u32 (G (F + r)) (G (F + (2 * r + 1))) w
          rw [hl3] at hless3
          clear hl3
          go_wp2
          go_quiet (first | (go_at_call 43; refine Calls.quiet_of_same (less_u32 _ _ _)))
          go_wp2
          have HSd := hid (HS.out.drewN nq)
          obtain ⟨hcd, hfd⟩ := HSd.out.reads HG
          clear hcw hfw
          generalize wr.drewN nq = wd at *
          go_quiet (first | (go_at_call 43; refine Calls.quiet_of_same (hless3 _)))
          go_wp2
          go_region
          all_goals go_wp2
          go_roundg (hi - (2 * r + 1))
          case measure => omega
          case rel =>
            refine ⟨2 * r + 1, swp dk (F + r) (F + (2 * r + 1)), by omega, rfl, by first | rfl | (congr 1; omega), hid ?_, hid ((sd_left_go ltN dk (by omega) (fun h => absurd h h2) (by rw [← HG.out, ← HG.out]; exact HL3.out)).symm.trans HO.out)⟩
            exact HSd.out.swp _ (F + r) (F + (2 * r + 1)) (HG.out _) (HG.out _)
end Go.Proofs.Ytmaklneiedljjaa
