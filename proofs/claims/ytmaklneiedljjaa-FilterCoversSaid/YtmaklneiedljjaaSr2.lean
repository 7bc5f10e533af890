/-
  The library's insertion sort, at numbers of 32 bits.
-/
import Derived.Test.YtmaklneiedljjaaSr
import Derived.Sort.WalkA
namespace Go.Proofs.Ytmaklneiedljjaa
open Go.RowKit Go.Sort
set_option linter.unusedVariables false

set_option maxHeartbeats 4000000 in
set_option maxRecDepth 100000 in
theorem insertion_any (off g c N a b : Nat) (w : World) (d : Array Nat) (h : Sr off g c N w w d) (hab : a ≤ b) (hb : b ≤ N) (hN : N ≤ 1000000) :
    Calls Try.prog 37 #[.slice (some ⟨g, off, none⟩) N c, .int .i64 a, .int .i64 b] w fun e w' => e = .returned (.tuple #[]) ∧ Sr off g c N w w' (insertionSort ltN d a b) := by
  have H := hid h; clear h
  go_enter Try.func37, Try.ntmps37
  go_wp2
  go_loopg [6] (b + 1 - (a + 1)) (fun gn vi wr => ∃ (i : Nat) (dk : Array Nat), a < i ∧ i ≤ b + 1 ∧ gn = b + 1 - i ∧ vi = .int .i64 (i : Int) ∧ Hid (Sr off g c N w wr dk) ∧ Hid (insOuter ltN a b i dk = insOuter ltN a b (a + 1) d))
  case atStart => exact ⟨a + 1, d, by omega, by omega, by omega, by go_num, H, hid rfl⟩
  case round =>
    obtain ⟨i, dk, hai, hib, rfl, rfl, HS, HO⟩ := hrel
    by_cases hlt : i < b
    · go_wp2
      go_loopg [7] (0 + i) (fun gn vj wr => ∃ (j : Nat) (dj : Array Nat), a ≤ j ∧ j ≤ i ∧ gn = 0 + j ∧ vj = .int .i64 (j : Int) ∧ Hid (Sr off g c N w wr dj) ∧ Hid (insInner ltN a j dj = insInner ltN a i dk))
      case atStart => exact ⟨i, dk, by omega, by omega, by omega, rfl, HS, hid rfl⟩
      case round =>
        obtain ⟨j, dj, haj, hji, rfl, rfl, HS2, HI⟩ := hrel
        obtain ⟨G, HG, hcw, hfw⟩ := HS2.out.fam
        have OUT : j ≤ a ∨ ltN dj[j]! dj[j - 1]! = false → Hid (insOuter ltN a b (i + 1) dj = insOuter ltN a b (a + 1) d) := fun hs => hid (by rw [← HO.out, insOuter_go _ _ _ _ _ hlt, ← HI.out, insInner_stop _ _ _ _ hs])
        have OUT := hid OUT
        by_cases hja : a < j
        · cases hl : ltN (G j) (G (j - 1))
          · have hless := fun w => less_u32 (G j) (G (j - 1)) w
            rw [hl] at hless
            go_wp2
            go_quiet (first | (go_at_call 43; refine Calls.quiet_of_same (hless _)))
            go_wp2
            go_roundg (b + 1 - (i + 1))
            case measure => omega
            case rel => exact ⟨i + 1, dj, by omega, by omega, rfl, by go_num, hid (HS2.out.drewN _), OUT.out (.inr (by rw [← HG.out, ← HG.out]; exact hl))⟩
          · have hless := fun w => less_u32 (G j) (G (j - 1)) w
            rw [hl] at hless
            go_wp2
            go_quiet (first | (go_at_call 43; refine Calls.quiet_of_same (hless _)))
            go_wp2
            go_region
            all_goals go_wp2
            go_roundg (0 + (j - 1))
            case measure => omega
            case rel => exact ⟨j - 1, swp dj j (j - 1), by omega, by omega, rfl, by congr 1; omega, hid (HS2.out.swp (nq + 1) j (j - 1) (HG.out _) (HG.out _)), hid (by rw [← HI.out, insInner_go ltN a j dj hja (by rw [← HG.out, ← HG.out]; exact hl)])⟩
        · go_wp2
          go_quiet (first | (go_at_call 43; refine Calls.quiet_of_same (less_u32 _ _ _)))
          go_wp2
          go_roundg (b + 1 - (i + 1))
          case measure => omega
          case rel => exact ⟨i + 1, dj, by omega, by omega, rfl, by go_num, hid (HS2.out.drewN _), OUT.out (.inl (by omega))⟩
    · go_wp2
      go_end0
      exact ⟨rfl, by unfold insertionSort; rw [← HO.out, insOuter_stop _ _ _ _ _ hlt]; exact HS.out⟩
end Go.Proofs.Ytmaklneiedljjaa
