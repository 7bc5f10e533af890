/-
  The library's heap sort, at numbers of 32 bits.
-/
import Derived.Test.YtmaklneiedljjaaSr3
namespace Go.Proofs.Ytmaklneiedljjaa
open Go.RowKit Go.Sort
set_option linter.unusedVariables false

set_option maxHeartbeats 4000000 in
set_option maxRecDepth 100000 in
theorem heapSort_any (off g c N a b : Nat) (w : World) (d : Array Nat) (h : Sr off g c N w w d) (hab : a < b) (hb : b ≤ N) (hN : N ≤ 1000000) :
    Calls Try.prog 38 #[.slice (some ⟨g, off, none⟩) N c, .int .i64 a, .int .i64 b] w fun e w' => e = .returned (.tuple #[]) ∧ Sr off g c N w w' (heapSort ltN d a b) := by
  have H := hid h; clear h
  have ecast : (b : Int) - (a : Int) = ((b - a : Nat) : Int) := by omega
  go_enter Try.func38, Try.ntmps38
  go_wp2
  go_loopg [9] ((b - a - 1) / 2 + 1) (fun k vi wr => ∃ (dk : Array Nat), k ≤ (b - a - 1) / 2 + 1 ∧ vi = .int .i64 ((k : Int) - 1) ∧ Hid (Sr off g c N w wr dk) ∧ Hid (heapBuild ltN (b - a) a k dk = heapBuild ltN (b - a) a ((b - a - 1) / 2 + 1) d))
  case atStart => exact ⟨d, Nat.le_refl _, by first | (congr 1; done) | (congr 1; omega), H, hid rfl⟩
  case round =>
    obtain ⟨dk, hk, rfl, HS, HO⟩ := hrel
    cases gk with
    | zero =>
      go_wp2
      have HD := hid (show heapPop ltN a (b - a) dk = heapSort ltN d a b by unfold heapSort; rw [← HO.out]; rfl)
      go_loopg [10] (b - a) (fun k vi wr => ∃ (dk : Array Nat), k ≤ b - a ∧ vi = .int .i64 ((k : Int) - 1) ∧ Hid (Sr off g c N w wr dk) ∧ Hid (heapPop ltN a k dk = heapSort ltN d a b))
      case atStart => exact ⟨dk, Nat.le_refl _, by first | (congr 1; done) | (congr 1; omega), HS, HD⟩
      case round =>
        obtain ⟨dj, hj, rfl, HS2, HO2⟩ := hrel
        cases gk with
        | zero =>
          go_wp2
          go_end0
          exact ⟨rfl, by rw [← HO2.out]; exact HS2.out⟩
        | succ k =>
          obtain ⟨G, HG, hcw, hfw⟩ := HS2.out.fam
          have e1 : ((k + 1 : Nat) : Int) - 1 = (k : Int) := by omega
          rw [e1]
          obtain ⟨G2, _, hc2, _⟩ := ((HS2.out.set a (G (a + k))).drewN 1).fam
          have hu : ((wr.setCell ⟨g, off + a, none⟩ (.int .u32 (G (a + k) : Int))).drew).cell? ⟨g, off + (a + k), none⟩ = some (.int .u32 (G2 (a + k) : Int)) := hc2 (a + k) (by omega)
          clear hc2
          go_wp2
          go_region
          all_goals
            go_wp2_with (go_at_call 48; have HSd := hid (HS2.out.swp 1 a (a + k) (HG.out _) (HG.out _)); refine (sift_any off g c N 0 k a _ _ HSd.out.start (by omega) hN (by omega)).mono ?_; rintro e w2 ⟨rfl, h2⟩; have HS3 := hid (HSd.out.call h2))
            go_roundg k
            case measure => omega
            case rel => exact ⟨_, by omega, rfl, HS3, hid HO2.out⟩
    | succ k =>
      have e1 : ((k + 1 : Nat) : Int) - 1 = (k : Int) := by omega
      rw [e1]
      have hs := HS.out.start
      go_wp2_with (go_at_call 48; refine (sift_any off g c N k (b - a) a wr dk hs (by omega) hN (by omega)).mono ?_; rintro e w2 ⟨rfl, h2⟩; have HS2 := hid (HS.out.call h2))
      go_roundg k
      case measure => omega
      case rel => exact ⟨_, by omega, rfl, HS2, hid HO.out⟩

set_option maxHeartbeats 4000000 in
set_option maxRecDepth 100000 in
theorem reverse_any (off g c N a b : Nat) (w : World) (d : Array Nat) (h : Sr off g c N w w d) (hab : a < b) (hb : b ≤ N) (hN : N ≤ 1000000) :
    Calls Try.prog 41 #[.slice (some ⟨g, off, none⟩) N c, .int .i64 a, .int .i64 b] w fun e w' => e = .returned (.tuple #[]) ∧ Sr off g c N w w' (reverseRange d a b) := by
  have H := hid h; clear h
  have ecast : (b : Int) - 1 = ((b - 1 : Nat) : Int) := by omega
  go_enter Try.func41, Try.ntmps41
  go_wp2
  go_loopg [6, 7] (b - 1 - a) (fun gn vi vj wr => ∃ (i j : Nat) (dk : Array Nat), a ≤ i ∧ j < b ∧ i ≤ b ∧ gn = j - i ∧ vi = .int .i64 (i : Int) ∧ vj = .int .i64 (j : Int) ∧ Hid (Sr off g c N w wr dk) ∧ Hid (reverseLoop i j dk = reverseRange d a b))
  case atStart => exact ⟨a, b - 1, d, by omega, by omega, by omega, rfl, rfl, rfl, H, hid rfl⟩
  case round =>
    obtain ⟨i, j, dk, hi, hj, hib, rfl, rfl, rfl, HS, HO⟩ := hrel
    clear ecast
    by_cases hij : i < j
    · obtain ⟨G, HG, hcw, hfw⟩ := HS.out.fam
      have e1 : (j : Int) - 1 = ((j - 1 : Nat) : Int) := by omega
      have HR := hid (show reverseLoop (i + 1) (j - 1) (swp dk i j) = reverseRange d a b by rw [← HO.out]; conv => rhs; rw [reverseLoop, if_pos hij])
      go_wp2
      go_region
      all_goals go_wp2
      go_roundg (j - 1 - (i + 1))
      case measure => omega
      case rel => exact ⟨i + 1, j - 1, swp dk i j, by omega, by omega, by omega, rfl, by go_num, by first | (congr 1; done) | (congr 1; omega), hid (HS.out.swp 1 i j (HG.out _) (HG.out _)), HR⟩
    · go_wp2
      go_end0
      exact ⟨rfl, by rw [← HO.out, reverseLoop, if_neg hij]; exact HS.out⟩
end Go.Proofs.Ytmaklneiedljjaa
