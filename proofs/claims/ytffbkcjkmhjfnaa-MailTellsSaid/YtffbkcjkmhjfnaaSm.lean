/-
  Contract: the comparison of frames (jackstayref10.Same), where they are alike.
-/
import Derived.Test.YtffbkcjkmhjfnaaB1f
import Derived.Lib.QuietBelow
import Derived.WalkSmall
namespace Go.Proofs.Ytffbkcjkmhjfnaa
open Go.RowKit Go.Sort
set_option linter.unusedVariables false
set_option linter.unusedSimpArgs false

set_option maxRecDepth 100000 in
set_option maxHeartbeats 4000000 in
theorem same_eq (w : World) (F : Fr) (a1 a2 : Option Addr) (c1 c2 : Nat) (h1 : RL bv w a1 F.data.length c1 F.data) (h2 : RL bv w a2 F.data.length c2 F.data) (hn : F.data.length ≤ 1000000) :
    Calls Try.prog 9 #[.agg (frV F a1 c1), .agg (frV F a2 c2)] w fun e w' => e = .returned (.bool true) ∧ Below w.heap.size w w' := by
  obtain ⟨n, hnl⟩ : ∃ n, F.data.length = n := ⟨_, rfl⟩
  have HN := hid hnl
  rw [hnl] at h1 h2 hn
  obtain ⟨w1, hw1, b1, b2, g1⟩ : ∃ w1, Hid ((w.alloc (.cells (frV F a1 c1) 34)).alloc (.cells (frV F a2 c2) 34) = w1) ∧ w1.heap[w.heap.size]? = some (.cells (frV F a1 c1) 34 (0, 0)) ∧ w1.heap[w.heap.size + 1]? = some (.cells (frV F a2 c2) 34 (0, 0)) ∧ Below w.heap.size w w1 :=
    ⟨_, rfl, bx_alloc _ (heap_alloc_new w _), by have := heap_alloc_new (w.alloc (.cells (frV F a1 c1) 34)) (.cells (frV F a2 c2) 34); rwa [heap_size_alloc] at this, bnew (bnew0 w _) _⟩
  rw [show frV F a1 c1 = #[.int .u32 (F.id : Int), .bool F.ext, .bool F.rem, .int .u8 (F.dlc : Int), .slice a1 n c1] by rw [← hnl]] at b1 hw1 ⊢
  rw [show frV F a2 c2 = #[.int .u32 (F.id : Int), .bool F.ext, .bool F.rem, .int .u8 (F.dlc : Int), .slice a2 n c2] by rw [← hnl]] at b2 hw1 ⊢
  clear hnl
  obtain ⟨x0, x1, x2, x3, x4⟩ := bx5 b1
  obtain ⟨y0, y1, y2, y3, y4⟩ := bx5 b2
  go_enter Try.func9, Try.ntmps9
  go_wp2_with (rw [hw1.out])
  clear x0 x1 x2 x3 x4 y0 y1 y2 y3 y4 hw1
  go_loopg [5] n (fun gn vi wr => ∃ k : Nat, k ≤ n ∧ gn = n - k ∧ vi = .int .i64 (k : Int) ∧ Below w1.heap.size w1 wr)
  case atStart => exact ⟨0, by omega, by omega, rfl, Below.refl _ _⟩
  case round =>
    obtain ⟨k, hk, rfl, rfl, gg⟩ := hrel
    have x4 := (bx5 (bx_below b1 gg)).2.2.2.2
    have y4 := (bx5 (bx_below b2 gg)).2.2.2.2
    by_cases hkl : k < n
    · obtain ⟨p1, o1, v, rfl, hv, hc1⟩ := ((h1.below g1).below gg).at hkl
      obtain ⟨p2, o2, v2, rfl, hv2, hc2⟩ := ((h2.below g1).below gg).at hkl
      rw [hv] at hv2
      simp only [Option.some.injEq] at hv2
      subst hv2
      have HV := hid hv
      clear hv h1 h2
      unfold bv at hc1 hc2
      go_wp2
      go_quiet (fail)
      have gg2 := below_drewN gg nq
      clear gg x4 y4 hc1 hc2
      go_wp2
      go_roundg (n - (k + 1))
      case measure => omega
      case rel => exact ⟨k + 1, by omega, rfl, by go_num, gg2⟩
    · obtain rfl : n = k := by omega
      go_wp2
      go_ret
      exact ⟨rfl, bstep g1 gg⟩
end Go.Proofs.Ytffbkcjkmhjfnaa
