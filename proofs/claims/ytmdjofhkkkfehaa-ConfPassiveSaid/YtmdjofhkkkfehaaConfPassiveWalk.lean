/-
  The walk of the statement ConfPassive: for any two counters above 127 it returns true, and nothing that was there has changed.
-/
import Derived.Test.YtmdjofhkkkfehaaB6i
import Derived.Test.YtmdjofhkkkfehaaM6b
namespace Go.Proofs.Ytmdjofhkkkfehaa
open Go.RowKit Go.Sort
set_option linter.unusedVariables false

set_option maxHeartbeats 2000000 in
theorem confPassive_walk (w : World) (a b : Nat) (ha : a < 256) (hb : b < 256) :
    Calls Try.prog 7 #[.int .u8 (a : Int), .int .u8 (b : Int)] w fun e w' => e = .returned (.bool true) ∧ Below w.heap.size w w' := by
  obtain ⟨u, hu⟩ : ∃ u : Nat, u = a % 128 := ⟨_, rfl⟩
  obtain ⟨v, hv⟩ : ∃ v : Nat, v = b % 128 := ⟨_, rfl⟩
  have hu1 : u < 128 := by omega
  have hv1 : v < 128 := by omega
  have eu : (a : Int) % 128 = (u : Int) := by omega
  have ev : (b : Int) % 128 = (v : Int) := by omega
  clear hu hv
  have kE : ∀ w, Calls Try.prog 10 #[.agg #[.int .i64 0, .int .i64 (128 + (u : Int)), .bool false, .int .i64 0, .int .i64 0], .int .u8 9] w fun e w' => e = .returned (.tuple #[.agg #[.int .i64 0, .int .i64 119, .bool false, .int .i64 0, .int .i64 0], .int .i64 0]) ∧ Below w.heap.size w w' := fun w => by
    have hr : riC ⟨0, 128 + (u : Int), false, 0, 0⟩ = true := ri_mk (by omega) (by omega) (by omega) (by omega)
    refine event_at (k := 9) (by omega) ?_ (ee_ok hr (by omega)) w
    rw [ev_on hr (by omega)]
    simp [teA, reA]; omega
  have kM1 : ∀ w, Calls Try.prog 14 #[.agg #[.int .i64 0, .int .i64 (128 + (u : Int)), .bool false, .int .i64 0, .int .i64 0]] w fun e w' => e = .returned (.int .u8 1) ∧ Below w.heap.size w w' := fun w =>
    mode_at (mo_passive (by omega) (by omega) (by omega) (by omega) (by omega)) w
  have kM2 : ∀ w, Calls Try.prog 14 #[.agg #[.int .i64 0, .int .i64 119, .bool false, .int .i64 0, .int .i64 0]] w fun e w' => e = .returned (.int .u8 0) ∧ Below w.heap.size w w' := fun w =>
    mode_at (mo_active (by omega) (by omega) (by omega) (by omega)) w
  go_enter Try.func7, Try.ntmps7
  go_wp2_with (first
    | (go_at_call 10; (with_reducible refine (kE _).mono ?_); rintro e w1 ⟨rfl, g1⟩; obtain ⟨p1, p2, gg1⟩ := two_bx g1; obtain ⟨c0, c1, c2, c3, c4, cf⟩ := (show Bc _ _ ⟨0, 128 + (u : Int), false, 0, 0⟩ from bx_alloc (.cells #[.int .i64 0, .int .i64 119, .bool false, .int .i64 0, .int .i64 0] 23) p1).all)
    | (go_at_call 14; (with_reducible refine (kM1 _).mono ?_); rintro e w2 ⟨rfl, g2⟩; clear c0 c1 c2 c3 c4 cf; obtain ⟨q1, gg2, _⟩ := one_bx g2; have gg2 := gg1.trans (gg2.mono gg1.size); have p3 := bx_below (bx_alloc _ p2) g2; obtain ⟨c0, c1, c2, c3, c4, cf⟩ := (show Bc _ _ ⟨0, 119, false, 0, 0⟩ from q1).all)
    | (go_at_call 14; (with_reducible refine (kM2 _).mono ?_); rintro e w3 ⟨rfl, g3⟩; clear c0 c1 c2 c3 c4 cf; have gg3 := bstep gg2 g3; have p4 : Bc w3 (w.heap.size + 1) ⟨128 + (v : Int), 0, false, 0, 0⟩ := bx_below p3 g3; obtain ⟨c0, c1, c2, c3, c4, cf⟩ := (show Bc _ _ ⟨0, 119, false, 0, 0⟩ from bx_below q1 g3).all))
  clear c0 c1 c2 c3 c4 cf kE kM1 kM2
  go_loopg [10] (v + 1) (fun gn s wr => gn ≤ v + 1 ∧ Bc wr (w.heap.size + 1) ⟨127 + (gn : Int), 0, false, 0, 0⟩ ∧ Below w.heap.size w wr)
  case atStart => exact ⟨by omega, by rw [show 127 + ((v + 1 : Nat) : Int) = 128 + (v : Int) by omega]; exact p4, gg3⟩
  case round =>
    obtain ⟨hgk, hB, hg⟩ := hrel
    obtain ⟨D, hD⟩ : ∃ D : Int, D = 127 + (gk : Int) := ⟨_, rfl⟩
    rw [← hD] at hB
    obtain ⟨c0, c1, c2, c3, c4, cf⟩ := hB.all
    by_cases hlt : 127 < D
    · have kM : ∀ w, Calls Try.prog 14 #[.agg #[.int .i64 D, .int .i64 0, .bool false, .int .i64 0, .int .i64 0]] w fun e w' => e = .returned (.int .u8 1) ∧ Below w.heap.size w w' := fun w =>
        mode_at (mo_passive (by omega) (by omega) (by omega) (by omega) (by omega)) w
      have kE : ∀ w, Calls Try.prog 10 #[.agg #[.int .i64 D, .int .i64 0, .bool false, .int .i64 0, .int .i64 0], .int .u8 8] w fun e w' => e = .returned (.tuple #[.agg #[.int .i64 (D - 1), .int .i64 0, .bool false, .int .i64 0, .int .i64 0], .int .i64 0]) ∧ Below w.heap.size w w' := fun w => by
        have hr : riC ⟨D, 0, false, 0, 0⟩ = true := ri_mk (by omega) (by omega) (by omega) (by omega)
        refine event_at (k := 8) (by omega) ?_ (ee_ok hr (by omega)) w
        rw [ev_on hr (by omega), re_snd (by omega), show teA D 8 = D - 1 by simp [teA]; omega, show decide (D - 1 > 255) = false by simp; omega]
      have HD := hid hD
      have hD2 : D ≤ 255 := by omega
      clear hD
      go_wp2_with (first
        | (go_at_call 14; (with_reducible refine (kM _).mono ?_); rintro e w4 ⟨rfl, g4⟩; clear c0 c1 c2 c3 c4 cf; have hB4 := hB.below g4; have gg4 := bstep hg g4; obtain ⟨c0, c1, c2, c3, c4, cf⟩ := hB4.all)
        | (go_at_call 10; (with_reducible refine (kE _).mono ?_); rintro e w5 ⟨rfl, g5⟩; clear c0 c1 c2 c3 c4 cf; have hB5 := (hB4.below g5).alloc (.cells #[.int .i64 (D - 1), .int .i64 0, .bool false, .int .i64 0, .int .i64 0] 23); have gg5 := bnew (bstep gg4 g5) (.cells #[.int .i64 (D - 1), .int .i64 0, .bool false, .int .i64 0, .int .i64 0] 23); obtain ⟨c0, c1, c2, c3, c4, cf⟩ := hB5.all))
      go_roundg (gk - 1)
      case measure => have := HD.out; omega
      case rel =>
        refine ⟨by omega, ?_, below_set5 gg5 (by omega) _ _ _ _ _⟩
        rw [show 127 + ((gk - 1 : Nat) : Int) = D - 1 by have := HD.out; omega]
        exact hB5.set (D - 1) 0 false 0 0
    · have kM : ∀ w, Calls Try.prog 14 #[.agg #[.int .i64 D, .int .i64 0, .bool false, .int .i64 0, .int .i64 0]] w fun e w' => e = .returned (.int .u8 0) ∧ Below w.heap.size w w' := fun w =>
        mode_at (mo_active (by omega) (by omega) (by omega) (by omega)) w
      clear hD
      go_wp2_with (first
        | (go_at_call 14; (with_reducible refine (kM _).mono ?_); rintro e w4 ⟨rfl, g4⟩; clear c0 c1 c2 c3 c4 cf)
        | (go_at_call 18; (with_reducible refine (awake_any _).mono ?_); rintro e w5 ⟨rfl, g5⟩))
      go_ret
      exact ⟨rfl, bstep (bstep hg g4) g5⟩
end Go.Proofs.Ytmdjofhkkkfehaa
