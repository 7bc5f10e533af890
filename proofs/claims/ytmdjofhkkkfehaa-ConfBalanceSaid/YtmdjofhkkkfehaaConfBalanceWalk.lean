/-
  The walk of the statement ConfBalance: for any row of errors it returns true, and nothing that was there has changed.
-/
import Derived.Test.YtmdjofhkkkfehaaB6j
namespace Go.Proofs.Ytmdjofhkkkfehaa
open Go.RowKit Go.Sort
set_option linter.unusedVariables false

theorem bal_recv (v : Nat) (hv : v ≤ 3) : ∃ d : Nat, d ≤ 8 ∧ ∀ w, Calls Try.prog 10 #[.agg #[.int .i64 0, .int .i64 0, .bool false, .int .i64 0, .int .i64 0], .int .u8 (1 + (v : Int))] w fun e w' => e = .returned (.tuple #[.agg #[.int .i64 0, .int .i64 (d : Int), .bool false, .int .i64 0, .int .i64 0], .int .i64 0]) ∧ Below w.heap.size w w' := by
  refine ⟨if v = 0 then 1 else 8, by split <;> omega, fun w => ?_⟩
  have hr : riC ⟨0, 0, false, 0, 0⟩ = true := by decide
  have h := event_at (k := 1 + v) (t := 0) (r := 0) (o := false) (n := 0) (m := 0) (t' := 0) (r' := ((if v = 0 then 1 else 8 : Nat) : Int)) (o' := false) (n' := 0) (m' := 0) (by omega) (by
    obtain rfl | rfl | rfl | rfl : v = 0 ∨ v = 1 ∨ v = 2 ∨ v = 3 := by omega
    all_goals decide +kernel) (ee_ok hr (by omega)) w
  rw [show ((1 + v : Nat) : Int) = 1 + (v : Int) by omega] at h
  exact h

theorem bal_send (v : Nat) (hv : 4 ≤ v ∧ v ≤ 6) (w : World) : Calls Try.prog 10 #[.agg #[.int .i64 0, .int .i64 0, .bool false, .int .i64 0, .int .i64 0], .int .u8 (1 + (v : Int))] w fun e w' => e = .returned (.tuple #[.agg #[.int .i64 8, .int .i64 0, .bool false, .int .i64 0, .int .i64 0], .int .i64 0]) ∧ Below w.heap.size w w' := by
  have hr : riC ⟨0, 0, false, 0, 0⟩ = true := by decide
  have h := event_at (k := 1 + v) (t := 0) (r := 0) (o := false) (n := 0) (m := 0) (t' := 8) (r' := 0) (o' := false) (n' := 0) (m' := 0) (by omega) (by
    obtain rfl | rfl | rfl : v = 4 ∨ v = 5 ∨ v = 6 := by omega
    all_goals decide +kernel) (ee_ok hr (by omega)) w
  rw [show ((1 + v : Nat) : Int) = 1 + (v : Int) by omega] at h
  exact h

set_option maxHeartbeats 4000000 in
theorem confBalance_walk (w : World) (a : Option Addr) (n c : Nat) (l : List UInt8) (h : RL bv w a n c l) (m1 : n ≤ 9223372036854775807) :
    Calls Try.prog 8 #[.slice a n c] w fun e w' => e = .returned (.bool true) ∧ Below w.heap.size w w' := by
  obtain ⟨p, hp⟩ : ∃ p, p = min n 200 := ⟨_, rfl⟩
  have hp2 : p ≤ n ∧ p ≤ 200 := by omega
  have hmin : ∀ (ts : Array TypeId) (t : TypeId) (w' : World), (Builtin.min_ ts t #[.int .i64 (n : Int), .int .i64 200]).run Try.prog w' = .ok (.int .i64 (p : Int)) w' := fun ts t w' => by
    rw [run_min_int2]; congr 2; split <;> omega
  clear hp
  obtain ⟨a3, p1, p2, hr3⟩ := run_cutTo tY h .i64 p hp2.1
  have hq : ∀ w, (binOp .eql 23 (.agg #[.int .i64 0, .int .i64 0, .bool false, .int .i64 0, .int .i64 0]) (.agg #[.int .i64 0, .int .i64 0, .bool false, .int .i64 0, .int .i64 0])).run Try.prog w = .ok (.bool true) w := fun w => by rw [eqC, decide_eq_true rfl]
  have hgu := guC
  go_enter Try.func8, Try.ntmps8
  go_wp2
  clear p1 p2 hmin
  go_loopg [14] p (fun gn i wr => ∃ k : Nat, k ≤ p ∧ gn = p - k ∧ i = .int .i64 (k : Int) ∧ Bc wr w.heap.size ⟨0, 0, false, 0, 0⟩ ∧ Below w.heap.size w wr)
  case atStart => exact ⟨0, by omega, by omega, rfl, Bc.new w 0 0 false 0 0, bnew0 w _⟩
  case round =>
    obtain ⟨k, hk, rfl, rfl, hB, hg⟩ := hrel
    obtain ⟨c0, c1, c2, c3, c4, cf⟩ := hB.all
    by_cases hlt : k < p
    · obtain ⟨b, off, u, rfl, _, hu, hcell⟩ := byte_at (hr3.below hg) hlt
      obtain ⟨v, hv⟩ : ∃ v : Nat, v = u % 7 := ⟨_, rfl⟩
      have hv7 : v < 7 := by omega
      have ev : (u : Int) % 7 = (v : Int) := by omega
      clear hv
      by_cases hcl : v ≤ 3
      · obtain ⟨d, hd, kE⟩ := bal_recv v hcl
        have j1 : decide ((5 : Int) ≤ 1 + (v : Int)) = false := by simp; omega
        have j2 : ¬ (8 : Int) < (d : Int) := by omega
        have kM : ∀ w, Calls Try.prog 14 #[.agg #[.int .i64 0, .int .i64 (d : Int), .bool false, .int .i64 0, .int .i64 0]] w fun e w' => e = .returned (.int .u8 0) ∧ Below w.heap.size w w' := fun w => mode_at (mo_active (by omega) (by omega) (by omega) (by omega)) w
        go_wp2_with (first
          | (go_at_call 10; (with_reducible refine (kE _).mono ?_); rintro e w1 ⟨rfl, g1⟩; clear c0 c1 c2 c3 c4 cf hcell; have gg1 := bstep hg g1; obtain ⟨e0, e1, e2, e3, e4, ef⟩ := (hB.below g1).all; have hB1 : Bc _ _ ⟨0, (d : Int), false, 0, 0⟩ := (hB.below g1).set 0 (d : Int) false 0 0; have gs1 := below_set5 gg1 (Nat.le_refl _) (.int .i64 0) (.int .i64 (d : Int)) (.bool false) (.int .i64 0) (.int .i64 0))
          | (go_at_call 14; (with_reducible refine (kM _).mono ?_); rintro e w2 ⟨rfl, g2⟩; have hB2 := hB1.below g2; have gg2 := bstep gs1 g2; clear hB1 gs1 e0 e1 e2 e3 e4 ef))
        clear kE kM ev
        go_loopg [42] 8 (fun gn i wr2 => ∃ (j : Nat) (T R : Int), j ≤ 8 ∧ gn = 8 - j ∧ i = .int .i64 (j : Int) ∧ T = 0 ∧ R = ((d - j : Nat) : Int) ∧ Bc wr2 w.heap.size ⟨T, R, false, 0, 0⟩ ∧ Below w.heap.size w wr2)
        case atStart => exact ⟨0, 0, (d : Int), by omega, by omega, rfl, rfl, by omega, hB2, gg2⟩
        case round =>
          obtain ⟨j, T, R, hj, rfl, rfl, hT, hR, hB, hg⟩ := hrel
          obtain ⟨c0, c1, c2, c3, c4, cf⟩ := hB.all
          by_cases hlt : j < 8
          · obtain ⟨T', hT'⟩ : ∃ T' : Int, T' = T := ⟨_, rfl⟩
            obtain ⟨R', hR'⟩ : ∃ R' : Int, R' = max (R - 1) 0 := ⟨_, rfl⟩
            have kE := cnt9 T R (max (R - 1) 0) (by omega) (by omega) (by omega) (by omega) rfl
            have HT : Hid (T' = 0) := by show T' = _; omega
            have HR : Hid (R' = ((d - (j + 1) : Nat) : Int)) := by show R' = _; omega
            rw [← hR'] at kE
            clear hR'
            obtain rfl := hT'
            clear hT hR
            go_wp2_with (go_at_call 10; (with_reducible refine (kE _).mono ?_); rintro e w5 ⟨rfl, g5⟩; clear c0 c1 c2 c3 c4 cf; have hB5 := hB.below g5; have gg5 := bstep hg g5; obtain ⟨c0, c1, c2, c3, c4, cf⟩ := hB5.all)
            go_roundg (8 - (j + 1))
            case measure => omega
            case rel => exact ⟨j + 1, _, _, by omega, rfl, by go_num, HT.out, HR.out, hB5.set _ _ _ _ _, below_set5 gg5 (by omega) _ _ _ _ _⟩
          · have hz := bc_zero hB (by omega) (by omega)
            clear hT hR
            go_wp2
            go_roundg (p - (k + 1))
            case measure => omega
            case rel => exact ⟨k + 1, by omega, rfl, by go_num, hz, hg⟩
      · have kE := bal_send v (by omega)
        have j1 : decide ((5 : Int) ≤ 1 + (v : Int)) = true := by simp; omega
        have kM : ∀ w, Calls Try.prog 14 #[.agg #[.int .i64 8, .int .i64 0, .bool false, .int .i64 0, .int .i64 0]] w fun e w' => e = .returned (.int .u8 0) ∧ Below w.heap.size w w' := fun w => mode_at (mo_active (by omega) (by omega) (by omega) (by omega)) w
        go_wp2_with (first
          | (go_at_call 10; (with_reducible refine (kE _).mono ?_); rintro e w1 ⟨rfl, g1⟩; clear c0 c1 c2 c3 c4 cf hcell; have gg1 := bstep hg g1; obtain ⟨e0, e1, e2, e3, e4, ef⟩ := (hB.below g1).all; have hB1 : Bc _ _ ⟨8, 0, false, 0, 0⟩ := (hB.below g1).set 8 0 false 0 0; have gs1 := below_set5 gg1 (Nat.le_refl _) (.int .i64 8) (.int .i64 0) (.bool false) (.int .i64 0) (.int .i64 0))
          | (go_at_call 14; (with_reducible refine (kM _).mono ?_); rintro e w2 ⟨rfl, g2⟩; have hB2 := hB1.below g2; have gg2 := bstep gs1 g2; clear hB1 gs1 e0 e1 e2 e3 e4 ef))
        clear kE kM ev
        go_loopg [42] 8 (fun gn i wr2 => ∃ (j : Nat) (T R : Int), j ≤ 8 ∧ gn = 8 - j ∧ i = .int .i64 (j : Int) ∧ T = ((8 - j : Nat) : Int) ∧ R = 0 ∧ Bc wr2 w.heap.size ⟨T, R, false, 0, 0⟩ ∧ Below w.heap.size w wr2)
        case atStart => exact ⟨0, 8, 0, by omega, by omega, rfl, by omega, rfl, hB2, gg2⟩
        case round =>
          obtain ⟨j, T, R, hj, rfl, rfl, hT, hR, hB, hg⟩ := hrel
          obtain ⟨c0, c1, c2, c3, c4, cf⟩ := hB.all
          by_cases hlt : j < 8
          · obtain ⟨T', hT'⟩ : ∃ T' : Int, T' = max (T - 1) 0 := ⟨_, rfl⟩
            obtain ⟨R', hR'⟩ : ∃ R' : Int, R' = R := ⟨_, rfl⟩
            have kE := cnt8 T R (max (T - 1) 0) (by omega) (by omega) (by omega) (by omega) rfl
            have HT : Hid (T' = ((8 - (j + 1) : Nat) : Int)) := by show T' = _; omega
            have HR : Hid (R' = 0) := by show R' = _; omega
            rw [← hT'] at kE
            clear hT'
            obtain rfl := hR'
            clear hT hR
            go_wp2_with (go_at_call 10; (with_reducible refine (kE _).mono ?_); rintro e w5 ⟨rfl, g5⟩; clear c0 c1 c2 c3 c4 cf; have hB5 := hB.below g5; have gg5 := bstep hg g5; obtain ⟨c0, c1, c2, c3, c4, cf⟩ := hB5.all)
            go_roundg (8 - (j + 1))
            case measure => omega
            case rel => exact ⟨j + 1, _, _, by omega, rfl, by go_num, HT.out, HR.out, hB5.set _ _ _ _ _, below_set5 gg5 (by omega) _ _ _ _ _⟩
          · have hz := bc_zero hB (by omega) (by omega)
            clear hT hR
            go_wp2
            go_roundg (p - (k + 1))
            case measure => omega
            case rel => exact ⟨k + 1, by omega, rfl, by go_num, hz, hg⟩
    · go_wp2_with (go_at_call 18; (with_reducible refine (awake_any _).mono ?_); rintro e w5 ⟨rfl, g5⟩)
      go_ret
      exact ⟨rfl, bstep hg g5⟩
end Go.Proofs.Ytmdjofhkkkfehaa
