/-
  The walk of the statement WheelFar: for any numbers it returns true, and nothing that was there has changed.
-/
import Derived.Test.YtpnmnffefdjegaaB13i
namespace Go.Proofs.Ytpnmnffefdjegaa
open Go.RowKit Go.Maps Go.Sort
set_option linter.unusedVariables false

/-- A wheel with room for one, whose timer 3 was set n ticks ahead, j ticks later. -/
def farM (n j : Int) : Wh := ⟨j, 1, if j < n then [(3, n)] else []⟩
def farT (n j : Int) : List Int := if j + 1 = n then [3] else []

section
variable {n j : Int}
theorem far_set (h1 : 1 ≤ n) (h2 : n ≤ 1099511627776) : setC ⟨0, 1, []⟩ 3 n = 0 ∧ setW ⟨0, 1, []⟩ 3 n = farM n 0 := by
  have hb : badA 3 n = false := by simp [badA]; omega
  have hf : fullW ⟨0, 1, []⟩ 3 = false := by decide
  refine ⟨by simp [setC, hb, hf], ?_⟩
  simp only [setW, hb, hf, Bool.false_eq_true, if_false, putW, farM]
  rw [if_pos (by omega)]
  simp [outL]
theorem far_told (h : 0 ≤ j) : Told (farM n j) (farT n j) := by
  unfold farM farT
  by_cases e : j + 1 = n
  · rw [if_pos e, if_pos (by omega)]
    exact ⟨by simp, fun i => by simp; omega⟩
  · rw [if_neg e]
    by_cases e2 : j < n
    · rw [if_pos e2]; exact ⟨by simp, fun i => by simp; omega⟩
    · rw [if_neg e2]; exact ⟨by simp, fun i => by simp⟩
theorem far_tick : tickW (farM n j) = farM n (j + 1) := by
  unfold tickW farM
  by_cases e : j + 1 = n
  · simp only [if_pos (show j < n by omega), if_neg (show ¬ j + 1 < n by omega)]; simp [e]
  · by_cases e2 : j < n
    · simp only [if_pos e2, if_pos (show j + 1 < n by omega)]
      have : ((n == j + 1) = false) := by simp; omega
      simp [this]
    · simp only [if_neg e2, if_neg (show ¬ j + 1 < n by omega)]; simp
theorem far_len (n j : Int) : ((farT n j).length : Int) = if j + 1 = n then 1 else 0 := by
  unfold farT; split <;> rfl
theorem far_left (h : j < n) : hasL (farM n j).L 3 = true ∧ leftW (farM n j) 3 = n - j := by
  simp [farM, if_pos h, hasL, leftW, dueL]
theorem far_gone (h : ¬ j < n) : hasL (farM n j).L 3 = false ∧ leftW (farM n j) 3 = 0 := by
  simp [farM, if_neg h, hasL, leftW]
theorem far_again (h0 : 0 ≤ j) : setC (farM n j) 3 2 = 0 ∧ setW (farM n j) 3 2 = ⟨j, 1, [(3, j + 2)]⟩ := by
  have hb : badA 3 2 = false := by decide
  have hf : fullW (farM n j) 3 = false := by
    unfold farM fullW
    by_cases e : j < n
    · simp [if_pos e, hasL]
    · simp [if_neg e]
  refine ⟨by simp [setC, hb, hf], ?_⟩
  simp only [setW, hb, hf, Bool.false_eq_true, if_false, putW]
  unfold farM
  by_cases e : j < n
  · simp [if_pos e, outL]
  · simp [if_neg e, outL]
theorem far_other : setC ⟨j, 1, [(3, j + 2)]⟩ 4 2 = 5 ∧ setW ⟨j, 1, [(3, j + 2)]⟩ 4 2 = ⟨j, 1, [(3, j + 2)]⟩ := by
  have hb : badA 4 2 = false := by decide
  have hf : fullW ⟨j, 1, [(3, j + 2)]⟩ 4 = true := by simp [fullW, hasL]
  exact ⟨by simp [setC, hb, hf], by simp [setW, hb, hf]⟩
theorem far_t1 : Told ⟨j, 1, [(3, j + 2)]⟩ [] := ⟨by simp, fun i => by simp⟩
theorem far_m1 : tickW ⟨j, 1, [(3, j + 2)]⟩ = ⟨j + 1, 1, [(3, j + 2)]⟩ := by
  have : ((j + 2 == j + 1) = false) := by simp
  simp [tickW, this]
theorem far_t2 : Told ⟨j + 1, 1, [(3, j + 2)]⟩ [3] := ⟨by simp, fun i => by
  have : j + 2 = j + 1 + 1 := by omega
  simp [this]⟩
theorem far_m2 : tickW ⟨j + 1, 1, [(3, j + 2)]⟩ = ⟨j + 2, 1, []⟩ := by
  have e1 : j + 1 + 1 = j + 2 := by omega
  simp [tickW, e1]
end

theorem below_ch {B : Nat} {w w1 w2 : World} {x : Wl} {m : Wh} (h : WhO B w1 x m) (k : Ch x.S w1 w2) (hB : B ≤ w.heap.size) (hb : Below B w w1) : Below B w w2 := k.below hb hB h.hB

set_option maxRecDepth 100000 in
set_option maxHeartbeats 8000000 in
theorem wheelFar_walk (w : World) (after ticks slots : Nat) (ha : after ≤ 18446744073709551615) (ht : ticks ≤ 255) (hs : slots ≤ 255) :
    Calls Try.prog 6 #[.int .u64 (after : Int), .int .u8 (ticks : Int), .int .u8 (slots : Int)] w fun e w' => e = .returned (.bool true) ∧ Below w.heap.size w w' := by
  obtain ⟨q, hq, hq1⟩ : ∃ q : Nat, (after : Int) % 1099511627776 = (q : Int) ∧ q < 1099511627776 := ⟨after % 1099511627776, by omega, by omega⟩
  obtain ⟨k, hk, hk1⟩ : ∃ k : Nat, (ticks : Int) % 200 = (k : Int) ∧ k < 200 := ⟨ticks % 200, by omega, by omega⟩
  have hN : Calls Try.prog 9 #[.int .i64 (1 + (slots : Int)), .int .i64 1] w (NewWh w (1 + slots) 1) := by
    have := whNew_any w (1 + slots) 1 (by omega) (by omega) (by omega) (by omega)
    rwa [show ((1 + slots : Nat) : Int) = 1 + (slots : Int) by omega] at this
  obtain ⟨f1, f2⟩ := far_set (n := 1 + (q : Int)) (by omega) (by omega)
  go_enter Try.func6, Try.ntmps6
  go_wp2_with (first
    | (go_at_call 9; (with_reducible refine hN.mono ?_); rintro e w1 ⟨x, rfl, _, h1, g1⟩
       have k1 := whSet_at h1 (by decide) (by decide) f1 f2)
    | (go_at_call 12; (with_reducible refine k1.mono ?_); rintro e w2 ⟨rfl, h2, c2⟩
       have g2 := below_ch h1 c2 (Nat.le_refl _) g1))
  clear hN k1 h1 c2 g1 f1 f2 hq hk ha
  go_loopg [38] k (fun gn vi wr => ∃ j : Nat, j ≤ k ∧ gn = k - j ∧ vi = .int .i64 (j : Int) ∧ WhO w.heap.size wr x (farM (1 + (q : Int)) (j : Int)) ∧ Below w.heap.size w wr)
  case atStart => exact ⟨0, by omega, by omega, rfl, h2, g2⟩
  case round =>
    obtain ⟨j, hj, rfl, rfl, h, g⟩ := hrel
    clear h2 g2
    have hjn : (farM (1 + (q : Int)) (j : Int)).now ≤ 1000000000 := by show (j : Int) ≤ 1000000000; omega
    have htd := far_told (n := 1 + (q : Int)) (j := (j : Int)) (by omega)
    by_cases hlt : j < k
    · by_cases e : (j : Int) + 1 = 1 + (q : Int)
      · have e2 : farT (1 + (q : Int)) (j : Int) = [3] := by unfold farT; rw [if_pos e]
        rw [e2] at htd
        have hT := whTick_at h hjn htd far_tick
        have e3 : (((j : Int) + 1 == 1 + (q : Int)) = true) := by simp; omega
        clear e e2 htd
        go_wp2_with (go_at_call 17; (with_reducible refine hT.mono ?_); rintro e w3 ⟨a3, n3, rfl, o3, h3, c3⟩; have g3 := below_ch h c3 (Nat.le_refl _) g)
        go_roundg (k - (j + 1))
        case measure => omega
        case rel => exact ⟨j + 1, by omega, rfl, by go_num, by push_cast; exact h3, g3⟩
      · have e2 : farT (1 + (q : Int)) (j : Int) = [] := by unfold farT; rw [if_neg e]
        rw [e2] at htd
        have hT := whTick_at h hjn htd far_tick
        have e3 : (((j : Int) + 1 == 1 + (q : Int)) = false) := by simp; omega
        clear e e2 htd
        go_wp2_with (go_at_call 17; (with_reducible refine hT.mono ?_); rintro e w3 ⟨a3, n3, rfl, o3, h3, c3⟩; have g3 := below_ch h c3 (Nat.le_refl _) g)
        go_roundg (k - (j + 1))
        case measure => omega
        case rel => exact ⟨j + 1, by omega, rfl, by go_num, by push_cast; exact h3, g3⟩
    · obtain rfl : j = k := by omega
      clear htd hlt
      obtain ⟨s1, s2⟩ := far_again (n := 1 + (q : Int)) (j := (j : Int)) (by omega)
      by_cases hjq : (j : Int) < 1 + (q : Int)
      · obtain ⟨l1, l2⟩ := far_left hjq
        have kL := whLeft_at h (by decide) hjn l2 l1
        have kS := whSet_at h (by decide) hjn s1 s2
        have d1 : decide ((j : Int) < 1 + (q : Int)) = true := decide_eq_true hjq
        have d2 : (1 + (q : Int) - (j : Int) == 1 + (q : Int) - (j : Int)) = true := by simp
        clear s1 s2 l1 l2
        go_wp2_with (first
          | (go_at_call 18; (with_reducible refine kL.mono ?_); rintro e w3 ⟨rfl, rfl⟩)
          | (go_at_call 12; (with_reducible refine kS.mono ?_); rintro e w4 ⟨rfl, h4, c4⟩
             have g4 := below_ch h c4 (Nat.le_refl _) g
             have kO := whSet_at h4 (by decide) hjn far_other.1 far_other.2)
          | (go_at_call 12; (with_reducible refine kO.mono ?_); rintro e w5 ⟨rfl, h5, c5⟩
             have g5 := below_ch h4 c5 (Nat.le_refl _) g4
             have kT := whTick_at h5 hjn far_t1 far_m1)
          | (go_at_call 17; (with_reducible refine kT.mono ?_); rintro e w6 ⟨a6, n6, rfl, o6, h6, c6⟩
             have g6 := below_ch h5 c6 (Nat.le_refl _) g5
             have kU := whTick_at h6 (by show (j : Int) + 1 ≤ 1000000000; omega) far_t2 far_m2)
          | (go_at_call 17; (with_reducible refine kU.mono ?_); rintro e w7 ⟨a7, n7, rfl, o7, h7, c7⟩
             have g7 := below_ch h6 c7 (Nat.le_refl _) g6
             have kI := aw_ints (n := 1) (l := [3]) o7 (lit1I w7 3) (by decide) (by omega) (bnew0 w7 _) rfl)
          | (go_at_call 16; (with_reducible refine kI.mono ?_); rintro e w8 ⟨rfl, g8⟩
             have z8 := (bnew0 w7 (.cells #[.int .i64 3] 3)).trans (g8.mono (by simp))
             have kN : Calls Try.prog 21 #[.pointer (some ⟨x.g, 0, none⟩)] w8 fun e w' => e = .returned (.int .i64 0) ∧ w8 = w' := whLen_any (h7.below z8))
          | (go_at_call 21; (with_reducible refine kN.mono ?_); rintro e w9 ⟨rfl, rfl⟩)
          | (go_at_call 10; (with_reducible refine (awake13_any _).mono ?_); rintro e w9 ⟨rfl, g9⟩))
        go_ret
        exact ⟨rfl, bstep (bstep g7 z8) g9⟩
      · obtain ⟨l1, l2⟩ := far_gone hjq
        have kL := whLeft_at h (by decide) hjn l2 l1
        have kS := whSet_at h (by decide) hjn s1 s2
        have d1 : decide ((j : Int) < 1 + (q : Int)) = false := decide_eq_false hjq
        clear s1 s2 l1 l2
        go_wp2_with (first
          | (go_at_call 18; (with_reducible refine kL.mono ?_); rintro e w3 ⟨rfl, rfl⟩)
          | (go_at_call 12; (with_reducible refine kS.mono ?_); rintro e w5 ⟨rfl, h5, c5⟩
             have g5 := below_ch h c5 (Nat.le_refl _) g
             have kT := whTick_at h5 hjn far_t1 far_m1)
          | (go_at_call 17; (with_reducible refine kT.mono ?_); rintro e w6 ⟨a6, n6, rfl, o6, h6, c6⟩
             have g6 := below_ch h5 c6 (Nat.le_refl _) g5
             have kU := whTick_at h6 (by show (j : Int) + 1 ≤ 1000000000; omega) far_t2 far_m2)
          | (go_at_call 17; (with_reducible refine kU.mono ?_); rintro e w7 ⟨a7, n7, rfl, o7, h7, c7⟩
             have g7 := below_ch h6 c7 (Nat.le_refl _) g6
             have kI := aw_ints (n := 1) (l := [3]) o7 (lit1I w7 3) (by decide) (by omega) (bnew0 w7 _) rfl)
          | (go_at_call 16; (with_reducible refine kI.mono ?_); rintro e w8 ⟨rfl, g8⟩
             have z8 := (bnew0 w7 (.cells #[.int .i64 3] 3)).trans (g8.mono (by simp))
             have kN : Calls Try.prog 21 #[.pointer (some ⟨x.g, 0, none⟩)] w8 fun e w' => e = .returned (.int .i64 0) ∧ w8 = w' := whLen_any (h7.below z8))
          | (go_at_call 21; (with_reducible refine kN.mono ?_); rintro e w9 ⟨rfl, rfl⟩)
          | (go_at_call 10; (with_reducible refine (awake13_any _).mono ?_); rintro e w9 ⟨rfl, g9⟩))
        go_ret
        exact ⟨rfl, bstep (bstep g7 z8) g9⟩
end Go.Proofs.Ytpnmnffefdjegaa
