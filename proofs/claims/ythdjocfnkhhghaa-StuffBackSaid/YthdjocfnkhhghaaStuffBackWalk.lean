/-
  The walk of the statement StuffBack: it returns true for every input, and nothing that was there has changed.
-/
import Derived.Test.YthdjocfnkhhghaaB2f
namespace Go.Proofs.Ythdjocfnkhhghaa
open Go.RowKit
set_option linter.unusedVariables false

theorem cnt_last {s : Bool × Nat} {l : List Bool} {k : Nat} {y : Bool} (h : l[k]? = some y) : (cnt s (l.take (k + 1))).1 = y := by
  rw [cnt_snoc s h]; unfold cst; split <;> rfl

theorem stuffBack_walk (w : World) (a : Option Addr) (n c : Nat) (l : List Bool) (h : RL .bool w a n c l) (m1 : n ≤ 9223372036854775807) :
    Calls Try.prog 4 #[.slice a n c] w fun e w' => e = .returned (.bool true) ∧ Below w.heap.size w w' := by
  by_cases h1 : 400 < n
  · go_enter Try.func4, Try.ntmps4
    go_wp2_with (go_at_call 7; refine (awake2_any w).mono ?_; rintro e w1 ⟨rfl, hb1⟩)
    go_ret
    exact ⟨rfl, hb1⟩
  have hlen := putL_len l
  rw [h.len] at hlen
  obtain ⟨p, hp⟩ : ∃ p, p = (putL l).length := ⟨_, rfl⟩
  rw [← hp] at hlen
  have hp1 : ¬ (p : Int) < (n : Int) := by omega
  have hp2 : ¬ (n : Int) / 4 < (p : Int) - (n : Int) := by omega
  have hpn : p ≤ 1000 := by omega
  have HP := hid hp; clear hp hlen
  obtain ⟨M, hM⟩ : ∃ M, M = putL l := ⟨_, rfl⟩
  have HTK : Hid (tkL M = (l, -1)) := by rw [hM]; exact tkL_putL l
  have HRUN : Hid (∀ k, (cnt (false, 0) (M.take k)).2 ≤ 5) := by rw [hM]; exact putL_runs l
  have HM := hid hM; clear hM
  have hnl := hid h.len
  have HPM : Hid (M.length = p) := by rw [HP.out, HM.out]; exact rfl
  go_enter Try.func4, Try.ntmps4
  go_wp2_with (first
    | (go_at_call 15; refine (put_any w a n c l h (by omega)).mono ?_; rw [← HM.out, HPM.out]; rintro e w1 ⟨a1, c1, rfl, hol1, g1⟩; have hl1 := h.below g1)
    | (go_at_call 12; refine (take_any w1 _ _ _ _ hol1.rl (by omega)).mono ?_; rw [HTK.out]; rintro e w2 ⟨a2, c2, rfl, hol2, g2⟩; have g02 := bstep g1 g2; have hl2 := hl1.below g2; have hm2 := hol1.rl.below g2; have hnn := hnl.out; rw [hnn] at hol2)
    | (go_at_call 14; refine (same_any w2 _ _ _ _ _ _ _ _ hol2.rl hl2 (by omega)).mono ?_; rintro e w3 ⟨rfl, rfl⟩))
  go_loop [6, 48] (fun v i => ∃ k q : Nat, k ≤ p ∧ i = .int .i64 k ∧ v = .int .i64 q ∧ q = (cnt (false, 0) (M.take k)).2 ∧ q ≤ 5) (fun _ i => p - (intOf i).toNat)
  case atStart => exact ⟨0, 0, Nat.zero_le _, rfl, rfl, rfl, by omega⟩
  case round =>
    obtain ⟨k, q, hk, rfl, rfl, hq, hq5⟩ := hrel
    have HQ := hid hq; clear hq
    by_cases hlt : k < p
    · obtain ⟨b0, off, x, rfl, hx, hck⟩ := hm2.at hlt
      have HX := hid hx; clear hx
      have hstep := hid (cnt_snoc (false, 0) HX.out)
      have hle := hid (HRUN.out (k + 1))
      cases k with
      | zero =>
        have hq0 : q = 0 := HQ.out
        subst hq0
        rw [Nat.add_zero] at hck
        go_wp2
        go_round
        case rel => exact ⟨1, 1, by omega, by go_num, rfl, by rw [hstep.out]; unfold cst; cases x <;> rfl, by omega⟩
        case measure => simp [intOf]; omega
      | succ j =>
        obtain ⟨_, _, y, e1, hy, hcy⟩ := hm2.at (k := j) (by omega)
        cases e1
        have HY := hid hy; clear hy
        have hl := hid (cnt_last (s := (false, 0)) HY.out)
        by_cases hxy : x = y
        · subst hxy
          have hq6 : ¬ (5 : Int) < (q : Int) + 1 := by
            have h2 := hle.out
            rw [hstep.out] at h2
            unfold cst at h2
            rw [if_pos hl.out.symm, ← HQ.out] at h2
            simp only at h2
            omega
          cases x
          all_goals
            go_wp2
            go_round
            case rel => exact ⟨j + 2, q + 1, by omega, by go_num, by go_num, by rw [hstep.out]; unfold cst; rw [if_pos hl.out.symm, ← HQ.out], by omega⟩
            case measure => simp [intOf]; omega
        · have hstep2 : Hid ((cnt (false, 0) (M.take (j + 1 + 1))).2 = 1) := by
            show _ = _
            rw [hstep.out]; unfold cst; rw [if_neg (by rw [hl.out]; exact hxy)]
          cases x <;> cases y
          all_goals first | (exact absurd rfl hxy) | skip
          all_goals
            go_wp2
            go_round
            case rel => exact ⟨j + 2, 1, by omega, by go_num, rfl, hstep2.out.symm, by omega⟩
            case measure => simp [intOf]; omega
    · obtain rfl : k = p := by omega
      go_wp2_with (go_at_call 7; refine (awake2_any w2).mono ?_; rintro e w4 ⟨rfl, g4⟩)
      go_ret
      exact ⟨rfl, bstep g02 g4⟩
end Go.Proofs.Ythdjocfnkhhghaa
