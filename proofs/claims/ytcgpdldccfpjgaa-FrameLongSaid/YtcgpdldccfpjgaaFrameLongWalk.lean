/-
  The walk of the statement FrameLong: for any frame it returns true, and nothing that was there has changed.
-/
import Derived.Test.YtcgpdldccfpjgaaB4t
namespace Go.Proofs.Ytcgpdldccfpjgaa
open Go.RowKit Go.Sort
set_option linter.unusedVariables false

theorem cnt_last {s : Bool × Nat} {l : List Bool} {k : Nat} {y : Bool} (h : l[k]? = some y) : (cnt s (l.take (k + 1))).1 = y := by
  rw [cnt_snoc s h]; unfold cst; split <;> rfl

theorem putL_len1 {l : List Bool} (h : 1 ≤ l.length) : l.length ≤ (putL l).length ∧ 4 * (putL l).length + 1 ≤ 5 * l.length := by
  cases l with
  | nil => simp at h
  | cons x l =>
    have e : nxt false 0 x = ((x, 1), 0) := by cases x <;> rfl
    have h1 : putL (x :: l) = x :: putF x 1 l := by
      unfold putL
      rw [putF, e]; simp
    rw [h1]
    have := putF_len l x 1 (by omega)
    simp only [List.length_cons]
    omega

set_option maxHeartbeats 1000000 in
theorem frameLong_walk (w : World) (id : Nat) (ext rem : Bool) (dlc : Nat) (a : Option Addr) (n c : Nat) (l : List UInt8) (hi : id < 4294967296) (hd : dlc < 256) (h : RL bv w a n c l) (m1 : n ≤ 9223372036854775807) :
    Calls Try.prog 9 #[.agg #[.int .u32 (id : Int), .bool ext, .bool rem, .int .u8 (dlc : Int), .slice a n c]] w fun e w' => e = .returned (.bool true) ∧ Below w.heap.size w w' := by
  obtain ⟨w0, hw0, hbx, _, _, _, _, _, gg0⟩ := boxed w 25 (.int .u32 (id : Int)) (.bool ext) (.bool rem) (.int .u8 (dlc : Int)) (.slice a n c)
  have h0 := h.below gg0
  cases hr : riF id ext rem dlc n
  · have hW := wire_wrong w0 id ext rem dlc a n c hi hd hr
    have hR := fun w1 => frRight_any w1 id ext rem dlc a n c hi hd
    rw [hr] at hR
    go_enter Try.func9, Try.ntmps9
    go_wp2_with (first
      | (go_at_call 21; rw [hw0.out]; (with_reducible refine hW.mono ?_); rintro e w1 ⟨rfl, g1⟩; obtain ⟨k0, k1, k2, k3, k4⟩ := bx5 (bx_below hbx g1))
      | (go_at_call 13; (with_reducible refine (hR w1).mono ?_); rintro e w2 ⟨rfl, g2⟩)
      | (go_at_call 10; refine (awake4_any w2).mono ?_; rintro e w3 ⟨rfl, g3⟩))
    go_ret
    exact ⟨rfl, bstep (bstep (bstep gg0 g1) g2) g3⟩
  obtain ⟨hn1, hn8, _, _⟩ := riF_long hr
  have hW := wire_any w0 id ext rem dlc a n c l hi hd h0 hr
  unfold wiL at hW
  obtain ⟨B, hB⟩ : ∃ B, B = boL ⟨id, ext, rem, dlc, l⟩ := ⟨_, rfl⟩
  have hBl : B.length = heN ext + 8 * n + 15 := by rw [hB, boL_length, h.len]
  rw [← hB] at hW
  clear hB
  obtain ⟨M, hM⟩ : ∃ M, M = putL B := ⟨_, rfl⟩
  have hlen := putL_len1 (l := B) (by omega)
  have HRUN : Hid (∀ k, (cnt (false, 0) (M.take k)).2 ≤ 5) := by rw [hM]; exact putL_runs B
  rw [← hM] at hW hlen
  clear hM
  obtain ⟨p, hp⟩ : ∃ p, p = M.length := ⟨_, rfl⟩
  rw [← hp] at hW hlen
  rw [hBl] at hlen
  have hlo := fun w0 => frLong_any w0 id ext rem dlc a n c hd
  rw [← hn1] at hlo
  have HP := hid hp
  obtain ⟨b, hb⟩ : ∃ b, b = heN ext + 8 * n + 15 := ⟨_, rfl⟩
  rw [← hb] at hlen
  have hb34 : 34 ≤ b ∧ b ≤ 118 := by rw [hb]; unfold heN; split <;> omega
  have hbE : b = if ext then 34 + 8 * n + 20 else 34 + 8 * n := by rw [hb]; unfold heN; split <;> omega
  have q1 : ¬ (p : Int) < (b : Int) := by omega
  have q2 : ¬ (b : Int) + ((b : Int) - 1) / 4 < (p : Int) := by omega
  have q3 : ¬ (p : Int) < 34 := by omega
  have hp2 : p ≤ 200 := by omega
  have hb1 : 1 ≤ (b : Int) := by omega
  clear hp hlen hb hBl hn1
  cases ext
  · simp only [Bool.false_eq_true, if_false, if_true] at hbE
    have hbi : (34 : Int) + 8 * (n : Int) = (b : Int) := by omega
    clear hbE
    go_enter Try.func9, Try.ntmps9
    go_wp2_with (first
      | (go_at_call 21; rw [hw0.out]; (with_reducible refine hW.mono ?_); rintro e w1 ⟨a1, c1, rfl, hol1, g1⟩; obtain ⟨k0, k1, k2, k3, k4⟩ := bx5 (bx_below hbx g1); have hr1 := hol1.rl)
      | (go_at_call 15; (with_reducible refine (hlo w1).mono ?_); rintro e w2 ⟨rfl, g2⟩; obtain ⟨_, k1', _, _, _⟩ := bx5 (bx_below (bx_below hbx g1) g2); have hr2 := hr1.below g2; have gg2 := bstep (bstep gg0 g1) g2; clear k0 k1 k2 k3 k4)
      | (refine wpList_cutTo (f := Value.bool) tB rfl _ _ rfl _ _ p rfl rfl (by first | rfl | omega) hr2 (by omega) ?_; intro a3 hr3; rw [List.take_left' HP.out.symm] at hr3))
    clear q1 q2 q3 hbi hbx k1' hol1 hr1
    go_loop [7, 54] (fun v i => ∃ k q : Nat, k ≤ p ∧ i = .int .i64 k ∧ v = .int .i64 q ∧ q = (cnt (false, 0) (M.take k)).2 ∧ q ≤ 5) (fun _ i => p - (intOf i).toNat)
    case atStart => exact ⟨0, 0, Nat.zero_le _, rfl, rfl, rfl, by omega⟩
    case round =>
      obtain ⟨k, q, hk, rfl, rfl, hq, hq5⟩ := hrel
      have HQ := hid hq; clear hq
      by_cases hlt : k < p
      · obtain ⟨b0, off, x, rfl, hx, hck⟩ := hr3.at hlt
        have HX := hid hx; clear hx
        have hstep := hid (cnt_snoc (false, 0) HX.out)
        have hle := hid (HRUN.out (k + 1))
        cases k with
        | zero =>
          have hq0 : q = 0 := HQ.out
          subst hq0
          rw [Nat.add_zero] at hck
          go_wp2
          go_round
          case rel => exact ⟨1, 1, by omega, by go_num, rfl, by rw [hstep.out]; unfold cst; cases x <;> rfl, by omega⟩
          case measure => simp [intOf]; omega
        | succ j =>
          obtain ⟨b1, off1, y, rfl, hy, hcy⟩ := hr2.at (k := j) (by omega)
          have hyM : M[j]? = some y := by rw [List.getElem?_append_left (by rw [← HP.out]; omega)] at hy; exact hy
          have HY := hid hyM; clear hy hyM
          have hl := hid (cnt_last (s := (false, 0)) HY.out)
          by_cases hxy : x = y
          · subst hxy
            have hq6 : ¬ (5 : Int) < (q : Int) + 1 := by
              have h2 := hle.out
              rw [hstep.out] at h2
              unfold cst at h2
              rw [if_pos hl.out.symm, ← HQ.out] at h2
              simp only at h2
              omega
            cases x
            all_goals
              go_wp2
              go_round
              case rel => exact ⟨j + 2, q + 1, by omega, by go_num, by go_num, by rw [hstep.out]; unfold cst; rw [if_pos hl.out.symm, ← HQ.out], by omega⟩
              case measure => simp [intOf]; omega
          · have hstep2 : Hid ((cnt (false, 0) (M.take (j + 1 + 1))).2 = 1) := by
              show _ = _
              rw [hstep.out]; unfold cst; rw [if_neg (by rw [hl.out]; exact hxy)]
            cases x <;> cases y
            all_goals first | (exact absurd rfl hxy) | skip
            all_goals
              go_wp2
              go_round
              case rel => exact ⟨j + 2, 1, by omega, by go_num, rfl, hstep2.out.symm, by omega⟩
              case measure => simp [intOf]; omega
      · obtain rfl : k = p := by omega
        go_wp2_with (go_at_call 10; refine (awake4_any w2).mono ?_; rintro e w4 ⟨rfl, g4⟩)
        go_ret
        exact ⟨rfl, bstep gg2 g4⟩
  · simp only [Bool.false_eq_true, if_false, if_true] at hbE
    have hbi : (34 : Int) + 8 * (n : Int) + 20 = (b : Int) := by omega
    clear hbE
    go_enter Try.func9, Try.ntmps9
    go_wp2_with (first
      | (go_at_call 21; rw [hw0.out]; (with_reducible refine hW.mono ?_); rintro e w1 ⟨a1, c1, rfl, hol1, g1⟩; obtain ⟨k0, k1, k2, k3, k4⟩ := bx5 (bx_below hbx g1); have hr1 := hol1.rl)
      | (go_at_call 15; (with_reducible refine (hlo w1).mono ?_); rintro e w2 ⟨rfl, g2⟩; obtain ⟨_, k1', _, _, _⟩ := bx5 (bx_below (bx_below hbx g1) g2); have hr2 := hr1.below g2; have gg2 := bstep (bstep gg0 g1) g2; clear k0 k1 k2 k3 k4)
      | (refine wpList_cutTo (f := Value.bool) tB rfl _ _ rfl _ _ p rfl rfl (by first | rfl | omega) hr2 (by omega) ?_; intro a3 hr3; rw [List.take_left' HP.out.symm] at hr3))
    clear q1 q2 q3 hbi hbx k1' hol1 hr1
    go_loop [7, 54] (fun v i => ∃ k q : Nat, k ≤ p ∧ i = .int .i64 k ∧ v = .int .i64 q ∧ q = (cnt (false, 0) (M.take k)).2 ∧ q ≤ 5) (fun _ i => p - (intOf i).toNat)
    case atStart => exact ⟨0, 0, Nat.zero_le _, rfl, rfl, rfl, by omega⟩
    case round =>
      obtain ⟨k, q, hk, rfl, rfl, hq, hq5⟩ := hrel
      have HQ := hid hq; clear hq
      by_cases hlt : k < p
      · obtain ⟨b0, off, x, rfl, hx, hck⟩ := hr3.at hlt
        have HX := hid hx; clear hx
        have hstep := hid (cnt_snoc (false, 0) HX.out)
        have hle := hid (HRUN.out (k + 1))
        cases k with
        | zero =>
          have hq0 : q = 0 := HQ.out
          subst hq0
          rw [Nat.add_zero] at hck
          go_wp2
          go_round
          case rel => exact ⟨1, 1, by omega, by go_num, rfl, by rw [hstep.out]; unfold cst; cases x <;> rfl, by omega⟩
          case measure => simp [intOf]; omega
        | succ j =>
          obtain ⟨b1, off1, y, rfl, hy, hcy⟩ := hr2.at (k := j) (by omega)
          have hyM : M[j]? = some y := by rw [List.getElem?_append_left (by rw [← HP.out]; omega)] at hy; exact hy
          have HY := hid hyM; clear hy hyM
          have hl := hid (cnt_last (s := (false, 0)) HY.out)
          by_cases hxy : x = y
          · subst hxy
            have hq6 : ¬ (5 : Int) < (q : Int) + 1 := by
              have h2 := hle.out
              rw [hstep.out] at h2
              unfold cst at h2
              rw [if_pos hl.out.symm, ← HQ.out] at h2
              simp only at h2
              omega
            cases x
            all_goals
              go_wp2
              go_round
              case rel => exact ⟨j + 2, q + 1, by omega, by go_num, by go_num, by rw [hstep.out]; unfold cst; rw [if_pos hl.out.symm, ← HQ.out], by omega⟩
              case measure => simp [intOf]; omega
          · have hstep2 : Hid ((cnt (false, 0) (M.take (j + 1 + 1))).2 = 1) := by
              show _ = _
              rw [hstep.out]; unfold cst; rw [if_neg (by rw [hl.out]; exact hxy)]
            cases x <;> cases y
            all_goals first | (exact absurd rfl hxy) | skip
            all_goals
              go_wp2
              go_round
              case rel => exact ⟨j + 2, 1, by omega, by go_num, rfl, hstep2.out.symm, by omega⟩
              case measure => simp [intOf]; omega
      · obtain rfl : k = p := by omega
        go_wp2_with (go_at_call 10; refine (awake4_any w2).mono ?_; rintro e w4 ⟨rfl, g4⟩)
        go_ret
        exact ⟨rfl, bstep gg2 g4⟩
end Go.Proofs.Ytcgpdldccfpjgaa
