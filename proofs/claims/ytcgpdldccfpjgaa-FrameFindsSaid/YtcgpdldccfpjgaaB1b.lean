/-
  Contracts of the functions of layer 1, more of them: those that make lists of bits and bytes.
-/
import Derived.Test.YtcgpdldccfpjgaaB1n
namespace Go.Proofs.Ytcgpdldccfpjgaa
open Go.RowKit
set_option linter.unusedVariables false

theorem refOf_any (w : World) (x : Nat) (many : Int) (hx : x < 4294967296) (hm : -9223372036854775808 ≤ many ∧ many ≤ 9223372036854775807) :
    Calls Try.prog 51 #[.int .u32 (x : Int), .int .i64 many] w fun e w' => ∃ a c, e = .returned (.slice a (clampM many) c) ∧ OL .bool 4 w.heap.size w' a (clampM many) c (ofL x (clampM many)) ∧ Below w.heap.size w w' := by
  obtain ⟨m, hm0⟩ : ∃ m, m = clampM many := ⟨_, rfl⟩
  have hm64 : m ≤ 64 := by rw [hm0]; unfold clampM; omega
  obtain ⟨M, hM0⟩ : ∃ M, M = min many 64 := ⟨_, rfl⟩
  have hMm : (M < 0 ∧ m = 0) ∨ M = (m : Int) := by rw [hm0, hM0]; unfold clampM; omega
  have HM := hid hMm; clear hMm
  rw [← hm0]
  clear hm0
  have hcase : (64 < many ∧ M = 64) ∨ (many ≤ 64 ∧ M = many) := by omega
  clear hM0
  have hM64 : M ≤ 64 ∧ -9223372036854775808 ≤ M := by omega
  rcases hcase with ⟨h1, h2⟩ | ⟨h1, h2⟩
  all_goals
    subst h2
    go_enter Try.func51, Try.ntmps51
    go_wp2
    go_loopw [0, 5, 6] (fun v0 v i wr => ∃ (k y : Nat) (a : Option Addr) (c : Nat), k ≤ m ∧ i = .int .i64 k ∧ y < 4294967296 ∧ v0 = .int .u32 (y : Int) ∧ y = x / 2 ^ k ∧ v = .slice a k c ∧ OL .bool 4 w.heap.size wr a k c (ofL x k) ∧ Below w.heap.size w wr) (fun _ _ i _ => m - (intOf i).toNat)
    case atStart => exact ⟨0, x, none, 0, Nat.zero_le _, rfl, hx, rfl, by simp, rfl, OL.nil _ _ _ _, Below.refl _ _⟩
    case round =>
      obtain ⟨k, y, a, c, hk, rfl, hy, rfl, hyx, rfl, hol, hb⟩ := hrel
      have HY := hid hyx; clear hyx
      by_cases hlt : k < m
      · first | (have ht : (k : Int) < M := by have := HM.out; omega) | (have ht : (k : Int) < 64 := by omega)
        obtain ⟨bt, hbt⟩ : ∃ bt, bt = ((y : Int) % 2 == 1) := ⟨_, rfl⟩
        have HB := hid hbt
        have hbt' := hbt.symm
        clear hbt
        have hs := hb.size
        go_wp2_with (at_builtin; refine wpList_app (f := Value.bool) tB rfl _ _ rfl rfl (ol_lit Value.bool _ w.heap.size wr [bt] _ 1 rfl rfl (by omega) hs) rfl (hol.rl.below ((Below.refl _ _).alloc (Nat.le_refl _) _)) (fun _ => rfl) (by omega) (by omega) (by simp; omega) ?_; intro w2 a2 c2 hol2 hb2)
        go_roundw
        case rel =>
          have e1 : ofL x (k + 1) = [bt] ++ ofL x k := by
            rw [ofL, HB.out, HY.out, Nat.testBit_eq_decide_div_mod_eq]
            simp only [List.cons_append, List.nil_append, List.cons.injEq, and_true]
            rw [Bool.eq_iff_iff]; simp; norm_cast
          exact ⟨k + 1, y / 2, a2, c2, by omega, by go_num, by omega, by go_num, by rw [HY.out, Nat.div_div_eq_div_mul, ← Nat.pow_succ], by rw [Nat.add_comm], by rw [e1, Nat.add_comm k 1]; exact hol2, (hb.alloc hs _).trans hb2⟩
        case measure => simp [intOf]; omega
      · first | (have ht : ¬ (k : Int) < M := by have := HM.out; omega) | (have ht : ¬ (k : Int) < 64 := by have := HM.out; omega)
        obtain rfl : k = m := by omega
        go_wp2
        go_ret
        exact ⟨a, c, rfl, hol, hb⟩

theorem refNumber_any (w : World) (a : Option Addr) (n c : Nat) (l : List Bool) (h : RL .bool w a n c l) (hn : n ≤ 1000000) :
    Calls Try.prog 56 #[.slice a n c] w fun e w' => e = .returned (.int .u32 ((numL l % 4294967296 : Nat) : Int)) ∧ w = w' := by
  obtain ⟨l', hl'⟩ : ∃ l', l' = l.drop (n - 32) := ⟨_, rfl⟩
  obtain ⟨N, hN⟩ : ∃ N, N = min n 32 := ⟨_, rfl⟩
  have hll : l'.length = N := by rw [hl', List.length_drop, h.len, hN]; omega
  have hnum : numL l % 4294967296 = numL l' := by
    have hlt := numL_lt l'
    have hle : 2 ^ l'.length ≤ 2 ^ 32 := Nat.pow_le_pow_right (by decide) (by omega)
    by_cases h32 : 32 ≤ n
    · have e : l = l.take (n - 32) ++ l' := by rw [hl', List.take_append_drop]
      rw [e, numL_append, show l'.length = 32 from by omega, Nat.mul_comm]
      rw [show (4294967296 : Nat) = 2 ^ 32 from rfl, Nat.mul_add_mod, Nat.mod_eq_of_lt (by rw [show l'.length = 32 from by omega] at hlt; exact hlt)]
    · rw [hl', show n - 32 = 0 from by omega, List.drop_zero] at *
      exact Nat.mod_eq_of_lt (by omega)
  have HNUM := hid hnum; clear hnum
  have hN32 : N ≤ 32 := by omega
  have hcase : (32 < n ∧ N = 32) ∨ (n ≤ 32 ∧ N = n) := by omega
  clear hN
  rcases hcase with ⟨h32, h3⟩ | ⟨h32, h3⟩
  all_goals
    subst h3
    first
      | (have hr' : RL .bool w a N c l' := by rw [hl', show N - 32 = 0 by omega]; exact h)
      | skip
    have HL := hid hl'; clear hl'
    go_enter Try.func56, Try.ntmps56
    go_wp2_with (with_reducible refine wpList_cutFrom tB rfl _ _ rfl _ _ (n - 32) rfl rfl (by omega) h (by omega) 32 (by omega) ?_; intro a' c' hr'; rw [← HL.out] at hr')
    go_loop [3, 4, 5] (fun m v i => ∃ k m' y : Nat, k ≤ l'.length ∧ i = .int .i64 ((k : Int) - 1) ∧ m = .int .u32 (m' : Int) ∧ v = .int .u32 (y : Int) ∧ m' = numL (l'.drop k) ∧ y = 2 ^ (l'.length - k) % 4294967296) (fun _ _ i => (intOf i + 1).toNat)
    case atStart => exact ⟨l'.length, 0, 1, Nat.le_refl _, by simp [hll], rfl, rfl, by rw [List.drop_length]; rfl, by simp⟩
    case round =>
      obtain ⟨k, m', y, hk, rfl, rfl, rfl, hm, hy⟩ := hrel
      have hm1 : m' < 2 ^ (l'.length - k) := by rw [hm]; have := numL_lt (l'.drop k); rwa [List.length_drop] at this
      have hm2 : m' < 4294967296 := Nat.lt_of_lt_of_le hm1 (Nat.pow_le_pow_right (n := 2) (j := 32) (by decide) (by omega))
      rw [hll] at hm1 hy hk
      by_cases hk0 : k = 0
      · have HE : Hid (m' = numL l % 4294967296) := by rw [HNUM.out, hm, hk0, List.drop_zero]; exact rfl
        subst hk0
        clear hm hy hm1
        go_wp2
        go_ret
        exact ⟨ret_int (congrArg (fun q : Nat => (q : Int)) HE.out), rfl⟩
      · obtain ⟨j, rfl⟩ : ∃ j, k = j + 1 := ⟨k - 1, by omega⟩
        obtain ⟨b, off, x, rfl, hx, hck⟩ := hr'.at (k := j) (by omega)
        have hy2 : y = 2 ^ (l'.length - (j + 1)) := by
          rw [hy, hll]
          exact Nat.mod_eq_of_lt (Nat.lt_of_le_of_lt (Nat.pow_le_pow_right (n := 2) (j := 31) (by decide) (by omega)) (by decide))
        have hsum : m' + y < 4294967296 := by
          rw [hll] at hy2
          have h1 : 2 ^ (l'.length - j) ≤ 2 ^ 32 := Nat.pow_le_pow_right (by decide) (by omega)
          rw [show l'.length - j = l'.length - (j + 1) + 1 from by omega, Nat.pow_succ, hll, ← hy2] at h1
          omega
        have hd : l'.drop j = x :: l'.drop (j + 1) := by
          rw [List.drop_eq_getElem_cons (by omega)]
          congr 1
          have := List.getElem?_eq_some_iff.1 hx
          exact this.2
        have H1 : Hid (m' + x.toNat * y = numL (l'.drop j)) := by
          rw [hd, numL_cons, List.length_drop, ← hm, ← hy2, Nat.add_comm]; exact rfl
        have H2 : Hid (y * 2 % 4294967296 = 2 ^ (l'.length - j) % 4294967296) := by
          rw [hy2, ← Nat.pow_succ, show (l'.length - (j + 1)).succ = l'.length - j from by omega]; exact rfl
        have hyy : y < 4294967296 := by omega
        clear hm hy hm1 hx hd hy2
        cases x
        all_goals
          go_wp2
          go_round
          case rel => exact ⟨j, _, y * 2 % 4294967296, by omega, by go_num, by first | rfl | exact congrArg (Value.int .u32) (by norm_cast), by go_num, by rw [← H1.out]; simp, H2.out⟩
          case measure => first | (simp [intOf]; done) | (simp [intOf]; omega)
end Go.Proofs.Ytcgpdldccfpjgaa
