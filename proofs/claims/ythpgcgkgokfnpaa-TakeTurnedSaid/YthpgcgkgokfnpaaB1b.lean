/-
  Contracts of the functions of layer 1, more of them: those that make lists of bits and bytes.
-/
import Derived.Test.YthpgcgkgokfnpaaB1n
namespace Go.Proofs.Ythpgcgkgokfnpaa
open Go.RowKit
set_option linter.unusedVariables false

theorem refNumber_any (w : World) (a : Option Addr) (n c : Nat) (l : List Bool) (h : RL .bool w a n c l) (hn : n ≤ 1000000) :
    Calls Try.prog 67 #[.slice a n c] w fun e w' => e = .returned (.int .u32 ((numL l % 4294967296 : Nat) : Int)) ∧ w = w' := by
  obtain ⟨l', hl'⟩ : ∃ l', l' = l.drop (n - 32) := ⟨_, rfl⟩
  obtain ⟨N, hN⟩ : ∃ N, N = min n 32 := ⟨_, rfl⟩
  have hll : l'.length = N := by rw [hl', List.length_drop, h.len, hN]; omega
  have hnum : numL l % 4294967296 = numL l' := by
    have hlt := numL_lt l'
    have hle : 2 ^ l'.length ≤ 2 ^ 32 := Nat.pow_le_pow_right (by decide) (by omega)
    by_cases h32 : 32 ≤ n
    · have e : l = l.take (n - 32) ++ l' := by rw [hl', List.take_append_drop]
      rw [e, numL_append, show l'.length = 32 from by omega, Nat.mul_comm]
      rw [show (4294967296 : Nat) = 2 ^ 32 from rfl, Nat.mul_add_mod, Nat.mod_eq_of_lt (by rw [show l'.length = 32 from by omega] at hlt; exact hlt)]
    · rw [hl', show n - 32 = 0 from by omega, List.drop_zero] at *
      exact Nat.mod_eq_of_lt (by omega)
  have HNUM := hid hnum; clear hnum
  have hN32 : N ≤ 32 := by omega
  have hcase : (32 < n ∧ N = 32) ∨ (n ≤ 32 ∧ N = n) := by omega
  clear hN
  rcases hcase with ⟨h32, h3⟩ | ⟨h32, h3⟩
  all_goals
    subst h3
    first
      | (have hr' : RL .bool w a N c l' := by rw [hl', show N - 32 = 0 by omega]; exact h)
      | skip
    have HL := hid hl'; clear hl'
    go_enter Try.func67, Try.ntmps67
    go_wp2_with (with_reducible refine wpList_cutFrom tB rfl _ _ rfl _ _ (n - 32) rfl rfl (by omega) h (by omega) 32 (by omega) ?_; intro a' c' hr'; rw [← HL.out] at hr')
    go_loop [3, 4, 5] (fun m v i => ∃ k m' y : Nat, k ≤ l'.length ∧ i = .int .i64 ((k : Int) - 1) ∧ m = .int .u32 (m' : Int) ∧ v = .int .u32 (y : Int) ∧ m' = numL (l'.drop k) ∧ y = 2 ^ (l'.length - k) % 4294967296) (fun _ _ i => (intOf i + 1).toNat)
    case atStart => exact ⟨l'.length, 0, 1, Nat.le_refl _, by simp [hll], rfl, rfl, by rw [List.drop_length]; rfl, by simp⟩
    case round =>
      obtain ⟨k, m', y, hk, rfl, rfl, rfl, hm, hy⟩ := hrel
      have hm1 : m' < 2 ^ (l'.length - k) := by rw [hm]; have := numL_lt (l'.drop k); rwa [List.length_drop] at this
      have hm2 : m' < 4294967296 := Nat.lt_of_lt_of_le hm1 (Nat.pow_le_pow_right (n := 2) (j := 32) (by decide) (by omega))
      rw [hll] at hm1 hy hk
      by_cases hk0 : k = 0
      · have HE : Hid (m' = numL l % 4294967296) := by rw [HNUM.out, hm, hk0, List.drop_zero]; exact rfl
        subst hk0
        clear hm hy hm1
        go_wp2
        go_ret
        exact ⟨ret_int (congrArg (fun q : Nat => (q : Int)) HE.out), rfl⟩
      · obtain ⟨j, rfl⟩ : ∃ j, k = j + 1 := ⟨k - 1, by omega⟩
        obtain ⟨b, off, x, rfl, hx, hck⟩ := hr'.at (k := j) (by omega)
        have hy2 : y = 2 ^ (l'.length - (j + 1)) := by
          rw [hy, hll]
          exact Nat.mod_eq_of_lt (Nat.lt_of_le_of_lt (Nat.pow_le_pow_right (n := 2) (j := 31) (by decide) (by omega)) (by decide))
        have hsum : m' + y < 4294967296 := by
          rw [hll] at hy2
          have h1 : 2 ^ (l'.length - j) ≤ 2 ^ 32 := Nat.pow_le_pow_right (by decide) (by omega)
          rw [show l'.length - j = l'.length - (j + 1) + 1 from by omega, Nat.pow_succ, hll, ← hy2] at h1
          omega
        have hd : l'.drop j = x :: l'.drop (j + 1) := by
          rw [List.drop_eq_getElem_cons (by omega)]
          congr 1
          have := List.getElem?_eq_some_iff.1 hx
          exact this.2
        have H1 : Hid (m' + x.toNat * y = numL (l'.drop j)) := by
          rw [hd, numL_cons, List.length_drop, ← hm, ← hy2, Nat.add_comm]; exact rfl
        have H2 : Hid (y * 2 % 4294967296 = 2 ^ (l'.length - j) % 4294967296) := by
          rw [hy2, ← Nat.pow_succ, show (l'.length - (j + 1)).succ = l'.length - j from by omega]; exact rfl
        have hyy : y < 4294967296 := by omega
        clear hm hy hm1 hx hd hy2
        cases x
        all_goals
          go_wp2
          go_round
          case rel => exact ⟨j, _, y * 2 % 4294967296, by omega, by go_num, by first | rfl | exact congrArg (Value.int .u32) (by norm_cast), by go_num, by rw [← H1.out]; simp, H2.out⟩
          case measure => first | (simp [intOf]; done) | (simp [intOf]; omega)
end Go.Proofs.Ythpgcgkgokfnpaa
