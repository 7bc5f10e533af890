/-
  Contracts of layer 3, more of them: crc.Bits, and the document's own answers, Sum and Bits.
-/
import Derived.Test.YtcgpdldccfpjgaaB3b
import Derived.Test.YtcgpdldccfpjgaaB1f
import Derived.Test.YtcgpdldccfpjgaaBase2
namespace Go.Proofs.Ytcgpdldccfpjgaa
open Go.RowKit
set_option linter.unusedVariables false

theorem bits_any (w : World) (x : Nat) (hx : x < 65536) :
    Calls Try.prog 36 #[.int .u16 (x : Int)] w fun e w' => ∃ a c, e = .returned (.slice a 15 c) ∧ OL .bool 4 w.heap.size w' a 15 c (ofL x 15) ∧ Below w.heap.size w w' := by
  have hc : clampM 15 = 15 := by decide
  go_enter Try.func36, Try.ntmps36
  go_wp2_with (go_at_call 30; refine (of_any w x 15 (by omega) (by omega)).mono ?_; rw [hc]; rintro e w1 ⟨a1, c1, rfl, hol1, hb1⟩)
  go_ret
  exact ⟨_, _, rfl, hol1, hb1⟩

theorem half14 (k : Nat) (hk : k ≤ 15) : 16384 / 2 ^ k = if k = 15 then 0 else 2 ^ (14 - k) := by
  by_cases h : k = 15
  · subst h; rfl
  · rw [if_neg h, show (16384 : Nat) = 2 ^ 14 from rfl, Nat.pow_div (by omega) (by decide)]

theorem refBits_any (w : World) (x : Nat) (hx : x < 65536) :
    Calls Try.prog 39 #[.int .u16 (x : Int)] w fun e w' => ∃ a c, e = .returned (.slice a 15 c) ∧ OL .bool 4 w.heap.size w' a 15 c (ofL x 15) ∧ Below w.heap.size w w' := by
  go_enter Try.func39, Try.ntmps39
  go_wp2
  go_loopw [3, 4] (fun v i wr => ∃ (k y : Nat) (a : Option Addr) (c : Nat), k ≤ 15 ∧ i = .int .u16 (y : Int) ∧ y = 16384 / 2 ^ k ∧ v = .slice a k c ∧ OL .bool 4 w.heap.size wr a k c ((ofL x 15).take k) ∧ Below w.heap.size w wr) (fun _ i _ => (intOf i).toNat)
  case atStart => exact ⟨0, 16384, none, 0, Nat.zero_le _, rfl, rfl, rfl, OL.nil _ _ _ _, Below.refl _ _⟩
  case round =>
    obtain ⟨k, y, a, c, hk, rfl, hy, rfl, hol, hb⟩ := hrel
    rw [half14 k hk] at hy
    by_cases hlt : k < 15
    · rw [if_neg (by omega)] at hy
      have hy0 : 0 < y := by rw [hy]; exact Nat.two_pow_pos _
      have hy1 : y < 65536 := by rw [hy]; exact Nat.lt_of_le_of_lt (Nat.pow_le_pow_right (n := 2) (j := 14) (by decide) (by omega)) (by decide)
      obtain ⟨q, hq⟩ : ∃ q, q = x / y := ⟨_, rfl⟩
      have hq1 : q < 65536 := by rw [hq]; exact Nat.lt_of_le_of_lt (Nat.div_le_self _ _) hx
      have hqi : (x : Int) / (y : Int) = (q : Int) := by rw [hq]; norm_cast
      obtain ⟨bt, hbt⟩ : ∃ bt, bt = ((q : Int) % 2 == 1) := ⟨_, rfl⟩
      have HB : Hid (bt = x.testBit (14 - k)) := by
        show _ = _
        rw [hbt, hq, hy, Nat.testBit_eq_decide_div_mod_eq, Bool.eq_iff_iff]; simp; norm_cast
      have HY : Hid (y / 2 = 16384 / 2 ^ (k + 1)) := by
        show _ = _
        rw [half14 _ (by omega), hy]
        by_cases h14 : k = 14
        · subst h14; rfl
        · rw [if_neg (by omega), show 14 - k = 14 - (k + 1) + 1 from by omega, Nat.pow_succ, Nat.mul_div_cancel _ (by decide)]
      have hbt' := hbt.symm
      clear hbt hq hy
      have hs := hb.size
      have hyz : ¬ (y : Int) = 0 := by omega
      go_wp2_with (at_builtin; refine wpList_app (f := Value.bool) tB rfl _ _ rfl rfl (hol.alloc _) rfl (ol_lit Value.bool _ w.heap.size wr [bt] _ 1 rfl rfl (by omega) hs).rl (fun _ => rfl) (by omega) (by omega) (by simp; omega) ?_; intro w2 a2 c2 hol2 hb2)
      go_roundw
      case rel => exact ⟨k + 1, y / 2, a2, c2, by omega, by go_num, HY.out, rfl, by rw [take_snoc (x := x.testBit (14 - k)) (by rw [ofL_get _ _ _ (by omega)]), ← HB.out]; exact hol2, (hb.alloc hs _).trans hb2⟩
      case measure => simp [intOf]; omega
    · obtain rfl : k = 15 := by omega
      rw [if_pos rfl] at hy
      subst hy
      rw [List.take_of_length_le (by simp)] at hol
      go_wp2
      go_ret
      exact ⟨a, c, rfl, hol, hb⟩
end Go.Proofs.Ytcgpdldccfpjgaa
