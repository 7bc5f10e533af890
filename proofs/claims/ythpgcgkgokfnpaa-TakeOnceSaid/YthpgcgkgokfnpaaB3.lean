/-
  Contracts of the functions of layer 3 that touch no memory: crc.Next.
-/
import Derived.Test.YthpgcgkgokfnpaaLow
import Derived.Test.YthpgcgkgokfnpaaM3
import Derived.Laws.BitsAllLaws
namespace Go.Proofs.Ythpgcgkgokfnpaa
open Go.RowKit
set_option linter.unusedVariables false

theorem and14 (x : Nat) : x &&& 16384 = if x.testBit 14 then 16384 else 0 := by
  apply Nat.eq_of_testBit_eq
  intro i
  rw [Nat.testBit_and, show (16384 : Nat) = 2 ^ 14 from rfl, Nat.testBit_two_pow]
  by_cases h : 14 = i
  · subst h
    cases x.testBit 14
    · rfl
    · decide
  · rw [decide_eq_false h, Bool.and_false]
    cases x.testBit 14
    · simp
    · rw [if_pos rfl, Nat.testBit_two_pow, decide_eq_false h]

theorem nxV_toNat (x : Nat) (b : Bool) : (nxV (BitVec.ofNat 15 x) b).toNat = (x * 2 % 32768) ^^^ (if x.testBit 14 != b then 17817 else 0) := by
  have hm : (BitVec.ofNat 15 x).msb = x.testBit 14 := by
    rw [BitVec.msb_eq_getLsbD_last, BitVec.getLsbD_ofNat]; simp
  unfold nxV
  rw [hm, BitVec.toNat_xor, BitVec.toNat_shiftLeft, BitVec.toNat_ofNat, Nat.shiftLeft_eq]
  congr 1
  · show (x % 32768 * 2 ^ 1) % 32768 = _
    omega
  · cases x.testBit 14 != b <;> rfl

theorem crcNext_any (w : World) (x : Nat) (b : Bool) (hx : x < 65536) :
    Calls Try.prog 59 #[.int .u16 (x : Int), .bool b] w fun e w' => e = .returned (.int .u16 ((nxV (BitVec.ofNat 15 x) b).toNat : Int)) ∧ w = w' := by
  have hs := nxV_toNat x b
  have e1 : bits .and .u16 (x : Int) 16384 = ((if x.testBit 14 then 16384 else 0 : Nat) : Int) := by
    rw [show ((16384 : Int)) = ((16384 : Nat) : Int) from rfl, u16_and_nat x 16384 hx (by omega), and14]
  obtain ⟨y, hy⟩ : ∃ y, y = x * 2 % 32768 := ⟨_, rfl⟩
  have hy1 : y < 32768 := by omega
  have e2 : bits .and .u16 (IntKind.u16.wrap ((x : Int) * 2)) 32767 = (y : Int) := by
    rw [show IntKind.u16.wrap ((x : Int) * 2) = ((x * 2 % 65536 : Nat) : Int) from by rw [IntKind.wrap_u16]; omega, show ((32767 : Int)) = ((32767 : Nat) : Int) from rfl, u16_and_nat _ 32767 (by omega) (by omega), show (32767 : Nat) = 2 ^ 15 - 1 from rfl, Nat.and_two_pow_sub_one_eq_mod, hy]
    congr 1
    omega
  have e3 : bits .xor .u16 (y : Int) 17817 = ((y ^^^ 17817 : Nat) : Int) := by
    rw [show ((17817 : Int)) = ((17817 : Nat) : Int) from rfl, u16_xor_nat y 17817 (by omega) (by omega)]
  rw [← hy] at hs
  obtain ⟨t, ht⟩ : ∃ t, t = x.testBit 14 := ⟨_, rfl⟩
  rw [← ht] at hs e1
  have HS := hid hs
  clear hs hy ht
  cases t <;> cases b
  all_goals
    simp at e1
    go_enter Try.func59, Try.ntmps59
    go_wp2
    go_ret
    exact ⟨ret_int (by rw [HS.out]; simp), rfl⟩
end Go.Proofs.Ythpgcgkgokfnpaa
