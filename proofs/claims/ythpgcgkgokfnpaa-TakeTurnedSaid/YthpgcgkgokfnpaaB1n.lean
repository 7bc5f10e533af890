/-
  Contracts of jackstaylow.Alike and bits.Number (layer 1).
-/
import Derived.Test.YthpgcgkgokfnpaaB1f
namespace Go.Proofs.Ythpgcgkgokfnpaa
open Go.RowKit
set_option linter.unusedVariables false

theorem alike_any (w : World) (a : Option Addr) (n c : Nat) (l : List UInt8) (a2 : Option Addr) (n2 c2 : Nat) (l2 : List UInt8) (h : RL bv w a n c l) (h2 : RL bv w a2 n2 c2 l2) :
    Calls Try.prog 30 #[.slice a n c, .slice a2 n2 c2] w fun e w' => e = .returned (.bool (decide (l = l2))) ∧ w = w' := by
  have e1 := run_bstr (S := 9) tY (by kernel_rfl) (by kernel_rfl) h
  have e2 := run_bstr (S := 9) tY (by kernel_rfl) (by kernel_rfl) h2
  go_enter Try.func30, Try.ntmps30
  go_wp2
  go_ret
  exact ⟨ret_bool (by rw [Bool.eq_iff_iff]; simp), rfl⟩

theorem number_any (w : World) (a : Option Addr) (n c : Nat) (l : List Bool) (h : RL .bool w a n c l) (hn : n ≤ 1000000) :
    Calls Try.prog 48 #[.slice a n c] w fun e w' => e = .returned (.int .u32 ((numL l % 4294967296 : Nat) : Int)) ∧ w = w' := by
  go_enter Try.func48, Try.ntmps48
  go_wp2
  go_loop [3, 8] (fun m i => ∃ k m' : Nat, k ≤ n ∧ i = .int .i64 k ∧ m = .int .u32 (m' : Int) ∧ m' < 4294967296 ∧ m' = numL (l.take k) % 4294967296) (fun _ i => n - (intOf i).toNat)
  case atStart => exact ⟨0, 0, Nat.zero_le _, rfl, rfl, by omega, rfl⟩
  case round =>
    obtain ⟨k, m', hk, rfl, rfl, hm, hall⟩ := hrel
    have HA := hid hall; clear hall
    by_cases hlt : k < n
    · obtain ⟨b, off, x, rfl, hx, hck⟩ := h.at hlt
      have HX := hid hx; clear hx
      cases x
      · go_wp2
        go_round
        case rel => exact ⟨k + 1, m' * 2 % 4294967296, by omega, by go_num, by go_num, by omega, by have := num_step HX.out HA.out; simpa using this⟩
        case measure => simp [intOf]; omega
      · go_wp2
        go_round
        case rel =>
          have hs := num_step HX.out HA.out
          have hb := (u32_bits (m' * 2 % 4294967296) 1 (by omega) (by omega)).2
          refine ⟨k + 1, (m' * 2 % 4294967296) ||| 1, by omega, by go_num, ?_, ?_, hs⟩
          · rw [← hb]; congr 2
          · rw [show (1 : Nat) = true.toNat from rfl, hs]; omega
        case measure => simp [intOf]; omega
    · have HE : Hid (m' = numL l % 4294967296) := by
        have e := HA.out; rwa [List.take_of_length_le (by rw [h.len]; omega)] at e
      go_wp2
      go_ret
      exact ⟨ret_int (congrArg (fun q : Nat => (q : Int)) HE.out), rfl⟩

end Go.Proofs.Ythpgcgkgokfnpaa
