/-
  The walk of the statement CrcWhole: for any bits and any cut it returns true, and nothing that was there has changed.
-/
import Derived.Test.YtlddkbcmbhacpaaB3e
namespace Go.Proofs.Ytlddkbcmbhacpaa
open Go.RowKit
set_option linter.unusedVariables false

theorem crcWhole_walk (w : World) (a : Option Addr) (n c : Nat) (l : List Bool) (u : Nat) (h : RL .bool w a n c l) (hu : u < 65536) (m1 : n ≤ 9223372036854775807) :
    Calls Try.prog 4 #[.slice a n c, .int .u16 (u : Int)] w fun e w' => e = .returned (.bool true) ∧ Below w.heap.size w w' := by
  by_cases h1 : 500 < n
  · go_enter Try.func4, Try.ntmps4
    go_wp2_with (go_at_call 7; refine (awake3_any w).mono ?_; rintro e w1 ⟨rfl, hb1⟩)
    go_ret
    exact ⟨rfl, hb1⟩
  obtain ⟨k, hk⟩ : ∃ k, k = u % (n + 1) := ⟨_, rfl⟩
  have hki : (u : Int) % ((n : Int) + 1) = (k : Int) := by rw [hk]; norm_cast
  have hkn : k ≤ n := by have := Nat.mod_lt u (show 0 < n + 1 by omega); omega
  have hz : Hid (((suV (l ++ biV (suV l))).toNat : Int) = 0) := by show _ = _; rw [suV_whole]; rfl
  obtain ⟨s, hs⟩ : ∃ s, s = (suV l).toNat := ⟨_, rfl⟩
  have hs15 : s < 32768 := by rw [hs]; exact (suV l).isLt
  have hbi : Hid (ofL s 15 = biV (suV l)) := by rw [hs]; exact rfl
  have HS := hid hs
  have hd : decide ((32767 : Int) < (s : Int)) = false := decide_eq_false (by omega)
  obtain ⟨s1, hs1v⟩ : ∃ s1, s1 = (suV (l.take k)).toNat := ⟨_, rfl⟩
  have hs1 : s1 < 32768 := by rw [hs1v]; exact (suV (l.take k)).isLt
  have HS1 := hid hs1v
  obtain ⟨s2, hs2⟩ : ∃ s2, s2 = s + 32768 := ⟨_, rfl⟩
  have hs2' : s2 < 65536 := by omega
  have hor : bits .or .u16 (s : Int) 32768 = (s2 : Int) := by
    rw [show ((32768 : Int)) = ((32768 : Nat) : Int) from rfl, u16_or_nat s 32768 (by omega) (by omega), hs2, Nat.or_comm, show (32768 : Nat) = 2 ^ 15 * 1 from rfl, ← Nat.two_pow_add_eq_or_of_lt (show s < 2 ^ 15 from hs15)]
    congr 1
    omega
  obtain ⟨v1, hv1⟩ : ∃ v1, v1 = (nxV (BitVec.ofNat 15 s) true).toNat := ⟨_, rfl⟩
  have HV := hid hv1
  have HV2 : Hid (nxV (BitVec.ofNat 15 s2) true = nxV (BitVec.ofNat 15 s) true) := by
    show _ = _
    rw [show BitVec.ofNat 15 s2 = BitVec.ofNat 15 s from by apply BitVec.eq_of_toNat_eq; rw [BitVec.toNat_ofNat, BitVec.toNat_ofNat]; omega]
  clear hk hs hs1v hs2 hv1
  go_enter Try.func4, Try.ntmps4
  go_wp2_with (first
    | (go_at_call 8; (with_reducible refine (sum_any w a n c l h (by omega)).mono ?_); rw [← HS.out]; rintro e w1 ⟨rfl, g1⟩; have hl1 := h.below g1)
    | (go_at_call 13; refine (anew_any w1 a n c l hl1 (by omega)).mono ?_; rintro e w2 ⟨a2, c2, rfl, hol2, g2'⟩; have g2 := bstep g1 g2'; have g2s := g2'.size; clear g2')
    | (go_at_call 11; refine (bits_any w2 s (by omega)).mono ?_; rw [hbi.out]; rintro e w3 ⟨a3, c3, rfl, hol3, g3'⟩; have g3 := bstep g2 g3'; have hr2 := hol2.below g3'; have g3s := g3'.size; clear g3')
    | (at_builtin; refine wpList_appW (f := Value.bool) tB (by simp [Region.wanted, yielded]) _ _ rfl rfl hr2 rfl hol3.rl (fun _ => rfl) (by omega) (by omega) (Nat.le_trans g2s g3s) ?_; intro w4 a4 c4 hol4 g4'; have g4 := g3.trans (g4'.mono g1.size); have hl4 := h.below g4; clear g4')
    | (go_at_call 8; (with_reducible refine (sum_any w4 a4 (n + 15) c4 _ hol4.rl (by omega)).mono ?_); rw [hz.out]; rintro e w5 ⟨rfl, g5'⟩; have g5 := bstep g4 g5'; have hl5 := h.below g5; clear g5')
    | (with_reducible refine wpList_cutTo (f := Value.bool) tB rfl _ _ rfl _ _ k rfl rfl (by omega) hl5 (by omega) ?_; intro a6 hr6)
    | (go_at_call 8; (with_reducible refine (sum_any w5 a6 k c _ hr6 (by omega)).mono ?_); rw [← HS1.out]; rintro e w7 ⟨rfl, g7'⟩; have g7 := bstep g5 g7'; have hl7 := h.below g7; clear g7')
    | (with_reducible refine wpList_cutFrom (f := Value.bool) tB rfl _ _ rfl _ _ k rfl rfl (by omega) hl7 (by omega) (n - k) (by omega) ?_; intro a8 c8 hr8))
  go_loop [7, 41] (fun v i => ∃ j m : Nat, j ≤ n - k ∧ i = .int .i64 j ∧ v = .int .u16 (m : Int) ∧ m < 32768 ∧ m = (suV (l.take (k + j))).toNat) (fun _ i => n - k - (intOf i).toNat)
  case atStart => exact ⟨0, s1, Nat.zero_le _, rfl, rfl, hs1, HS1.out⟩
  case round =>
    obtain ⟨j, m, hj, rfl, rfl, hm, hmv⟩ := hrel
    have HM := hid hmv; clear hmv
    by_cases hlt : j < n - k
    · obtain ⟨b, off, x, rfl, hx, hck⟩ := hr8.at hlt
      rw [List.getElem?_drop] at hx
      have HX : Hid ((nxV (BitVec.ofNat 15 m) x).toNat = (suV (l.take (k + (j + 1)))).toNat) := by
        show _ = _
        rw [HM.out, nxV_nat, ← Nat.add_assoc, take_snoc hx, suV_snoc]
      clear hx
      obtain ⟨m2, hm2⟩ : ∃ m2, m2 = (nxV (BitVec.ofNat 15 m) x).toNat := ⟨_, rfl⟩
      have hm2' : m2 < 32768 := by rw [hm2]; exact (nxV (BitVec.ofNat 15 m) x).isLt
      rw [← hm2] at HX
      have HM2 := hid hm2; clear hm2
      go_wp2_with (go_at_call 14; refine (next_any w7 m x (by omega)).mono ?_; rw [← HM2.out]; rintro e w9 ⟨rfl, rfl⟩)
      go_round
      case rel => exact ⟨j + 1, m2, by omega, by go_num, rfl, hm2', HX.out⟩
      case measure => simp [intOf]; omega
    · obtain rfl : j = n - k := by omega
      have hms : m = s := by
        rw [HM.out, HS.out, List.take_of_length_le (by rw [h.len]; omega)]
      subst hms
      clear HM
      go_wp2_with (first
        | (go_at_call 14; (with_reducible refine (next_any w7 m true (by omega)).mono ?_); rw [← HV.out]; rintro e w9 ⟨rfl, rfl⟩)
        | (go_at_call 14; (with_reducible refine (next_any w7 s2 true (by omega)).mono ?_); rw [HV2.out, ← HV.out]; rintro e w9 ⟨rfl, rfl⟩)
        | (go_at_call 7; refine (awake3_any w7).mono ?_; rintro e w9 ⟨rfl, g9⟩))
      go_ret
      exact ⟨rfl, bstep g7 g9⟩
end Go.Proofs.Ytlddkbcmbhacpaa
