/-
  The walk of the statement BitsBack: it returns true for every input, and nothing that was there has changed.
-/
import Derived.Test.YtemiclgafajblaaB1d
namespace Go.Proofs.Ytemiclgafajblaa
open Go.RowKit
set_option linter.unusedVariables false

theorem bitsBack_walk (w : World) (x y : Nat) (a2 : Option Addr) (n2 c2 : Nat) (lb : List UInt8) (z : Nat) (hx : x < 4294967296) (hy : y < 256) (hb : RL bv w a2 n2 c2 lb) (hz : z < 256) (m2 : n2 ≤ 9223372036854775807) :
    Calls Try.prog 4 #[.int .u32 (x : Int), .int .u8 (y : Int), .slice a2 n2 c2, .int .u8 (z : Int)] w fun e w' => e = .returned (.bool true) ∧ Below w.heap.size w w' := by
  by_cases h1 : 100 < n2
  · go_enter Try.func4, Try.ntmps4
    go_wp2_with (go_at_call 7; refine (awake1_any w).mono ?_; rintro e w1 ⟨rfl, hb1⟩)
    go_ret
    exact ⟨rfl, hb1⟩
  obtain ⟨mo, hmo⟩ : ∃ mo, mo = y % 33 := ⟨_, rfl⟩
  have hm33 : mo < 33 := by rw [hmo]; exact Nat.mod_lt _ (by decide)
  have hyi : (y : Int) % 33 = (mo : Int) := by rw [hmo]; norm_cast
  have HMO := hid hmo; clear hmo
  have hcl : Hid (clampM (32 + (mo : Int)) = 32 + mo) := by show _ = _; unfold clampM; omega
  obtain ⟨le, hle⟩ : ∃ le, le = z % 8 := ⟨_, rfl⟩
  have hl8 : le < 8 := by rw [hle]; exact Nat.mod_lt _ (by decide)
  have hzi : (z : Int) % 8 = (le : Int) := by rw [hle]; norm_cast
  have HLE := hid hle; clear hle
  have hcl2 : Hid (clampM (le : Int) = le) := by show _ = _; unfold clampM; omega
  have hnum : Hid (numL (ofL x (32 + mo)) % 4294967296 = x) := by
    show _ = _
    rw [numL_ofL, show (4294967296 : Nat) = 2 ^ 32 from rfl, Nat.pow_add, Nat.mod_mul_right_mod, Nat.mod_eq_of_lt hx]
  go_enter Try.func4, Try.ntmps4
  go_wp2_with (first
    | (go_at_call 10; refine (of_any w x (32 + (mo : Int)) hx (by omega)).mono ?_; rw [hcl.out]; rintro e w1 ⟨a4, c4, rfl, hol4, g1⟩; have hb1 := hb.below g1)
    | (go_at_call 12; refine (number_any w1 _ _ _ _ hol4.rl (by omega)).mono ?_; rw [hnum.out]; rintro e w5 ⟨rfl, rfl⟩)
    | (with_reducible refine wpList_cutTo (f := Value.bool) tB rfl _ _ rfl _ _ mo rfl rfl (by omega) hol4.rl (by omega) ?_; intro a5 hr5))
  go_loop [41] (fun i => ∃ k : Nat, k ≤ mo ∧ i = .int .i64 k) (fun i => mo - (intOf i).toNat)
  case atStart => exact ⟨0, Nat.zero_le _, rfl⟩
  case round =>
    obtain ⟨k, hk, rfl⟩ := hrel
    by_cases hlt : k < mo
    · obtain ⟨b, off, v, rfl, hv, hck⟩ := hr5.at hlt
      have hvf : v = false := by
        rw [List.getElem?_take, if_pos hlt, ofL_get _ _ _ (by omega)] at hv
        simp only [Option.some.injEq] at hv
        rw [← hv]
        exact Nat.testBit_lt_two_pow (Nat.lt_of_lt_of_le hx (Nat.pow_le_pow_right (n := 2) (i := 32) (by decide) (by omega)))
      clear hv
      subst hvf
      go_wp2
      go_round
      case rel => exact ⟨k + 1, by omega, by go_num⟩
      case measure => simp [intOf]; omega
    · have hby : byL (obL lb) = lb := by have := byL_obL lb [] (by decide); simpa using this
      have hby2 : byL (obL lb ++ ofL z le) = lb := byL_obL lb _ (by rw [ofL_length]; exact hl8)
      have HBY := hid hby; clear hby
      have HBY2 := hid hby2; clear hby2
      have E1 : Hid (8 * n2 / 8 = n2) := by show _ = _; omega
      have E2 : Hid ((8 * n2 + le) / 8 = n2) := by show _ = _; omega
      go_wp2_with (first
        | (go_at_call 14; refine (ofBytes_any w1 _ _ _ _ hb1 (by omega)).mono ?_; rintro e w2 ⟨a6, c6, rfl, hol6, g2⟩; have hb2 := hb1.below g2; have g02 := bstep g1 g2)
        | (go_at_call 8; refine (anew_any w2 _ _ _ _ hol6.rl (by omega)).mono ?_; rintro e w3 ⟨a7, c7, rfl, hol7, g3⟩; have hb3 := hb2.below g3; have g03 := bstep g02 g3; have hm3 := hol6.rl.below g3)
        | (go_at_call 10; refine (of_any w3 z (le : Int) (by omega) (by omega)).mono ?_; rw [hcl2.out]; rintro e w4 ⟨a8, c8, rfl, hol8, g4⟩; have hb4 := hb3.below g4; have g04 := bstep g03 g4; have hm4 := hm3.below g4; have hn4 := hol7.below g4)
        | (at_builtin; refine wpList_app (f := Value.bool) tB rfl _ _ rfl rfl hn4 rfl hol8.rl (fun _ => rfl) (by omega) (by omega) (Nat.le_trans g3.size g4.size) ?_; intro w5 a9 c9 hol9 g5; have g25 := (bstep g3 g4).trans g5; have hb5 := hb2.below g25; have g05 := bstep g02 g25; have hm5 := hol6.rl.below g25)
        | (go_at_call 17; (with_reducible refine (bytes_any w5 a6 (8 * n2) c6 _ hm5 (by omega)).mono ?_); rw [E1.out, HBY.out]; rintro e w6 ⟨a10, c10, rfl, hol10, g6⟩; have hb6 := hb5.below g6; have hk6 := hol9.rl.below g6; have g06 := bstep g05 g6)
        | (go_at_call 16; (with_reducible refine (alike_any w6 a10 n2 c10 _ a2 n2 c2 _ hol10.rl hb6).mono ?_); rintro e w9 ⟨rfl, rfl⟩)
        | (go_at_call 17; (with_reducible refine (bytes_any w6 a9 (8 * n2 + le) c9 _ hk6 (by omega)).mono ?_); rw [E2.out, HBY2.out]; rintro e w7 ⟨a11, c11, rfl, hol11, g7⟩; have hb7 := hb6.below g7; have g07 := bstep g06 g7)
        | (go_at_call 16; (with_reducible refine (alike_any w7 a11 n2 c11 _ a2 n2 c2 _ hol11.rl hb7).mono ?_); rintro e w9 ⟨rfl, rfl⟩)
        | (go_at_call 7; refine (awake1_any w7).mono ?_; rintro e w9 ⟨rfl, g9⟩))
      go_ret
      exact ⟨rfl, bstep g07 g9⟩
end Go.Proofs.Ytemiclgafajblaa
