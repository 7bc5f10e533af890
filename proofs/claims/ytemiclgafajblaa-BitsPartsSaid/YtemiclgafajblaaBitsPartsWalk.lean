/-
  The walk of the statement BitsParts: it returns true for every input, and nothing that was there has changed.
-/
import Derived.Test.YtemiclgafajblaaB1d
namespace Go.Proofs.Ytemiclgafajblaa
open Go.RowKit
set_option linter.unusedVariables false

theorem bitsParts_walk (w : World) (a1 : Option Addr) (n1 c1 : Nat) (la : List UInt8) (a2 : Option Addr) (n2 c2 : Nat) (lb : List UInt8) (x y : Nat) (ha : RL bv w a1 n1 c1 la) (hb : RL bv w a2 n2 c2 lb) (hx : x < 4294967296) (hy : y < 256) (m1 : n1 ≤ 9223372036854775807) (m2 : n2 ≤ 9223372036854775807) :
    Calls Try.prog 5 #[.slice a1 n1 c1, .slice a2 n2 c2, .int .u32 (x : Int), .int .u8 (y : Int)] w fun e w' => e = .returned (.bool true) ∧ Below w.heap.size w w' := by
  by_cases h1 : 50 < n1
  · go_enter Try.func5, Try.ntmps5
    go_wp2_with (go_at_call 7; refine (awake1_any w).mono ?_; rintro e w1 ⟨rfl, hb1⟩)
    go_ret
    exact ⟨rfl, hb1⟩
  by_cases h2 : 50 < n2
  · go_enter Try.func5, Try.ntmps5
    go_wp2_with (go_at_call 7; refine (awake1_any w).mono ?_; rintro e w1 ⟨rfl, hb1⟩)
    go_ret
    exact ⟨rfl, hb1⟩
  obtain ⟨k, hk⟩ : ∃ k, k = y % 33 := ⟨_, rfl⟩
  have hk33 : k < 33 := by rw [hk]; exact Nat.mod_lt _ (by decide)
  have hki : (y : Int) % 33 = (k : Int) := by rw [hk]; norm_cast
  clear hk
  obtain ⟨hi, hhi⟩ : ∃ hi, hi = x / 2 ^ k := ⟨_, rfl⟩
  have hhx : hi < 4294967296 := by rw [hhi]; exact Nat.lt_of_le_of_lt (Nat.div_le_self _ _) hx
  have hdv : (x : Int) / 2 ^ k = (hi : Int) := by rw [hhi]; norm_cast
  have hcl1 : Hid (clampM (32 - (k : Int)) = 32 - k) := by show _ = _; unfold clampM; omega
  have hcl2 : Hid (clampM (k : Int) = k) := by show _ = _; unfold clampM; omega
  have hcl3 : Hid (clampM 32 = 32) := by show _ = _; decide
  have hofl : Hid (ofL hi (32 - k) ++ ofL x k = ofL x 32) := by
    show _ = _
    have := ofL_add x (32 - k) k
    rw [show 32 - k + k = 32 from by omega] at this
    rw [this, hhi]
  have hobl : Hid (obL (la ++ lb) = obL la ++ obL lb) := obL_append la lb
  clear hhi
  have he0 := ol_lit bv 5 w.heap.size w [] #[] 0 rfl rfl (by omega) (Nat.le_refl _)
  have g0 := bnew0 w (.cells #[] 5)
  have ha0 := ha.below g0
  have HG := hid g0
  go_enter Try.func5, Try.ntmps5
  go_wp2_with (first
    | (at_builtin; (with_reducible refine wpList_app (f := bv) (n2 := n1) (a2 := a1) tY rfl _ _ rfl rfl he0 rfl ha0 (fun _ => rfl) (by omega) (by omega) (by simp) ?_); intro w1 a4 c4 hol4 g1'; simp only [Nat.zero_add, List.nil_append] at hol4; have g1 := HG.out.trans g1'; have hb1 := hb.below g1)
    | (at_builtin; (with_reducible refine wpList_app (f := bv) tY rfl _ _ rfl rfl hol4 rfl hb1 (fun _ => rfl) (by omega) (by omega) g1.size ?_); intro w2 a5 c5 hol5 g2'; have g2 := g1.trans g2'; have ha2 := ha.below g2; have hb2 := hb.below g2)
    | (go_at_call 14; (with_reducible refine (ofBytes_any w2 a5 (n1 + n2) c5 _ hol5.rl (by omega)).mono ?_); rw [hobl.out]; rintro e w3 ⟨a6, c6, rfl, hol6, g3⟩; have g03 := bstep g2 g3; have ha3 := ha2.below g3; have hb3 := hb2.below g3)
    | (go_at_call 14; (with_reducible refine (ofBytes_any w3 a1 n1 c1 _ ha3 (by omega)).mono ?_); rintro e w4 ⟨a7, c7, rfl, hol7, g4⟩; have g04 := bstep g03 g4; have hb4 := hb3.below g4; have hx4 := hol6.rl.below g4)
    | (go_at_call 8; (with_reducible refine (anew_any w4 a7 (8 * n1) c7 _ hol7.rl (by omega)).mono ?_); rintro e w5 ⟨a8, c8, rfl, hol8, g5⟩; have g05 := bstep g04 g5; have hb5 := hb4.below g5; have hx5 := hx4.below g5)
    | (go_at_call 14; (with_reducible refine (ofBytes_any w5 a2 n2 c2 _ hb5 (by omega)).mono ?_); rintro e w6 ⟨a9, c9, rfl, hol9, g6⟩; have g06 := bstep g05 g6; have hx6 := hx5.below g6; have hn6 := hol8.below g6)
    | (at_builtin; (with_reducible refine wpList_app (f := Value.bool) tB rfl _ _ rfl rfl hn6 rfl hol9.rl (fun _ => rfl) (by omega) (by omega) (Nat.le_trans g5.size g6.size) ?_); intro w7 a10 c10 hol10 g7; have g47 := (bstep g5 g6).trans g7; have g07 := bstep g04 g47; have hx7 := hx4.below g47)
    | (go_at_call 9; (with_reducible refine (same_any w7 a6 (8 * (n1 + n2)) c6 _ a10 (8 * n1 + 8 * n2) c10 _ hx7 hol10.rl (by omega)).mono ?_); rintro e w9 ⟨rfl, rfl⟩)
    | (go_at_call 10; (with_reducible refine (of_any w7 hi (32 - (k : Int)) hhx (by omega)).mono ?_); rw [hcl1.out]; rintro e w8 ⟨a11, c11, rfl, hol11, g8⟩; have g08 := bstep g07 g8)
    | (go_at_call 8; (with_reducible refine (anew_any w8 a11 (32 - k) c11 _ hol11.rl (by omega)).mono ?_); rintro e w9 ⟨a12, c12, rfl, hol12, g9⟩; have g09 := bstep g08 g9)
    | (go_at_call 10; (with_reducible refine (of_any w9 x (k : Int) hx (by omega)).mono ?_); rw [hcl2.out]; rintro e w10 ⟨a13, c13, rfl, hol13, g10⟩; have g010 := bstep g09 g10; have hn10 := hol12.below g10)
    | (at_builtin; (with_reducible refine wpList_app (f := Value.bool) tB rfl _ _ rfl rfl hn10 rfl hol13.rl (fun _ => rfl) (by omega) (by omega) (Nat.le_trans g9.size g10.size) ?_); rw [hofl.out]; intro w11 a14 c14 hol14 g11; have g011 := bstep g08 ((bstep g9 g10).trans g11))
    | (go_at_call 10; (with_reducible refine (of_any w11 x 32 hx (by omega)).mono ?_); rw [hcl3.out]; rintro e w12 ⟨a15, c15, rfl, hol15, g12⟩; have g012 := bstep g011 g12; have hy12 := hol14.rl.below g12)
    | (go_at_call 9; (with_reducible refine (same_any w12 a14 (32 - k + k) c14 _ a15 32 c15 _ hy12 hol15.rl (by omega)).mono ?_); rintro e w13 ⟨rfl, rfl⟩)
    | (go_at_call 7; refine (awake1_any w12).mono ?_; rintro e w13 ⟨rfl, g13⟩))
  go_ret
  exact ⟨rfl, bstep g012 g13⟩
end Go.Proofs.Ytemiclgafajblaa
