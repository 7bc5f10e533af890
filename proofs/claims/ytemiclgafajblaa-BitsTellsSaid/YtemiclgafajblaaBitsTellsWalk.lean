/-
  The walk of the statement BitsTells: for every number, count, bytes and bits it returns true, and nothing that was there has changed.
-/
import Derived.Test.YtemiclgafajblaaB1d
namespace Go.Proofs.Ytemiclgafajblaa
open Go.RowKit
set_option linter.unusedVariables false

theorem bitsTells_walk (w : World) (x : Nat) (many : Int) (a2 : Option Addr) (n2 c2 : Nat) (lb : List UInt8) (a3 : Option Addr) (n3 c3 : Nat) (ll : List Bool) (hx : x < 4294967296) (hm : -9223372036854775808 ≤ many ∧ many ≤ 9223372036854775807)
    (hb : RL bv w a2 n2 c2 lb) (hl : RL .bool w a3 n3 c3 ll) (m2 : n2 ≤ 9223372036854775807) (m3 : n3 ≤ 9223372036854775807) :
    Calls Try.prog 3 #[.int .u32 (x : Int), .int .i64 many, .slice a2 n2 c2, .slice a3 n3 c3] w fun e w' => e = .returned (.bool true) ∧ Below w.heap.size w w' := by
  by_cases h1 : 100 < n2
  · go_enter Try.func3, Try.ntmps3
    go_wp2_with (go_at_call 7; refine (awake1_any w).mono ?_; rintro e w1 ⟨rfl, hb1⟩)
    go_ret
    exact ⟨rfl, hb1⟩
  by_cases h2 : 300 < n3
  · go_enter Try.func3, Try.ntmps3
    go_wp2_with (go_at_call 7; refine (awake1_any w).mono ?_; rintro e w1 ⟨rfl, hb1⟩)
    go_ret
    exact ⟨rfl, hb1⟩
  have he0 := ol_lit bv 5 w.heap.size w [] #[] 0 rfl rfl (by omega) (Nat.le_refl _)
  have hb0 := hb.below (bnew0 w (.cells #[] 5))
  go_enter Try.func3, Try.ntmps3
  go_wp2_with (first
    | (at_builtin; refine wpList_app (f := bv) tY rfl _ _ rfl rfl he0 rfl hb0 (fun _ => rfl) (by omega) (by omega) (by simp) ?_; intro w1 a4 c4 hol4 g1'; simp only [Nat.zero_add, List.nil_append] at hol4; have g1 := (bnew0 w (.cells #[] 5)).trans g1'; have hl1 := hl.below g1; have hb1 := hb.below g1)
    | (go_at_call 8; refine (anew_any w1 a3 n3 c3 ll hl1 (by omega)).mono ?_; rintro e w2 ⟨a5, c5, rfl, hol5, g2⟩; have g02 := bstep g1 g2; have hc2 := hol4.rl.below g2; have hl2 := hl1.below g2; have hb2 := hb1.below g2)
    | (go_at_call 10; refine (of_any w2 x many hx hm).mono ?_; rintro e w3 ⟨a6, c6, rfl, hol6, g3⟩; have g03 := bstep g02 g3; have hc3 := hc2.below g3; have hl3 := hl2.below g3; have hb3 := hb2.below g3; have hm3 := hol5.rl.below g3)
    | (go_at_call 11; refine (refOf_any w3 x many hx hm).mono ?_; rintro e w4 ⟨a7, c7, rfl, hol7, g4⟩; have g04 := bstep g03 g4; have hc4 := hc3.below g4; have hl4 := hl3.below g4; have hb4 := hb3.below g4; have hm4 := hm3.below g4; have ho4 := hol6.rl.below g4)
    | (go_at_call 9; (with_reducible refine (same_any w4 a6 (clampM many) c6 _ a7 (clampM many) c7 _ ho4 hol7.rl (by unfold clampM; omega)).mono ?_); rintro e w5 ⟨rfl, rfl⟩)
    | (go_at_call 12; refine (number_any w4 _ _ _ _ hm4 (by omega)).mono ?_; rintro e w5 ⟨rfl, rfl⟩)
    | (go_at_call 13; refine (refNumber_any w4 _ _ _ _ hl4 (by omega)).mono ?_; rintro e w5 ⟨rfl, rfl⟩)
    | (go_at_call 14; refine (ofBytes_any w4 _ _ _ _ hc4 (by omega)).mono ?_; rintro e w5 ⟨a8, c8, rfl, hol8, g5⟩; have g05 := bstep g04 g5; have hc5 := hc4.below g5; have hl5 := hl4.below g5; have hb5 := hb4.below g5; have hm5 := hm4.below g5)
    | (go_at_call 15; refine (refOfBytes_any w5 _ _ _ _ hb5 (by omega)).mono ?_; rintro e w6 ⟨a9, c9, rfl, hol9, g6⟩; have g06 := bstep g05 g6; have hc6 := hc5.below g6; have hl6 := hl5.below g6; have hb6 := hb5.below g6; have hm6 := hm5.below g6; have ho6 := hol8.rl.below g6)
    | (go_at_call 9; (with_reducible refine (same_any w6 a8 (8 * n2) c8 _ a9 (8 * n2) c9 _ ho6 hol9.rl (by omega)).mono ?_); rintro e w7 ⟨rfl, rfl⟩)
    | (go_at_call 17; refine (bytes_any w6 _ _ _ _ hm6 (by omega)).mono ?_; rintro e w7 ⟨a10, c10, rfl, hol10, g7⟩; have g07 := bstep g06 g7; have hc7 := hc6.below g7; have hl7 := hl6.below g7; have hb7 := hb6.below g7; have hm7 := hm6.below g7)
    | (go_at_call 18; refine (refBytes_any w7 _ _ _ _ hl7 (by omega)).mono ?_; rintro e w8 ⟨a11, c11, rfl, hol11, g8⟩; have g08 := bstep g07 g8; have hc8 := hc7.below g8; have hl8 := hl7.below g8; have hb8 := hb7.below g8; have hm8 := hm7.below g8; have ho8 := hol10.rl.below g8)
    | (go_at_call 16; (with_reducible refine (alike_any w8 a10 (n3 / 8) c10 _ a11 (n3 / 8) c11 _ ho8 hol11.rl).mono ?_); rintro e w9 ⟨rfl, rfl⟩)
    | (go_at_call 19; refine (bus_any w8 _ _ _ _ hm8 (by omega)).mono ?_; rintro e w9 ⟨rfl, rfl⟩)
    | (go_at_call 20; refine (refBus_any w8 _ _ _ _ hl8 (by omega)).mono ?_; rintro e w9 ⟨rfl, rfl⟩)
    | (go_at_call 16; (with_reducible refine (alike_any w8 a4 n2 c4 _ a2 n2 c2 _ hc8 hb8).mono ?_); rintro e w9 ⟨rfl, rfl⟩)
    | (go_at_call 9; (with_reducible refine (same_any w8 a5 n3 c5 _ a3 n3 c3 _ hm8 hl8 (by omega)).mono ?_); rintro e w9 ⟨rfl, rfl⟩)
    | (go_at_call 7; refine (awake1_any w8).mono ?_; rintro e w9 ⟨rfl, g9⟩))
  go_ret
  exact ⟨rfl, bstep g08 g9⟩
end Go.Proofs.Ytemiclgafajblaa
