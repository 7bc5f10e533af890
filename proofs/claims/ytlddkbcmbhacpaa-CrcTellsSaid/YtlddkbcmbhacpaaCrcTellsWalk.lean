/-
  The walk of the statement CrcTells: for every bits and every sum it returns true, and nothing that was there has changed.
-/
import Derived.Test.YtlddkbcmbhacpaaB3e
namespace Go.Proofs.Ytlddkbcmbhacpaa
open Go.RowKit
set_option linter.unusedVariables false

theorem crcTells_walk (w : World) (a : Option Addr) (n c : Nat) (l : List Bool) (x : Nat) (h : RL .bool w a n c l) (hx : x < 65536) (m1 : n ≤ 9223372036854775807) :
    Calls Try.prog 3 #[.slice a n c, .int .u16 (x : Int)] w fun e w' => e = .returned (.bool true) ∧ Below w.heap.size w w' := by
  by_cases h1 : 400 < n
  · go_enter Try.func3, Try.ntmps3
    go_wp2_with (go_at_call 7; refine (awake3_any w).mono ?_; rintro e w1 ⟨rfl, hb1⟩)
    go_ret
    exact ⟨rfl, hb1⟩
  go_enter Try.func3, Try.ntmps3
  go_wp2_with (first
    | (go_at_call 8; refine (sum_any w a n c l h (by omega)).mono ?_; rintro e w1 ⟨rfl, g1⟩; have hl1 := h.below g1)
    | (go_at_call 9; refine (refSum_any w1 a n c l hl1 (by omega)).mono ?_; rintro e w2 ⟨rfl, g2'⟩; have g2 := bstep g1 g2'; clear g2')
    | (go_at_call 11; refine (bits_any w2 x hx).mono ?_; rintro e w3 ⟨a3, c3, rfl, hol3, g3'⟩; have g3 := bstep g2 g3'; clear g3')
    | (go_at_call 12; refine (refBits_any w3 x hx).mono ?_; rintro e w4 ⟨a4, c4, rfl, hol4, g4'⟩; have g4 := bstep g3 g4'; have hr4 := hol3.rl.below g4'; clear g4')
    | (go_at_call 10; refine (same_any w4 a3 15 c3 _ a4 15 c4 _ hr4 hol4.rl (by omega)).mono ?_; rintro e w5 ⟨rfl, rfl⟩)
    | (go_at_call 7; refine (awake3_any w4).mono ?_; rintro e w6 ⟨rfl, g6⟩))
  go_ret
  exact ⟨rfl, bstep g4 g6⟩
end Go.Proofs.Ytlddkbcmbhacpaa
