/-
  The chapter's own examples of layer 1 hold: 'awake' returns true.
-/
import Derived.Test.YtemiclgafajblaaB1c
namespace Go.Proofs.Ytemiclgafajblaa
open Go.RowKit
set_option linter.unusedVariables false

theorem oneB (u : Bool) : (Value.bool u).oneCell' = true := rfl

theorem awake1_any (w : World) :
    Calls Try.prog 7 #[] w fun e w' => e = .returned (.bool true) ∧ Below w.heap.size w w' := by
  go_enter Try.func7, Try.ntmps7
  go_wp2_with (first
    | (go_at_call 10; refine (of_any w 5 4 (by omega) (by omega)).mono ?_; rintro e w1 ⟨a1, c1, rfl, hol1, hb1⟩; have h128 := (ol_lit bv 5 0 w1 [128] #[.int .u8 128] 1 rfl rfl (by omega) (Nat.zero_le _)).rl)
    | (go_at_call 22; (with_reducible refine (text_any w1 a1 (clampM 4) c1 _ hol1.rl (by decide)).mono ?_); rintro e w2 ⟨rfl, rfl⟩)
    | (go_at_call 12; refine (number_any w1 a1 (clampM 4) c1 _ hol1.rl (by decide)).mono ?_; rintro e w2 ⟨rfl, rfl⟩)
    | (go_at_call 14; (with_reducible refine (ofBytes_any (w1.alloc (.cells #[.int .u8 128] 5)) (some ⟨w1.heap.size, 0, none⟩) 1 1 [128] h128 (by omega)).mono ?_); rintro e w3 ⟨a3, c3, rfl, hol3, hb3⟩; have h22 := (ol_lit Value.bool 4 0 w3 [true, true] #[.bool true, .bool true] 2 rfl rfl (by omega) (Nat.zero_le _)).rl; have h21 : RL Value.bool ((w3.alloc (.cells #[.bool true, .bool true] 4)).alloc (.cells #[.bool true, .bool false] 4)) (some ⟨w3.heap.size + 1, 0, none⟩) 2 2 [true, false] := by simpa using (ol_lit Value.bool 4 0 (w3.alloc (.cells #[.bool true, .bool true] 4)) [true, false] #[.bool true, .bool false] 2 rfl rfl (by omega) (Nat.zero_le _)).rl)
    | (go_at_call 22; (with_reducible refine (text_any w3 a3 (8 * 1) c3 _ hol3.rl (by decide)).mono ?_); rintro e w4 ⟨rfl, rfl⟩)
    | (go_at_call 19; (with_reducible refine (bus_any (w3.alloc (.cells #[.bool true, .bool true] 4)) (some ⟨w3.heap.size, 0, none⟩) 2 2 [true, true] h22 (by omega)).mono ?_); rintro e w5 ⟨rfl, rfl⟩)
    | (go_at_call 19; (with_reducible refine (bus_any ((w3.alloc (.cells #[.bool true, .bool true] 4)).alloc (.cells #[.bool true, .bool false] 4)) (some ⟨w3.heap.size + 1, 0, none⟩) 2 2 [true, false] h21 (by omega)).mono ?_); rintro e w5 ⟨rfl, rfl⟩)
    | (go_at_call 19; (with_reducible refine (bus_any _ none 0 0 [] (RL.nil _ _ _ _) (by omega)).mono ?_); rintro e w5 ⟨rfl, rfl⟩))
  go_ret
  exact ⟨rfl, bnew (bnew (bstep (bnew hb1 _) hb3) _) _⟩
end Go.Proofs.Ytemiclgafajblaa
