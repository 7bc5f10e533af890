/-
  Contract: the chapter's examples.
-/
import Derived.Test.YtmaklneiedljjaaB11f
namespace Go.Proofs.Ytmaklneiedljjaa
open Go.RowKit Go.Sort
set_option linter.unusedVariables false

set_option maxRecDepth 100000 in
set_option maxHeartbeats 8000000 in
theorem awake11_any (w : World) : Calls Try.prog 8 #[] w fun e w' => e = .returned (.bool true) ∧ RowKit.Below w.heap.size w w' := by
  obtain ⟨w0, hw0, b0, g0⟩ := boxed11 w 25 #[.bool false, .int .u32 1792, .int .u32 256]
  have L0 := hid (lit_fi w0 exX)
  have W0 := hid (fun (w : World) => (ol_lit wv 23 w.heap.size w [5, 3, 5] #[.int .u32 5, .int .u32 3, .int .u32 5] 3 rfl rfl (by omega) (Nat.le_refl _)).rl)
  have W1 := hid (fun (w : World) => (ol_lit wv 23 w.heap.size w [2048] #[.int .u32 2048] 1 rfl rfl (by omega) (Nat.le_refl _)).rl)
  have L2 := hid (fun (w : World) => (lit_fi2 w ⟨false, 2047, 3⟩ ⟨false, 2047, 5⟩).rk eFi)
  obtain ⟨x0, x1, x2⟩ := bx3 b0
  have P1 : ∀ w, RK fiE 3 w (some ⟨w0.heap.size, 0, none⟩) 1 1 [exX] → Calls Try.prog 13 #[.slice (some ⟨w0.heap.size, 0, none⟩) 1 1, .agg #[.int .u32 256, .bool false, .bool false, .int .u8 0, .slice none 0 0]] w fun q w' => q = .returned (.bool true) ∧ RowKit.Below w.heap.size w w' := fun w h => aw_pass w _ 256 false true (by omega) h (by decide)
  have P1 := hid P1
  have P2 : ∀ w, RK fiE 3 w (some ⟨w0.heap.size, 0, none⟩) 1 1 [exX] → Calls Try.prog 13 #[.slice (some ⟨w0.heap.size, 0, none⟩) 1 1, .agg #[.int .u32 511, .bool false, .bool false, .int .u8 0, .slice none 0 0]] w fun q w' => q = .returned (.bool true) ∧ RowKit.Below w.heap.size w w' := fun w h => aw_pass w _ 511 false true (by omega) h (by decide)
  have P2 := hid P2
  have P3 : ∀ w, RK fiE 3 w (some ⟨w0.heap.size, 0, none⟩) 1 1 [exX] → Calls Try.prog 13 #[.slice (some ⟨w0.heap.size, 0, none⟩) 1 1, .agg #[.int .u32 512, .bool false, .bool false, .int .u8 0, .slice none 0 0]] w fun q w' => q = .returned (.bool false) ∧ RowKit.Below w.heap.size w w' := fun w h => aw_pass w _ 512 false false (by omega) h (by decide)
  have P3 := hid P3
  have P4 : ∀ w, RK fiE 3 w (some ⟨w0.heap.size, 0, none⟩) 1 1 [exX] → Calls Try.prog 13 #[.slice (some ⟨w0.heap.size, 0, none⟩) 1 1, .agg #[.int .u32 256, .bool true, .bool false, .int .u8 0, .slice none 0 0]] w fun q w' => q = .returned (.bool false) ∧ RowKit.Below w.heap.size w w' := fun w h => aw_pass w _ 256 true false (by omega) h (by decide)
  have P4 := hid P4
  have hz := hid (show w.heap.size < w0.heap.size from bx_lt b0)
  go_enter Try.func8, Try.ntmps8
  go_upto_region 2 with fail
  rw [hw0.out]
  go_upto_region 3 with (with_reducible refine wpList_loadR rowFi rfl _ rfl _ rfl b0 rfl ?_)
  have bA := bx_alloc (.cells (fiV exX) 25) b0
  have gA := bnew g0 (.cells (fiV exX) 25)
  have LA := hid (L0.out.rk eFi)
  change Code.wp _ _ _ _ (w0.alloc (.cells (fiV exX) 25))
  generalize w0.alloc (.cells (fiV exX) 25) = wA at *
  clear x0 x1 x2 hw0 b0
  go_wp2_with (first
    | (go_at_call 11; (with_reducible refine (aw_only _ _ (W0.out wA)).mono ?_); rintro r w1 ⟨a1, m1, c1, rfl, r1, g1⟩; (have g1 := bstep (bnew0 wA _) g1); have b1 := bx_below bA g1; have L1 := hid (LA.out.below g1); have gg1 := bstep gA g1; have R1 := hid r1; clear r1)
    | (go_at_call 11; (with_reducible refine (aw_only2 _ _ (W1.out w1)).mono ?_); rintro r w2 ⟨a2, m2, c2, rfl, g2⟩; (have g2 := bstep (bnew0 w1 _) g2); have b2 := bx_below b1 g2; have LL2 := hid (L1.out.below g2); have gg2 := bstep gg1 g2; have R2 := hid (R1.out.below g2))
    | (go_at_call 13; (with_reducible refine (P1.out w2 LL2.out).mono ?_); rintro r w3 ⟨rfl, g3⟩; have b3 := bx_below b2 g3; have L3 := hid (LL2.out.below g3); have gg3 := bstep gg2 g3; have R3 := hid (R2.out.below g3))
    | (go_at_call 13; (with_reducible refine (P2.out w3 L3.out).mono ?_); rintro r w4 ⟨rfl, g4⟩; have b4 := bx_below b3 g4; have L4 := hid (L3.out.below g4); have gg4 := bstep gg3 g4; have R4 := hid (R3.out.below g4))
    | (go_at_call 13; (with_reducible refine (P3.out w4 L4.out).mono ?_); rintro r w5 ⟨rfl, g5⟩; have b5 := bx_below b4 g5; have L5 := hid (L4.out.below g5); have gg5 := bstep gg4 g5; have R5 := hid (R4.out.below g5))
    | (go_at_call 13; (with_reducible refine (P4.out w5 L5.out).mono ?_); rintro r w6 ⟨rfl, g6⟩; have b6 := bx_below b5 g6; have gg6 := bstep gg5 g6; have R6 := hid (R5.out.below g6))
    | (with_reducible refine wpList_loadW rowFi (by simp [Region.wanted, yielded]) _ rfl _ rfl b6 rfl ?_)
    | (go_at_call 17; (with_reducible refine (aw_cov w6).mono ?_); rintro r w7 ⟨rfl, g7⟩; have b7 := bx_below b6 g7; have gg7 := bstep gg6 g7; have R7 := hid (R6.out.below g7))
    | (with_reducible refine wpList_loadW rowFi (by simp [Region.wanted, yielded]) _ rfl _ rfl b7 rfl ?_)
    | (go_at_call 17; (with_reducible refine (aw_cov2 w7).mono ?_); rintro r w8 ⟨rfl, g8⟩; have gg8 := bstep gg7 g8; have R8 := hid (R7.out.below g8); have R9 := hid (R8.out.below (bnew0 w8 (.cells #[.bool false, .int .u32 2047, .int .u32 3, .bool false, .int .u32 2047, .int .u32 5] 25))); have LL := hid (fiLists_any _ _ _ _ _ _ _ _ _ R9.out (L2.out w8) (by have := R9.out.len; simp at this; omega)))
    | (go_at_call 19; (with_reducible refine LL.out.mono ?_); rintro r w9 ⟨rfl, g9⟩; have gg9 := bstep (bnew gg8 _) g9))
  go_ret
  exact ⟨ret_bool (by simp), gg9⟩
end Go.Proofs.Ytmaklneiedljjaa
