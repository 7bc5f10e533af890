/-
  Contract: the chapter's examples (awake).
-/
import Derived.Test.YtkojljmhgeehoaaB12e
namespace Go.Proofs.Ytkojljmhgeehoaa
open Go.RowKit Go.Sort
set_option linter.unusedVariables false

section
variable {w0 w : World} {g : Nat}
/-- A frame of the examples, where its data lie. -/
def awX (k : Nat) (d : Option Addr) (c : Nat) : Rx := ((⟨k, false, false, 0, []⟩, (d, c)), (k : Int))
theorem aw_rx (w : World) : (Calls Try.prog 17 #[.int .i64 1] w fun e w' => e = .returned (.agg #[.int .u32 1, .bool false, .bool false, .int .u8 0, .slice none 0 0, .int .i64 1]) ∧ Below w.heap.size w w') ∧
    (Calls Try.prog 17 #[.int .i64 2] w fun e w' => e = .returned (.agg #[.int .u32 2, .bool false, .bool false, .int .u8 0, .slice none 0 0, .int .i64 2]) ∧ Below w.heap.size w w') ∧
    (Calls Try.prog 17 #[.int .i64 3] w fun e w' => e = .returned (.agg #[.int .u32 3, .bool false, .bool false, .int .u8 0, .slice none 0 0, .int .i64 3]) ∧ Below w.heap.size w w') ∧
    (Calls Try.prog 17 #[.int .i64 4] w fun e w' => e = .returned (.agg #[.int .u32 4, .bool false, .bool false, .int .u8 0, .slice none 0 0, .int .i64 4]) ∧ Below w.heap.size w w') :=
  ⟨rx_any w 1 1 rfl, rx_any w 2 2 rfl, rx_any w 3 3 rfl, rx_any w 4 4 rfl⟩
theorem aw_new (w : World) : Calls Try.prog 7 #[.int .i64 2] w fun e w' => ∃ g, e = .returned (.tuple #[.pointer (some ⟨g, 0, none⟩), .int .i64 0]) ∧ FfG w g ⟨2, [], false⟩ w' := gNew_any w 2 (by omega) (by omega) (Below.refl _ _)
theorem aw_pu1 (h : FfG w0 g ⟨2, [], false⟩ w) : Calls Try.prog 10 #[.pointer (some ⟨g, 0, none⟩), .agg #[.int .u32 1, .bool false, .bool false, .int .u8 0, .slice none 0 0, .int .i64 1]] w fun e w' => e = .returned (.int .i64 0) ∧ ∃ d1 c1, FfG w0 g ⟨2, [awX 1 d1 c1], false⟩ w' :=
  gPush_any h 1 1 (by decide)
theorem aw_pu2 {d1 : Option Addr} {c1 : Nat} (h : FfG w0 g ⟨2, [awX 1 d1 c1], false⟩ w) : Calls Try.prog 10 #[.pointer (some ⟨g, 0, none⟩), .agg #[.int .u32 2, .bool false, .bool false, .int .u8 0, .slice none 0 0, .int .i64 2]] w fun e w' => e = .returned (.int .i64 0) ∧ ∃ d2 c2, FfG w0 g ⟨2, [awX 1 d1 c1, awX 2 d2 c2], false⟩ w' :=
  gPush_any h 2 2 (by simp)
theorem aw_pu3 {x y : Rx} (h : FfG w0 g ⟨2, [x, y], false⟩ w) : Calls Try.prog 10 #[.pointer (some ⟨g, 0, none⟩), .agg #[.int .u32 3, .bool false, .bool false, .int .u8 0, .slice none 0 0, .int .i64 3]] w fun e w' => e = .returned (.int .i64 5) ∧ FfG w0 g ⟨2, [x, y], true⟩ w' :=
  gPush_full h _ rfl
theorem aw_over {l : List Rx} (h : FfG w0 g ⟨2, l, true⟩ w) : Calls Try.prog 16 #[.pointer (some ⟨g, 0, none⟩)] w fun e w' => e = .returned (.bool true) ∧ w = w' := gOver_any h
theorem aw_pop1 {d1 d2 : Option Addr} {c1 c2 : Nat} (h : FfG w0 g ⟨2, [awX 1 d1 c1, awX 2 d2 c2], true⟩ w) : Calls Try.prog 18 #[.pointer (some ⟨g, 0, none⟩), .int .i64 1] w fun e w' => e = .returned (.bool true) ∧ FfG w0 g ⟨2, [awX 2 d2 c2], true⟩ w' := pops_any h _ rfl 1
theorem aw_pu4 {d2 : Option Addr} {c2 : Nat} (h : FfG w0 g ⟨2, [awX 2 d2 c2], true⟩ w) : Calls Try.prog 10 #[.pointer (some ⟨g, 0, none⟩), .agg #[.int .u32 4, .bool false, .bool false, .int .u8 0, .slice none 0 0, .int .i64 4]] w fun e w' => e = .returned (.int .i64 0) ∧ ∃ d4 c4, FfG w0 g ⟨2, [awX 2 d2 c2, awX 4 d4 c4], true⟩ w' :=
  gPush_any h 4 4 (by simp)
theorem aw_pop2 {d2 d4 : Option Addr} {c2 c4 : Nat} (h : FfG w0 g ⟨2, [awX 2 d2 c2, awX 4 d4 c4], true⟩ w) : Calls Try.prog 18 #[.pointer (some ⟨g, 0, none⟩), .int .i64 2] w fun e w' => e = .returned (.bool true) ∧ FfG w0 g ⟨2, [awX 4 d4 c4], true⟩ w' := pops_any h _ rfl 2
theorem aw_pop4 {d4 : Option Addr} {c4 : Nat} (h : FfG w0 g ⟨2, [awX 4 d4 c4], true⟩ w) : Calls Try.prog 18 #[.pointer (some ⟨g, 0, none⟩), .int .i64 4] w fun e w' => e = .returned (.bool true) ∧ FfG w0 g ⟨2, [], true⟩ w' := pops_any h _ rfl 4
theorem aw_pop0 (h : FfG w0 g ⟨2, [], true⟩ w) : Calls Try.prog 12 #[.pointer (some ⟨g, 0, none⟩)] w fun e w' => e = .returned (.tuple #[.agg rxZ, .bool false]) ∧ FfG w0 g ⟨2, [], true⟩ w' := gPop_no h rfl
theorem aw_cl1 (h : FfG w0 g ⟨2, [], true⟩ w) : Calls Try.prog 14 #[.pointer (some ⟨g, 0, none⟩)] w fun e w' => e = .returned (.bool true) ∧ FfG w0 g ⟨2, [], false⟩ w' := gClear_any h
theorem aw_cl2 (h : FfG w0 g ⟨2, [], false⟩ w) : Calls Try.prog 14 #[.pointer (some ⟨g, 0, none⟩)] w fun e w' => e = .returned (.bool false) ∧ FfG w0 g ⟨2, [], false⟩ w' := gClear_any h
end

set_option maxRecDepth 100000 in
set_option maxHeartbeats 8000000 in
theorem awake12_any (w : World) : Calls Try.prog 8 #[] w fun e w' => e = .returned (.bool true) ∧ Below w.heap.size w w' := by
  go_enter Try.func8, Try.ntmps8
  go_wp2_with (first
    | (go_at_call 7; (with_reducible refine (aw_new _).mono ?_); rintro e w1 ⟨g, rfl, h1⟩)
    | (go_at_call 17; (with_reducible refine (aw_rx w1).1.mono ?_); rintro e w2 ⟨rfl, g2⟩; have h2 := h1.call g2)
    | (go_at_call 10; (with_reducible refine (aw_pu1 h2).mono ?_); rintro e w3 ⟨rfl, d1, c1, h3⟩)
    | (go_at_call 17; (with_reducible refine (aw_rx w3).2.1.mono ?_); rintro e w4 ⟨rfl, g4⟩; have h4 := h3.call g4)
    | (go_at_call 10; (with_reducible refine (aw_pu2 h4).mono ?_); rintro e w5 ⟨rfl, d2, c2, h5⟩)
    | (go_at_call 17; (with_reducible refine (aw_rx w5).2.2.1.mono ?_); rintro e w6 ⟨rfl, g6⟩; have h6 := h5.call g6)
    | (go_at_call 10; (with_reducible refine (aw_pu3 h6).mono ?_); rintro e w7 ⟨rfl, h7⟩)
    | (go_at_call 16; (with_reducible refine (aw_over h7).mono ?_); rintro e w8 ⟨rfl, rfl⟩)
    | (go_at_call 18; (with_reducible refine (aw_pop1 h7).mono ?_); rintro e w8 ⟨rfl, h8⟩)
    | (go_at_call 17; (with_reducible refine (aw_rx w8).2.2.2.mono ?_); rintro e w9 ⟨rfl, g9⟩; have h9 := h8.call g9)
    | (go_at_call 10; (with_reducible refine (aw_pu4 h9).mono ?_); rintro e w10 ⟨rfl, d4, c4, h10⟩)
    | (go_at_call 18; (with_reducible refine (aw_pop2 h10).mono ?_); rintro e w11 ⟨rfl, h11⟩)
    | (go_at_call 18; (with_reducible refine (aw_pop4 h11).mono ?_); rintro e w12 ⟨rfl, h12⟩)
    | (go_at_call 12; (with_reducible refine (aw_pop0 h12).mono ?_); rintro e w13 ⟨rfl, h13⟩
       have b13 := heap_alloc_new w13 (.cells rxZ 36)
       have h14 := h13.call (below_setRow (bnew0 w13 (.cells rxZ 36)) (Nat.le_refl _) rxZ))
    | (with_reducible refine wpList_storeR rowX rfl _ _ rfl _ _ rfl rfl b13 rfl rfl rxZ_ones ?_)
    | (go_at_call 14; (with_reducible refine (aw_cl1 h14).mono ?_); rintro e w15 ⟨rfl, h15⟩)
    | (go_at_call 14; (with_reducible refine (aw_cl2 h15).mono ?_); rintro e w16 ⟨rfl, h16⟩))
  go_ret
  exact ⟨rfl, h16.2⟩
end Go.Proofs.Ytkojljmhgeehoaa
