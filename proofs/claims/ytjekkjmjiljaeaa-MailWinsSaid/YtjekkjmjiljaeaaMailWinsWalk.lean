/-
  The walk of the statement MailWins: for any two frames it returns true, and nothing that was there has changed.
-/
import Derived.Test.YtjekkjmjiljaeaaB10n
namespace Go.Proofs.Ytjekkjmjiljaeaa
open Go.RowKit Go.Sort
set_option linter.unusedVariables false

theorem bx5r {w : World} {g : Nat} {E : TypeId} {v0 v1 v2 v3 v4 : Value} (h : w.heap[g]? = some (.cells #[v0, v1, v2, v3, v4] E (0, 0))) :
    (∀ d os, (grow (redrawn w d) os).cell? ⟨g, 0, none⟩ = some v0) ∧ (∀ d os, (grow (redrawn w d) os).cell? ⟨g, 1, none⟩ = some v1) ∧ (∀ d os, (grow (redrawn w d) os).cell? ⟨g, 2, none⟩ = some v2) ∧
    (∀ d os, (grow (redrawn w d) os).cell? ⟨g, 3, none⟩ = some v3) ∧ (∀ d os, (grow (redrawn w d) os).cell? ⟨g, 4, none⟩ = some v4) := by
  obtain ⟨k0, k1, k2, k3, k4⟩ := bx5 h
  exact ⟨fun d os => cell_regrown k0 d os, fun d os => cell_regrown k1 d os, fun d os => cell_regrown k2 d os, fun d os => cell_regrown k3 d os, fun d os => cell_regrown k4 d os⟩

set_option maxRecDepth 100000 in
set_option maxHeartbeats 4000000 in
theorem mailWins_walk (w : World) (id : Nat) (ext rem : Bool) (dlc : Nat) (a : Option Addr) (n c : Nat) (l : List UInt8) (id2 : Nat) (ext2 rem2 : Bool) (dlc2 : Nat) (a2 : Option Addr) (n2 c2 : Nat) (l2 : List UInt8)
    (hi : id < 4294967296) (hd : dlc < 256) (hl : RL bv w a n c l) (hi2 : id2 < 4294967296) (hd2 : dlc2 < 256) (hl2 : RL bv w a2 n2 c2 l2) (m : n ≤ 9223372036854775807) (m2 : n2 ≤ 9223372036854775807) :
    Calls Try.prog 4 #[.agg #[.int .u32 (id : Int), .bool ext, .bool rem, .int .u8 (dlc : Int), .slice a n c], .agg #[.int .u32 (id2 : Int), .bool ext2, .bool rem2, .int .u8 (dlc2 : Int), .slice a2 n2 c2]] w fun e w' => e = .returned (.bool true) ∧ Below w.heap.size w w' := by
  obtain ⟨w0, hw0, hbx, hby, gg0⟩ := boxed2 w 34 #[.int .u32 (id : Int), .bool ext, .bool rem, .int .u8 (dlc : Int), .slice a n c] #[.int .u32 (id2 : Int), .bool ext2, .bool rem2, .int .u8 (dlc2 : Int), .slice a2 n2 c2]
  have cR := fun w' => frRight_any w' id ext rem dlc a n c hi hd
  have cR2 := fun w' => frRight_any w' id2 ext2 rem2 dlc2 a2 n2 c2 hi2 hd2
  have cX := fun w' => before_any w' id ext rem dlc a n c id2 ext2 rem2 dlc2 a2 n2 c2 hi hd hi2 hd2
  have cY := fun w' => before_any w' id2 ext2 rem2 dlc2 a2 n2 c2 id ext rem dlc a n c hi2 hd2 hi hd
  have cK := fun w' => key_any w' id ext rem dlc a n c hi
  have cK2 := fun w' => key_any w' id2 ext2 rem2 dlc2 a2 n2 c2 hi2
  simp only [key_before] at cX cY
  clear hl hl2 m m2
  cases h1 : riF id ext rem dlc n
  · simp only [h1] at cR
    clear h1 cR2 cX cY cK cK2
    go_enter Try.func4, Try.ntmps4
    go_wp2_with (first
      | (go_at_call 18; rw [hw0.out]; (with_reducible refine (cR w0).mono ?_); rintro e w1 ⟨rfl, g1⟩; obtain ⟨x0, x1, x2, x3, x4⟩ := bx5 (bx_below hbx g1))
      | (go_at_call 10; (with_reducible refine (awake10_any w1).mono ?_); rintro e w5 ⟨rfl, g5⟩))
    go_ret
    exact ⟨rfl, bstep (bstep gg0 g1) g5⟩
  cases h2 : riF id2 ext2 rem2 dlc2 n2
  · simp only [h1, h2] at cR cR2
    clear h1 h2 cX cY cK cK2
    go_enter Try.func4, Try.ntmps4
    go_wp2_with (first
      | (go_at_call 18; rw [hw0.out]; (with_reducible refine (cR w0).mono ?_); rintro e w1 ⟨rfl, g1⟩; obtain ⟨x0, x1, x2, x3, x4⟩ := bx5 (bx_below hby g1))
      | (go_at_call 18; (with_reducible refine (cR2 w1).mono ?_); rintro e w2 ⟨rfl, g2⟩)
      | (go_at_call 10; (with_reducible refine (awake10_any w2).mono ?_); rintro e w5 ⟨rfl, g5⟩))
    go_ret
    exact ⟨rfl, bstep (bstep (bstep gg0 g1) g2) g5⟩
  simp only [h1, h2, Bool.true_and] at cR cR2 cX cY
  clear h1 h2
  generalize keyF id ext rem = kA at *
  generalize keyF id2 ext2 rem2 = kB at *
  obtain ⟨x, hx⟩ : ∃ x, decide (kA < kB) = x := ⟨_, rfl⟩
  obtain ⟨y, hy⟩ : ∃ y, decide (kB < kA) = y := ⟨_, rfl⟩
  simp only [hx] at cX
  simp only [hy] at cY
  go_enter Try.func4, Try.ntmps4
  go_wp2_with (first
    | (go_at_call 18; rw [hw0.out]; (with_reducible refine (cR w0).mono ?_); rintro e w1 ⟨rfl, g1⟩; obtain ⟨x0, x1, x2, x3, x4⟩ := bx5 (bx_below hby g1))
    | (go_at_call 18; (with_reducible refine (cR2 w1).mono ?_); rintro e w2 ⟨rfl, g2⟩; clear x0 x1 x2 x3 x4))
  have hbx2 := bx_below (bx_below hbx g1) g2
  have hby2 := bx_below (bx_below hby g1) g2
  have gg2 := bstep (bstep gg0 g1) g2
  obtain ⟨x0, x1, x2, x3, x4⟩ := bx5r hbx2
  obtain ⟨y0, y1, y2, y3, y4⟩ := bx5r hby2
  have kC := fun d os => Calls.regrown_of (cK (grow (redrawn w2 d) os))
  have kD := fun d os => Calls.regrown_of (cK2 (grow (redrawn w2 d) os))
  refine wp_region_quiet_below (by kernel_rfl) (by kernel_rfl) ?_
  repeat (go_big_quiet_step (first | (go_at_call 19; with_reducible exact kC _ _) | (go_at_call 19; with_reducible exact kD _ _)))
  refine wpQuiet_nil ?_
  intro w9 hw9
  have g9 : Below w2.heap.size w2 w9 := by obtain ⟨p9, rfl⟩ := hw9; exact below_regrown _ _ _
  clear hw9 kC kD x0 x1 x2 x3 x4 y0 y1 y2 y3 y4 cK cK2 cR cR2
  have hbx9 := bx_below hbx2 g9
  have hby9 := bx_below hby2 g9
  have gg9 := bstep gg2 g9
  obtain ⟨x0, x1, x2, x3, x4⟩ := bx5 hbx9
  obtain ⟨y0, y1, y2, y3, y4⟩ := bx5 hby9
  go_wp2_with (first
    | (go_at_call 21; (with_reducible refine (cX w9).mono ?_); rintro e w10 ⟨rfl, g10⟩; clear x0 x1 x2 x3 x4 y0 y1 y2 y3 y4; obtain ⟨x0, x1, x2, x3, x4⟩ := bx5 (bx_below hbx9 g10); obtain ⟨y0, y1, y2, y3, y4⟩ := bx5 (bx_below hby9 g10))
    | (go_at_call 21; (with_reducible refine (cY w10).mono ?_); rintro e w11 ⟨rfl, g11⟩)
    | (go_at_call 10; (with_reducible refine (awake10_any w11).mono ?_); rintro e w12 ⟨rfl, g12⟩))
  go_ret
  exact ⟨rfl, bstep (bstep (bstep gg9 g10) g11) g12⟩
end Go.Proofs.Ytjekkjmjiljaeaa
