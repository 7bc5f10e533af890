/-
  Contracts of the document's Read and Head.
-/
import Derived.Test.YthpgcgkgokfnpaaB4m
import Derived.StillTailTactics
namespace Go.Proofs.Ythpgcgkgokfnpaa
open Go.RowKit Go.Sort
set_option linter.unusedVariables false

theorem run_cut {α : Type} {f : α → Value} {E T : TypeId} {z : Value} {bytes : Nat} {w : World} {P : Program} {l : List α} {n c : Nat} {a : Option Addr} (hT : ElT P T E z bytes) (hr : RL f w a n c l) (kl kh : IntKind) (L H : Int) (l0 h0 N : Nat) (hL : L = (l0 : Int)) (hH : H = (h0 : Int)) (hN : N = h0 - l0) (h1 : l0 ≤ h0) (h2 : h0 ≤ n) :
    ∃ a' c', (∀ w', (Instr.sliceAt T (.slice a n c) (some (.int kl L)) (some (.int kh H)) none).run P w' = .ok (.slice a' N c') w') ∧ (∀ w', (Instr.slice T (.slice a n c) (some (.int kl L)) (some (.int kh H)) none).run P w' = .ok (.slice a' N c') w') ∧ RL f w a' N c' ((l.drop l0).take N) := by
  subst hL
  subst hH
  subst hN
  obtain ⟨a', he, hr'⟩ := hr.sliced l0 h0 1 rfl h1 h2
  have hu : P.underlying T = some (.slice (P.elem T)) := by rw [hT.und, hT.el]
  have key : ∀ w', (Instr.slice T (.slice a n c) (some (.int kl (l0 : Int))) (some (.int kh (h0 : Int))) none).run P w' = .ok (.slice a' (h0 - l0) (c - l0)) w' := fun w' => by
    have hrun := run_slice_lh (P := P) w' T a n c hu kl kh l0 h0 (by omega) (by omega) (by have := hr.cap; omega)
    simp only [Int.toNat_natCast, run_sizeOf_el hT, Result.andThen] at hrun
    rw [hrun, he]
  exact ⟨a', c - l0, fun w' => by rw [run_sliceAt_slice w' T _ _ _ _ hu]; exact key w', key, by rw [List.drop_take] at hr'; exact hr'⟩

/-- A number of few bits. -/
theorem num_small {l : List Bool} {k v : Nat} (hv : v = numL (l.take k)) (hk : k ≤ 32) : v = numL (l.take k) % 4294967296 := by
  have h := numL_take_lt l k
  have := Nat.lt_of_lt_of_le h (Nat.pow_le_pow_right (n := 2) (j := 32) (by decide) hk)
  rw [hv, Nat.mod_eq_of_lt this]

theorem below_five {w w1 : World} (h : Below w.heap.size w w1) (v0 v1 v2 v3 v4 : Value) : Below w.heap.size w (((((w1.setCell ⟨w.heap.size, 0, none⟩ v0).setCell ⟨w.heap.size, 1, none⟩ v1).setCell ⟨w.heap.size, 2, none⟩ v2).setCell ⟨w.heap.size, 3, none⟩ v3).setCell ⟨w.heap.size, 4, none⟩ v4) :=
  ((((h.setCell (by simp) _).setCell (by simp) _).setCell (by simp) _).setCell (by simp) _).setCell (by simp) _

theorem refRead_base (w : World) (a : Option Addr) (n c : Nat) (l : List Bool) (h : RL .bool w a n c l) (hn : n ≤ 100000) (h19 : 19 ≤ n) (h13 : l[13]? = some false) :
    Calls Try.prog 53 #[.slice a n c] w fun e w' => e = .returned (.tuple #[.agg #[.int .u32 (numL ((l.drop 1).take 11) : Int), .bool false, .bool (l[12]?.getD false), .int .u8 (numL ((l.drop 15).take 4) : Int), .slice none 0 0], .int .i64 19]) ∧ Below w.heap.size w w' := by
  obtain ⟨v1, hv1⟩ : ∃ v1, v1 = numL ((l.drop 1).take 11) := ⟨_, rfl⟩
  obtain ⟨v2, hv2⟩ : ∃ v2, v2 = numL ((l.drop 15).take 4) := ⟨_, rfl⟩
  have b1 : v1 < 2048 := by rw [hv1]; exact numL_take_lt _ 11
  have b2 : v2 < 16 := by rw [hv2]; exact numL_take_lt _ 4
  obtain ⟨b, off, x12, rfl, hx, hck⟩ := h.at (k := 12) (by omega)
  obtain ⟨_, _, x13, e, hx13, hck13⟩ := h.at (k := 13) (by omega)
  cases e
  obtain rfl : x13 = false := by rw [hx13] at h13; simpa using h13
  rw [← hv1, ← hv2, hx]
  have w1 : ∃ w1, Hid (w.alloc (.cells #[.int .u32 0, .bool false, .bool false, .int .u8 0, .slice none 0 0] 36) = w1) ∧ w1.heap[w.heap.size]? = some (.cells #[.int .u32 0, .bool false, .bool false, .int .u8 0, .slice none 0 0] 36 (0, 0)) ∧ Below w.heap.size w w1 := ⟨_, rfl, heap_alloc_new w _, bnew0 w _⟩
  obtain ⟨w1, hw1, hb2, g1⟩ := w1
  have hr1 := h.below g1
  have hlt : b < w.heap.size := by obtain ⟨b', off', e, hl, _⟩ := h.cell (by omega); cases e; exact hl
  have c12 : w1.drew.cell? ⟨b, off + 12, none⟩ = some (.bool x12) := by rw [show w1.drew.cell? ⟨b, off + 12, none⟩ = w1.cell? ⟨b, off + 12, none⟩ from rfl, g1.cell (p := ⟨b, off + 12, none⟩) hlt]; exact hck
  have c13 : w1.cell? ⟨b, off + 13, none⟩ = some (.bool false) := by rw [g1.cell (p := ⟨b, off + 13, none⟩) hlt]; exact hck13
  have i1 : (12 : Int) < (n : Int) := by omega
  have i2 : (13 : Int) < (n : Int) := by omega
  have hrd : RL .bool w1.drew (some ⟨b, off, none⟩) n c l := hr1.drew
  obtain ⟨a1, c1, p1, p2, hq1⟩ := run_cut tB hrd .i64 .i64 1 12 1 12 11 rfl rfl rfl (by omega) (by omega)
  obtain ⟨a2, c2, p3, p4, hq2⟩ := run_cut tB hrd .i64 .i64 15 19 15 19 4 rfl rfl rfl (by omega) (by omega)
  have k1 := refNumber_any w1.drew a1 11 c1 _ hq1 (by omega)
  have k2 := refNumber_any w1.drew a2 4 c2 _ hq2 (by omega)
  rw [← num_small hv1 (by omega)] at k1
  rw [← num_small hv2 (by omega)] at k2
  obtain ⟨d0, d1, d2, d3, d4⟩ := bx5 hb2
  have f8 := bx_thaw hb2
  have f9 : ∀ i, w1.drew.frozen? ⟨w.heap.size, i, none⟩ = false := f8
  have hn1 : Hid (l[12]? = some x12) := hx
  clear hx13 hx hck hck13 h hr1 hrd hq1 hq2 hv1 hv2 h13 hn1
  go_enter Try.func53, Try.ntmps53
  go_wp2_with (first | (rw [hw1.out]))
  have hne : b ≠ w.heap.size := by omega
  have hne' : w.heap.size ≠ b := by omega
  have hset := below_five g1.drew
  refine wp_region_still_tail 11 (by kernel_rfl) (by kernel_rfl) ?_
  simp only [List.take_succ_cons, List.take_zero, List.drop_succ_cons, List.drop_zero]
  repeat still_step
  still_call k1.mono (fun e w' he => ⟨he.1, he.2.symm⟩)
  repeat still_step
  still_call k2.mono (fun e w' he => ⟨he.1, he.2.symm⟩)
  repeat still_step
  refine wpStill_nil ?_
  change wpList _ _ _ _ _ w1.drew
  clear d0 d1 d2 d3 d4 f8 f9 c12 c13
  have hb2d : w1.drew.heap[w.heap.size]? = some (.cells #[.int .u32 0, .bool false, .bool false, .int .u8 0, .slice none 0 0] 36 (0, 0)) := hb2
  generalize w1.drew = w2 at *
  obtain ⟨d0, d1, d2, d3, d4⟩ := bx5 hb2d
  have f8 := bx_thaw hb2d
  clear hb2 hb2d g1 hw1
  clear k1 k2 p1 p2 p3 p4
  go_wp2
  exact bodyPost_ret (v := .tuple #[.agg #[.int .u32 (v1 : Int), .bool false, .bool x12, .int .u8 (v2 : Int), .slice none 0 0], .int .i64 19]) (by simp [results, Try.results53, go_sem, d0, d1, d2, d3, d4]) rfl ⟨rfl, hset _ _ _ _ _⟩

theorem refRead_ext (w : World) (a : Option Addr) (n c : Nat) (l : List Bool) (h : RL .bool w a n c l) (hn : n ≤ 100000) (h39 : 39 ≤ n) (h13 : l[13]? = some true) :
    Calls Try.prog 53 #[.slice a n c] w fun e w' => e = .returned (.tuple #[.agg #[.int .u32 (numL ((l.drop 1).take 11) * 262144 + numL ((l.drop 14).take 18) : Nat), .bool true, .bool (l[32]?.getD false), .int .u8 (numL ((l.drop 35).take 4) : Int), .slice none 0 0], .int .i64 39]) ∧ Below w.heap.size w w' := by
  obtain ⟨v1, hv1⟩ : ∃ v1, v1 = numL ((l.drop 1).take 11) := ⟨_, rfl⟩
  obtain ⟨v2, hv2⟩ : ∃ v2, v2 = numL ((l.drop 35).take 4) := ⟨_, rfl⟩
  obtain ⟨v3, hv3⟩ : ∃ v3, v3 = numL ((l.drop 14).take 18) := ⟨_, rfl⟩
  have b1 : v1 < 2048 := by rw [hv1]; exact numL_take_lt _ 11
  have b2 : v2 < 16 := by rw [hv2]; exact numL_take_lt _ 4
  have b3 : v3 < 262144 := by rw [hv3]; exact numL_take_lt _ 18
  obtain ⟨b, off, x32, rfl, hx, hck⟩ := h.at (k := 32) (by omega)
  obtain ⟨_, _, x13, e, hx13, hck13⟩ := h.at (k := 13) (by omega)
  cases e
  obtain rfl : x13 = true := by rw [hx13] at h13; simpa using h13
  rw [← hv1, ← hv2, ← hv3, hx]
  obtain ⟨id, hid0⟩ : ∃ id, id = v1 * 262144 + v3 := ⟨_, rfl⟩
  rw [← hid0]
  have w1 : ∃ w1, Hid (w.alloc (.cells #[.int .u32 0, .bool false, .bool false, .int .u8 0, .slice none 0 0] 36) = w1) ∧ w1.heap[w.heap.size]? = some (.cells #[.int .u32 0, .bool false, .bool false, .int .u8 0, .slice none 0 0] 36 (0, 0)) ∧ Below w.heap.size w w1 := ⟨_, rfl, heap_alloc_new w _, bnew0 w _⟩
  obtain ⟨w1, hw1, hb2, g1⟩ := w1
  have hr1 := h.below g1
  have hlt : b < w.heap.size := by obtain ⟨b', off', e, hl, _⟩ := h.cell (by omega); cases e; exact hl
  have c13 : w1.cell? ⟨b, off + 13, none⟩ = some (.bool true) := by rw [g1.cell (p := ⟨b, off + 13, none⟩) hlt]; exact hck13
  have i1 : (32 : Int) < (n : Int) := by omega
  have i2 : (13 : Int) < (n : Int) := by omega
  obtain ⟨a1, c1, p1, p2, hq1⟩ := run_cut tB h .i64 .i64 1 12 1 12 11 rfl rfl rfl (by omega) (by omega)
  obtain ⟨a2, c2, p3, p4, hq2⟩ := run_cut tB h .i64 .i64 35 39 35 39 4 rfl rfl rfl (by omega) (by omega)
  obtain ⟨a3, c3, p5, p6, hq3⟩ := run_cut tB h .i64 .i64 14 32 14 32 18 rfl rfl rfl (by omega) (by omega)
  have k1 : ∀ d os, Calls Try.prog 67 #[.slice a1 11 c1] (grow (redrawn w1 d) os) fun e w'' => e = .returned (.int .u32 (v1 : Int)) ∧ ∃ p : Regrown, w'' = grow (redrawn w1 p.d) p.os := fun d os => by
    rw [num_small hv1 (by omega)]
    exact Calls.regrown_of ((refNumber_any _ a1 11 c1 _ ((hq1.below g1).below (below_regrown _ _ _)) (by omega)).mono fun e w' he => ⟨he.1, by rw [← he.2]; exact Below.refl _ _⟩)
  have k3 : ∀ d os, Calls Try.prog 67 #[.slice a3 18 c3] (grow (redrawn w1 d) os) fun e w'' => e = .returned (.int .u32 (v3 : Int)) ∧ ∃ p : Regrown, w'' = grow (redrawn w1 p.d) p.os := fun d os => by
    rw [num_small hv3 (by omega)]
    exact Calls.regrown_of ((refNumber_any _ a3 18 c3 _ ((hq3.below g1).below (below_regrown _ _ _)) (by omega)).mono fun e w' he => ⟨he.1, by rw [← he.2]; exact Below.refl _ _⟩)
  have k2 : ∀ w9, Below w1.heap.size w1 w9 → Calls Try.prog 67 #[.slice a2 4 c2] w9 fun e w' => e = .returned (.int .u32 (v2 : Int)) ∧ w9 = w' := fun w9 g9 => by
    rw [num_small hv2 (by omega)]
    exact refNumber_any w9 a2 4 c2 _ ((hq2.below g1).below g9) (by omega)
  have hm1 : (v1 : Int) * 262144 = ((v1 * 262144 : Nat) : Int) := by omega
  have hid1 : ((v1 * 262144 : Nat) : Int) + (v3 : Int) = (id : Int) := by rw [hid0]; omega
  have hid2 : id < 4294967296 := by omega
  have hs1 : IntKind.u32.wrap ((v1 : Int) * 262144) = ((v1 * 262144 : Nat) : Int) := by rw [hm1]; exact IntWalk.u32_in _ (by omega)
  have hs2 : IntKind.u32.wrap (((v1 * 262144 : Nat) : Int) + (v3 : Int)) = (id : Int) := by rw [hid1]; exact IntWalk.u32_in _ (by omega)
  obtain ⟨us, hus⟩ : ∃ us, us = v1 * 262144 := ⟨_, rfl⟩
  rw [← hus] at hs1 hs2
  clear hm1 hid1 hid0 hus
  have hne : b ≠ w.heap.size := by omega
  have hne' : w.heap.size ≠ b := by omega
  clear hx13 hck13 hr1 hq1 hq2 hq3 hv1 hv2 hv3 h13 hx
  go_enter Try.func53, Try.ntmps53
  go_wp2_with (first | (rw [hw1.out]))
  refine wp_region_quiet_below (by kernel_rfl) (by kernel_rfl) ?_
  repeat (go_big_quiet_step (first
    | (go_at_call 67; with_reducible exact k1 _ _)
    | (go_at_call 67; with_reducible exact k3 _ _)))
  refine wpQuiet_nil ?_
  intro w9 hw9
  have g9 : Below w1.heap.size w1 w9 := by obtain ⟨p9, rfl⟩ := hw9; exact below_regrown _ _ _
  clear hw9 k1 k3 c13 p1 p2 p5 p6
  have gg9 := bstep g1 g9
  have hb9 := bx_below hb2 g9
  obtain ⟨d0, d1, d2, d3, d4⟩ := bx5 hb9
  have f8 := bx_thaw hb9
  have c32 : w9.cell? ⟨b, off + 32, none⟩ = some (.bool x32) := by rw [gg9.cell (p := ⟨b, off + 32, none⟩) hlt]; exact hck
  have k2' := k2 w9.drew g9.drew
  clear k2
  go_wp2_with fail
  have hset := below_five gg9.drew
  have c32' : w9.drew.cell? ⟨b, off + 32, none⟩ = some (.bool x32) := c32
  refine wp_region_still_tail 9 (by kernel_rfl) (by kernel_rfl) ?_
  simp only [List.take_succ_cons, List.take_zero, List.drop_succ_cons, List.drop_zero]
  repeat still_step
  still_call k2'.mono (fun e w' he => ⟨he.1, he.2.symm⟩)
  repeat still_step
  refine wpStill_nil ?_
  change wpList _ _ _ _ _ w9.drew
  clear d0 d1 d2 d3 d4 f8 c32 c32'
  have hb2d : w9.drew.heap[w.heap.size]? = some (.cells #[.int .u32 0, .bool false, .bool false, .int .u8 0, .slice none 0 0] 36 (0, 0)) := hb9
  generalize w9.drew = w2 at *
  obtain ⟨d0, d1, d2, d3, d4⟩ := bx5 hb2d
  have f8 := bx_thaw hb2d
  clear hb2 hb2d hb9 g1 gg9 g9 hw1
  clear k2' p3 p4
  go_wp2
  exact bodyPost_ret (v := .tuple #[.agg #[.int .u32 (id : Int), .bool true, .bool x32, .int .u8 (v2 : Int), .slice none 0 0], .int .i64 39]) (by simp [results, Try.results53, go_sem, d0, d1, d2, d3, d4]) rfl ⟨rfl, hset _ _ _ _ _⟩
end Go.Proofs.Ythpgcgkgokfnpaa
