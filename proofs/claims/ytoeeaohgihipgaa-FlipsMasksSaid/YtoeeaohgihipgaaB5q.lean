/-
  The chapter's examples.
-/
import Derived.Test.YtoeeaohgihipgaaB5p
namespace Go.Proofs.Ytoeeaohgihipgaa
open Go.RowKit Go.Sort
set_option linter.unusedVariables false

/-- The example's right list. -/
def exL : List Fl := [(3, 0), (5, 0)]
theorem exL_sor : Sor exL := by unfold exL Sor; decide
theorem exL_all : AllF exL := by rw [allF_iff]; decide

theorem ex_make (w : World) (a : Option Addr) (c : Nat) (h : RK fe 2 w a 4 c [(5, 1), (3, 0), (5, 0), (5, 1)]) :
    Calls Try.prog 9 #[.slice a 4 c] w fun e w' => ∃ a' c', e = .returned (.tuple #[.slice a' 2 c', .int .i64 0]) ∧ OK fe 2 38 w.heap.size w' a' 2 c' exL ∧ Below w.heap.size w w' :=
  (make_any w a 4 c _ h (by omega)).mono fun e w' ⟨a', m, c', he, ho, hb⟩ => by
    have e1 : mkE [(5, 1), (3, 0), (5, 0), (5, 1)] = 0 := by decide
    have e2 : mkO [(5, 1), (3, 0), (5, 0), (5, 1)] = exL := by decide
    rw [e1] at he
    rw [e2] at ho
    obtain rfl : m = 2 := ho.len.symm
    exact ⟨a', c', he, ho, hb⟩

theorem ex_wrong (w : World) (a : Option Addr) (c : Nat) (h : RK fe 2 w a 1 c [(0, 32)]) :
    Calls Try.prog 9 #[.slice a 1 c] w fun e w' => ∃ a' m c', e = .returned (.tuple #[.slice a' m c', .int .i64 2]) ∧ Below w.heap.size w w' :=
  (make_any w a 1 c _ h (by omega)).mono fun e w' ⟨a', m, c', he, ho, hb⟩ => by
    have e1 : mkE [(0, 32)] = 2 := by decide
    rw [e1] at he
    exact ⟨a', m, c', he, hb⟩

theorem ex_mask5 (w : World) (a : Option Addr) (c : Nat) (h : RK fe 2 w a 2 c exL) : Calls Try.prog 16 #[.slice a 2 c, .int .i64 5] w fun e w' => e = .returned (.int .u32 1) ∧ Below w.heap.size w w' :=
  (mask_any w a 2 c exL 5 h (by omega) exL_sor exL_all).mono fun e w' ⟨he, hb⟩ => ⟨by have e1 : maskL exL 5 = 1 := (by decide); rw [he, e1]; rfl, hb⟩
theorem ex_mask4 (w : World) (a : Option Addr) (c : Nat) (h : RK fe 2 w a 2 c exL) : Calls Try.prog 16 #[.slice a 2 c, .int .i64 4] w fun e w' => e = .returned (.int .u32 0) ∧ Below w.heap.size w w' :=
  (mask_any w a 2 c exL 4 h (by omega) exL_sor exL_all).mono fun e w' ⟨he, hb⟩ => ⟨by have e1 : maskL exL 4 = 0 := (by decide); rw [he, e1]; rfl, hb⟩

theorem exL_get {i : Nat} {x : Fl} (h : exL[i]? = some x) : (i = 0 ∧ x = (3, 0)) ∨ (i = 1 ∧ x = (5, 0)) := by
  unfold exL at h
  match i, h with
  | 0, h => simp at h; exact .inl ⟨rfl, h.symm⟩
  | 1, h => simp at h; exact .inr ⟨rfl, h.symm⟩
  | i + 2, h => simp at h

theorem exL_most2 : IsMost exL 2 1 := by
  refine ⟨fun i j x y hij hx hy hw => ?_, .inr ⟨0, 0, (3, 0), (3, 0), by omega, rfl, rfl, by decide, rfl⟩⟩
  rcases exL_get hx with ⟨rfl, rfl⟩ | ⟨rfl, rfl⟩ <;> rcases exL_get hy with ⟨rfl, rfl⟩ | ⟨rfl, rfl⟩ <;> simp at hw ⊢
theorem exL_most3 : IsMost exL 3 2 := by
  refine ⟨fun i j x y hij hx hy hw => ?_, .inr ⟨0, 1, (3, 0), (5, 0), by omega, rfl, rfl, by decide, rfl⟩⟩
  rcases exL_get hx with ⟨rfl, rfl⟩ | ⟨rfl, rfl⟩ <;> rcases exL_get hy with ⟨rfl, rfl⟩ | ⟨rfl, rfl⟩ <;> simp at hw ⊢

theorem ex_most2 (w : World) (a : Option Addr) (c : Nat) (h : RK fe 2 w a 2 c exL) : Calls Try.prog 18 #[.slice a 2 c, .int .i64 2] w fun e w' => e = .returned (.int .i64 1) ∧ Below w.heap.size w w' :=
  (most_any w a 2 c exL 2 h (by omega) exL_sor exL_all).mono fun e w' ⟨m, he, hm, _, hb⟩ => ⟨by rw [he, isMost_unique hm exL_most2]; rfl, hb⟩
theorem ex_most3 (w : World) (a : Option Addr) (c : Nat) (h : RK fe 2 w a 2 c exL) : Calls Try.prog 18 #[.slice a 2 c, .int .i64 3] w fun e w' => e = .returned (.int .i64 2) ∧ Below w.heap.size w w' :=
  (most_any w a 2 c exL 3 h (by omega) exL_sor exL_all).mono fun e w' ⟨m, he, hm, _, hb⟩ => ⟨by rw [he, isMost_unique hm exL_most3]; rfl, hb⟩

theorem ex_turn0 (w : World) : Calls Try.prog 14 #[.bool true, .int .u32 1, .int .u8 0] w fun e w' => e = .returned (.bool false) ∧ w = w' := turn_any w true 1 0 (by omega) (by omega)
theorem ex_turn1 (w : World) : Calls Try.prog 14 #[.bool true, .int .u32 1, .int .u8 1] w fun e w' => e = .returned (.bool true) ∧ w = w' := turn_any w true 1 1 (by omega) (by omega)

theorem ex_lists (w : World) (a : Option Addr) (c : Nat) (a2 : Option Addr) (c2 : Nat) (h : RK fe 2 w a 2 c exL) (h2 : RK fe 2 w a2 2 c2 exL) : Calls Try.prog 13 #[.slice a 2 c, .slice a2 2 c2] w fun e w' => e = .returned (.bool true) ∧ Below w.heap.size w w' :=
  (lists_any w a 2 c exL a2 2 c2 exL h h2 (by omega)).mono fun e w' ⟨he, hb⟩ => ⟨by rw [he, decide_eq_true rfl], hb⟩

set_option maxHeartbeats 2000000 in
theorem awake_any (w : World) : Calls Try.prog 8 #[] w fun e w' => e = .returned (.bool true) ∧ Below w.heap.size w w' := by
  have h1 := (ok_lit (cs := #[.int .i64 5, .int .u8 1, .int .i64 3, .int .u8 0, .int .i64 5, .int .u8 0, .int .i64 5, .int .u8 1]) eF 38 0 w [(5, 1), (3, 0), (5, 0), (5, 1)] 4 rfl rfl (by omega) (Nat.zero_le _)).rk eF
  have lit2 : ∀ w : World, RK fe 2 (w.alloc (.cells #[.int .i64 0, .int .u8 32] 38)) (some ⟨w.heap.size, 0, none⟩) 1 1 [(0, 32)] := fun w => lit1F w 0 32
  have lit3 : ∀ w : World, RK fe 2 (w.alloc (.cells #[.int .i64 3, .int .u8 0, .int .i64 5, .int .u8 0] 38)) (some ⟨w.heap.size, 0, none⟩) 2 2 exL := fun w => (ok_lit eF 38 0 w exL _ 2 rfl rfl (by omega) (Nat.zero_le _)).rk eF
  have HL2 := hid lit2
  have HL3 := hid lit3
  clear lit2 lit3
  have hb0 := bnew0 w (.cells #[.int .i64 5, .int .u8 1, .int .i64 3, .int .u8 0, .int .i64 5, .int .u8 0, .int .i64 5, .int .u8 1] 38)
  go_enter Try.func8, Try.ntmps8
  go_wp2_with (first
    | (go_at_call 9; with_reducible refine (ex_make _ _ _ h1).mono ?_; rintro e w1 ⟨a1, c1, rfl, ho1, g1⟩; have gg1 := bstep hb0 g1; have hr1 := ho1.rk eF; clear h1 ho1 g1 hb0)
    | (go_at_call 9; with_reducible refine (ex_wrong _ _ _ (HL2.out w1)).mono ?_; rintro e w2 ⟨a2, m2, c2, rfl, g2⟩; have q2 := (bnew0 w1 _).trans (g2.mono (by simp)); have gg2 := bstep gg1 q2; have hr2 := hr1.below q2; clear gg1 hr1 g2 q2; have q3 := bnew0 w2 (.cells #[.int .i64 3, .int .u8 0, .int .i64 5, .int .u8 0] 38))
    | (go_at_call 13; with_reducible refine (ex_lists _ _ _ _ _ (hr2.below q3) (HL3.out w2)).mono ?_; rintro e w3 ⟨rfl, g3⟩; have q4 := q3.trans (g3.mono (by simp)); have gg3 := bstep gg2 q4; have hr3 := hr2.below q4; clear gg2 hr2 g3 q4 q3)
    | (go_at_call 16; with_reducible refine (ex_mask5 w3 _ _ hr3).mono ?_; rintro e w4 ⟨rfl, g4⟩; have gg4 := bstep gg3 g4; have hr4 := hr3.below g4; clear gg3 hr3 g4)
    | (go_at_call 16; with_reducible refine (ex_mask4 w4 _ _ hr4).mono ?_; rintro e w5 ⟨rfl, g5⟩; have gg5 := bstep gg4 g5; have hr5 := hr4.below g5; clear gg4 hr4 g5)
    | (go_at_call 18; with_reducible refine (ex_most2 w5 _ _ hr5).mono ?_; rintro e w6 ⟨rfl, g6⟩; have gg6 := bstep gg5 g6; have hr6 := hr5.below g6; clear gg5 hr5 g6)
    | (go_at_call 18; with_reducible refine (ex_most3 w6 _ _ hr6).mono ?_; rintro e w7 ⟨rfl, g7⟩; have gg7 := bstep gg6 g7; clear gg6 hr6 g7)
    | (go_at_call 14; with_reducible refine (ex_turn0 w7).mono ?_; rintro e w' ⟨rfl, rfl⟩)
    | (go_at_call 14; with_reducible refine (ex_turn1 w7).mono ?_; rintro e w' ⟨rfl, rfl⟩))
  go_ret
  exact ⟨rfl, gg7⟩
end Go.Proofs.Ytoeeaohgihipgaa
