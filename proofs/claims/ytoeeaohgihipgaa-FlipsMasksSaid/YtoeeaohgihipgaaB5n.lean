/-
  Contracts: whether a flip is there again behind its place.
-/
import Derived.Test.YtoeeaohgihipgaaB5m
namespace Go.Proofs.Ytoeeaohgihipgaa
open Go.RowKit Go.Sort
set_option linter.unusedVariables false

set_option maxHeartbeats 1000000 in
theorem twin_no (w : World) (bl bo : Nat) (a : Option Addr) (n c : Nat) (i : Nat) (hn : n ≤ 1000000) (hi : n ≤ i + 1) (hin : i ≤ n) (hl : w.cell? ⟨bl, 0, none⟩ = some (.slice a n c)) (ho : w.cell? ⟨bo, 0, none⟩ = some (.func (.func 31) #[] #[])) :
    Calls Try.prog 37 #[.int .i64 (i : Int), .pointer (some ⟨bl, 0, none⟩), .pointer (some ⟨bo, 0, none⟩)] w fun e w' => e = .returned (.bool false) ∧ Below w.heap.size w w' := by
  have hl := cell_regrown hl
  have ho := cell_regrown ho
  have i1 : IntKind.i64.wrap ((i : Int) + 1) = (i : Int) + 1 := IntWalk.i64_in _ (by omega)
  have i5 : decide ((i : Int) + 1 < (n : Int)) = false := by simp; omega
  go_enter Try.func37, Try.ntmps37
  go_wp2
  refine wp_region_quiet_below (by kernel_rfl) (by kernel_rfl) ?_
  repeat (go_big_quiet_step (fail))
  refine wpQuiet_nil ?_
  intro w9 hw9
  have g9 : Below w.heap.size w w9 := by obtain ⟨p9, rfl⟩ := hw9; exact below_regrown _ _ _
  clear hw9 hl ho i1 i5
  go_wp2
  go_ret
  exact ⟨rfl, g9⟩

set_option maxHeartbeats 1000000 in
theorem twin_at (w : World) (bl bo : Nat) (a : Option Addr) (n c : Nat) (l : List Fl) (i : Nat) (x y : Fl) (hn : n ≤ 1000000) (hr : RK fe 2 w a n c l) (hx : l[i]? = some x) (hy : l[i + 1]? = some y) (hl : w.cell? ⟨bl, 0, none⟩ = some (.slice a n c)) (ho : w.cell? ⟨bo, 0, none⟩ = some (.func (.func 31) #[] #[])) :
    Calls Try.prog 37 #[.int .i64 (i : Int), .pointer (some ⟨bl, 0, none⟩), .pointer (some ⟨bo, 0, none⟩)] w fun e w' => e = .returned (.bool (decide (x = y))) ∧ Below w.heap.size w w' := by
  have hin : i + 1 < n := by have := (List.getElem?_eq_some_iff.1 hy).1; rw [hr.len] at this; exact this
  obtain ⟨b, off, s, u, rfl, hx', hbk, hc0, hc1⟩ := rf_at hr (k := i) (by omega)
  obtain ⟨b', off', s2, u2, e2, hy', hbk2, hc2, hc3⟩ := rf_at hr hin
  cases e2
  obtain rfl : x = (s, u) := by rw [hx'] at hx; simpa using hx.symm
  obtain rfl : y = (s2, u2) := by rw [hy'] at hy; simpa using hy.symm
  clear hx hx' hy hy'
  have hl := cell_regrown hl
  have ho := cell_regrown ho
  have hc0 := cell_regrown hc0
  have hc1 := cell_regrown hc1
  have hc2 := cell_regrown hc2
  have hc3 := cell_regrown hc3
  have i1 : IntKind.i64.wrap ((i : Int) + 1) = (i : Int) + 1 := IntWalk.i64_in _ (by omega)
  have i2 : ((i : Int) + 1).toNat = i + 1 := by omega
  have i3 : (0 : Int) ≤ (i : Int) + 1 := by omega
  have i4 : (i : Int) < (n : Int) := by omega
  have i5 : (i : Int) + 1 < (n : Int) := by omega
  have heq := cmpF_eq (s, u) (s2, u2)
  have k1 : ∀ d os, Calls Try.prog 31 #[.agg #[.int .i64 s, .int .u8 (u : Int)], .agg #[.int .i64 s2, .int .u8 (u2 : Int)]] (grow (redrawn w d) os) fun e w'' => e = .returned (.int .i64 (cmpF (s, u) (s2, u2))) ∧ ∃ p : Regrown, w'' = grow (redrawn w p.d) p.os := fun d os =>
    Calls.regrown_of ((closure_any (s, u) (s2, u2) _).mono fun e w' he => ⟨he.1, grown_below he.2⟩)
  generalize cmpF (s, u) (s2, u2) = cv at *
  by_cases hxy : (s, u) = (s2, u2)
  · have h0 := heq.2 hxy
    rw [decide_eq_true hxy]
    subst h0
    clear hxy heq
    go_enter Try.func37, Try.ntmps37
    go_wp2
    refine wp_region_quiet_below (by kernel_rfl) (by kernel_rfl) ?_
    repeat (go_big_quiet_step (first | (go_at_call 31; with_reducible exact k1 _ _)))
    refine wpQuiet_nil ?_
    intro w9 hw9
    have g9 : Below w.heap.size w w9 := by obtain ⟨p9, rfl⟩ := hw9; exact below_regrown _ _ _
    clear hw9 hl ho k1 hc0 hc1 hc2 hc3 i1 i2
    go_wp2
    go_ret
    exact ⟨rfl, g9⟩
  · have h0 : (cv == 0) = false := by simpa using fun e => hxy (heq.1 e)
    rw [decide_eq_false hxy]
    clear hxy heq
    go_enter Try.func37, Try.ntmps37
    go_wp2
    refine wp_region_quiet_below (by kernel_rfl) (by kernel_rfl) ?_
    repeat (go_big_quiet_step (first | (go_at_call 31; with_reducible exact k1 _ _)))
    refine wpQuiet_nil ?_
    intro w9 hw9
    have g9 : Below w.heap.size w w9 := by obtain ⟨p9, rfl⟩ := hw9; exact below_regrown _ _ _
    clear hw9 hl ho k1 hc0 hc1 hc2 hc3 i1 i2
    go_wp2
    go_ret
    exact ⟨rfl, g9⟩
end Go.Proofs.Ytoeeaohgihipgaa
