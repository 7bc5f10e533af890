/-
  The walk of the statement ConfBack: for any steps it returns true, and nothing that was there has changed.
-/
import Derived.Test.YtmdjofhkkkfehaaB6k
namespace Go.Proofs.Ytmdjofhkkkfehaa
open Go.RowKit Go.Sort
set_option linter.unusedVariables false

theorem bi_dom {R M : Int} (h0 : 0 ≤ R) (h1 : R ≤ 10) (h2 : 0 ≤ M) (h3 : M ≤ 127) : biC ⟨256, 0, true, R, M⟩ false = ⟨256, 0, true, 0, M⟩ := by
  simp [biC, ri_mkOff (t := 256) (r := 0) (by omega) (by omega) (by omega) (by omega) h0 h1 h2 h3]
theorem bi_rec {R M : Int} (h0 : 0 ≤ R) (h1 : R ≤ 10) (h2 : 0 ≤ M) (h3 : M ≤ 127) : biC ⟨256, 0, true, R, M⟩ true = upC ⟨256, 0, true, R, M⟩ := by
  simp [biC, ri_mkOff (t := 256) (r := 0) (by omega) (by omega) (by omega) (by omega) h0 h1 h2 h3]
theorem up_run {R M : Int} (h : R + 1 < 11) : upC ⟨256, 0, true, R, M⟩ = ⟨256, 0, true, R + 1, M⟩ := by unfold upC; rw [if_pos h]
theorem up_times {R M : Int} (h : ¬ R + 1 < 11) (h2 : ¬ M + 1 = 128) : upC ⟨256, 0, true, R, M⟩ = ⟨256, 0, true, 0, M + 1⟩ := by unfold upC; rw [if_neg h, if_neg h2]
theorem up_back {R M : Int} (h : ¬ R + 1 < 11) (h2 : M + 1 = 128) : upC ⟨256, 0, true, R, M⟩ = ⟨0, 0, false, 0, 0⟩ := by unfold upC; rw [if_neg h, if_pos h2]

set_option maxHeartbeats 8000000 in
set_option maxRecDepth 100000 in
theorem confBack_walk (w : World) (a : Option Addr) (n c : Nat) (l : List Stp) (h : RK se 3 w a n c l) (hu : ∀ x ∈ l, x.k < 256 ∧ x.q < 256) (m1 : n ≤ 9223372036854775807) :
    Calls Try.prog 4 #[.slice a n c] w fun e w' => e = .returned (.bool true) ∧ Below w.heap.size w w' := by
  obtain ⟨p, hp⟩ : ∃ p, p = min n 300 := ⟨_, rfl⟩
  have hp2 : p ≤ n ∧ p ≤ 300 := by omega
  have hmin : ∀ (ts : Array TypeId) (t : TypeId) (w' : World), (Builtin.min_ ts t #[.int .i64 (n : Int), .int .i64 300]).run Try.prog w' = .ok (.int .i64 (p : Int)) w' := fun ts t w' => by
    rw [run_min_int2]; congr 2; split <;> omega
  clear hp
  obtain ⟨a3, p1, p2, hr3⟩ := run_cutToK tS h .i64 p hp2.1
  have HU : Hid (∀ x ∈ l.take p, x.k < 256 ∧ x.q < 256) := fun x hx => hu x (List.mem_of_mem_take hx)
  clear hu
  have hgu := guC
  go_enter Try.func4, Try.ntmps4
  go_wp2
  clear hmin p1 p2
  go_loopg [4, 5, 16] p (fun gn s4 s5 i wr => ∃ (k : Nat) (R M : Int), k ≤ p ∧ gn = p - k ∧ i = .int .i64 (k : Int) ∧ s4 = .int .i64 R ∧ s5 = .int .i64 M ∧ 0 ≤ R ∧ R ≤ 10 ∧ 0 ≤ M ∧ M ≤ 127 ∧ Bc wr w.heap.size ⟨256, 0, true, R, M⟩ ∧ Below w.heap.size w wr)
  case atStart => exact ⟨0, 0, 0, by omega, by omega, rfl, rfl, rfl, by omega, by omega, by omega, by omega, Bc.new w 256 0 true 0 0, bnew0 w _⟩
  case round =>
    obtain ⟨k, R, M, hk, rfl, rfl, rfl, rfl, hR0, hR1, hM0, hM1, hB, hg⟩ := hrel
    obtain ⟨c0, c1, c2, c3, c4, cf⟩ := hB.all
    by_cases hlt : k < p
    rotate_left
    · go_wp2_with (go_at_call 18; (with_reducible refine (awake_any _).mono ?_); rintro e w5 ⟨rfl, g5⟩)
      go_ret
      exact ⟨rfl, bstep hg g5⟩
    obtain ⟨b, off, ev, x, q, rfl, hx, hbk, hs0, hs1, hs2⟩ := step_at (hr3.below hg) hlt
    obtain ⟨hev, hq⟩ := HU.out _ (List.mem_of_getElem? hx)
    dsimp only at hev hq
    clear hx
    have hgl := hB.lt
    by_cases hz : ev = 0
    rotate_left
    · have z1 : ((ev : Int) == 0) = false := by simp; omega
      have z2 : ((ev : Int) != 0) = true := by simp; omega
      have kE : ∀ w, Calls Try.prog 10 #[.agg #[.int .i64 256, .int .i64 0, .bool true, .int .i64 R, .int .i64 M], .int .u8 (ev : Int)] w fun e w' => ∃ ee, e = .returned (.tuple #[.agg #[.int .i64 256, .int .i64 0, .bool true, .int .i64 R, .int .i64 M], .int .i64 ee]) ∧ Below w.heap.size w w' := fun w => (event_at hev (ev_off ev) rfl w).mono fun e w' he => ⟨_, he⟩
      have kN := neC 256 0 true R M 256 0 true R M
      rw [decide_eq_true rfl] at kN
      have e0 := fun o => cell_new_o c0 o
      have h0 := fun o1 o2 => cell_new_o (e0 o1) o2
      have e1 := fun o => cell_new_o c1 o
      have h1 := fun o1 o2 => cell_new_o (e1 o1) o2
      have e2 := fun o => cell_new_o c2 o
      have h2 := fun o1 o2 => cell_new_o (e2 o1) o2
      have e3 := fun o => cell_new_o c3 o
      have h3 := fun o1 o2 => cell_new_o (e3 o1) o2
      have e4 := fun o => cell_new_o c4 o
      have h4 := fun o1 o2 => cell_new_o (e4 o1) o2
      clear c0 c1 c2 c3 c4 cf hz
      go_wp2_with (first
        | (go_at_call 10; (with_reducible refine (kE _).mono ?_); rintro e w1 ⟨ee, rfl, g1⟩; obtain ⟨s1, v1, gb⟩ := two_bx g1; have hB1 := hB.below gb; have gg1 := bstep hg gb; clear hs0 hs1 hs2 e0 e1 e2 e3 e4 h0 h1 h2 h3 h4; obtain ⟨c0, c1, c2, c3, c4, cf⟩ := hB1.all; have v1' : Bc w1 (wr.heap.size + 1) ⟨256, 0, true, R, M⟩ := v1; obtain ⟨d0, d1, d2, d3, d4, df⟩ := (v1'.other (g := w.heap.size) (by omega) (.int .i64 256) (.int .i64 0) (.bool true) (.int .i64 R) (.int .i64 M)).all; have yB := hB1.set 256 0 true R M; have yg := below_set5 gg1 (Nat.le_refl _) (.int .i64 256) (.int .i64 0) (.bool true) (.int .i64 R) (.int .i64 M); obtain ⟨i0, i1, i2, i3, i4, ig⟩ := yB.all))
      go_roundg (p - (k + 1))
      case measure => omega
      case rel => exact ⟨k + 1, R, M, by omega, rfl, by go_num, rfl, rfl, hR0, hR1, hM0, hM1, yB, yg⟩
    subst hz
    obtain ⟨N, hN⟩ : ∃ N : Nat, N = 1 + q := ⟨_, rfl⟩
    have hNi : (1 : Int) + (q : Int) = (N : Int) := by omega
    have hN2 : N ≤ 256 := by omega
    clear hN
    go_wp2
    clear hNi c0 c1 c2 c3 c4 cf hs0 hs1 hs2
    obtain ⟨w20, rfl⟩ : ∃ w20, w20 = wr := ⟨_, rfl⟩
    go_loopg [4, 5, 42] N (fun gn s4 s5 i wr2 => ∃ (j : Nat) (R M : Int), j ≤ N ∧ gn = N - j ∧ i = .int .i64 (j : Int) ∧ s4 = .int .i64 R ∧ s5 = .int .i64 M ∧ 0 ≤ R ∧ R ≤ 10 ∧ 0 ≤ M ∧ M ≤ 127 ∧ Bc wr2 w.heap.size ⟨256, 0, true, R, M⟩ ∧ wr2.heap[w20.heap.size]? = some (.cells #[.int .u8 0, .bool x, .int .u8 (q : Int)] 34 (0, 0)) ∧ Below w.heap.size w wr2)
    case atStart => exact ⟨0, R, M, by omega, by omega, rfl, rfl, rfl, hR0, hR1, hM0, hM1, hB.alloc _, heap_alloc_new w20 _, bnew hg _⟩
    case round =>
      clear hB hg hR0 hR1 hM0 hM1
      obtain ⟨j, R, M, hj, rfl, rfl, rfl, rfl, hR0, hR1, hM0, hM1, hB, hS, hg⟩ := hrel
      by_cases hlj : j < N
      rotate_left
      · go_wp2
        go_roundg (p - (k + 1))
        case measure => omega
        case rel => exact ⟨k + 1, R, M, by omega, rfl, by go_num, rfl, rfl, hR0, hR1, hM0, hM1, hB, hg⟩
      have m128 : decide (M < 128) = true := by simp; omega
      obtain ⟨c0, c1, c2, c3, c4, cf⟩ := hB.all
      obtain ⟨s0, s1, s2⟩ := bx3 hS
      cases x
      · have kB := bit_at (bi_dom hR0 hR1 hM0 hM1)
        go_wp2_with (first
          | (go_at_call 16; (with_reducible refine (kB _).mono ?_); rintro e w1 ⟨rfl, g1⟩; clear c0 c1 c2 c3 c4 cf s0 s1 s2; have hB1 := hB.below g1; have gg1 := bstep hg g1; obtain ⟨c0, c1, c2, c3, c4, cf⟩ := hB1.all; have yS := (set5_other (w := w1) (g := w.heap.size) (q := w20.heap.size) (by omega) (.int .i64 256) (.int .i64 0) (.bool true) (.int .i64 0) (.int .i64 M)).trans (bx_below hS g1); obtain ⟨f0, f1, f2⟩ := bx3 yS; have yB := hB1.set 256 0 true 0 M; have yg := below_set5 gg1 (Nat.le_refl _) (.int .i64 256) (.int .i64 0) (.bool true) (.int .i64 0) (.int .i64 M); obtain ⟨i0, i1, i2, i3, i4, ig⟩ := yB.all))
        go_roundg (N - (j + 1))
        case measure => omega
        case rel => exact ⟨j + 1, 0, M, by omega, rfl, by go_num, rfl, rfl, by omega, by omega, by omega, by omega, yB, yS, yg⟩
      · have kB := bi_rec hR0 hR1 hM0 hM1
        by_cases hr : R + 1 < 11
        · have e1 : (R + 1 == 11) = false := by simp; omega
          rw [up_run hr] at kB
          have kB := bit_at kB
          go_wp2_with (first
            | (go_at_call 16; (with_reducible refine (kB _).mono ?_); rintro e w1 ⟨rfl, g1⟩; clear c0 c1 c2 c3 c4 cf s0 s1 s2; have hB1 := hB.below g1; have gg1 := bstep hg g1; obtain ⟨c0, c1, c2, c3, c4, cf⟩ := hB1.all; have yS := (set5_other (w := w1) (g := w.heap.size) (q := w20.heap.size) (by omega) (.int .i64 256) (.int .i64 0) (.bool true) (.int .i64 (R + 1)) (.int .i64 M)).trans (bx_below hS g1); obtain ⟨f0, f1, f2⟩ := bx3 yS; have yB := hB1.set 256 0 true (R + 1) M; have yg := below_set5 gg1 (Nat.le_refl _) (.int .i64 256) (.int .i64 0) (.bool true) (.int .i64 (R + 1)) (.int .i64 M); obtain ⟨i0, i1, i2, i3, i4, ig⟩ := yB.all))
          go_roundg (N - (j + 1))
          case measure => omega
          case rel => exact ⟨j + 1, R + 1, M, by omega, rfl, by go_num, rfl, rfl, by omega, by omega, by omega, by omega, yB, yS, yg⟩
        · have e1 : (R + 1 == 11) = true := by simp; omega
          by_cases hm : M + 1 = 128
          · rw [up_back hr hm] at kB
            have kB := bit_at kB
            have e2 : decide (M + 1 < 128) = false := by simp; omega
            have kM : ∀ w, Calls Try.prog 14 #[.agg #[.int .i64 0, .int .i64 0, .bool false, .int .i64 0, .int .i64 0]] w fun e w' => e = .returned (.int .u8 0) ∧ Below w.heap.size w w' := fun w => mode_at (by decide) w
            have kQ : ∀ w, (binOp .eql 23 (.agg #[.int .i64 0, .int .i64 0, .bool false, .int .i64 0, .int .i64 0]) (.agg #[.int .i64 0, .int .i64 0, .bool false, .int .i64 0, .int .i64 0])).run Try.prog w = .ok (.bool true) w := fun w => by rw [eqC, decide_eq_true rfl]
            clear hm hr
            go_wp2_with (first
              | (go_at_call 16; (with_reducible refine (kB _).mono ?_); rintro e w1 ⟨rfl, g1⟩; clear c0 c1 c2 c3 c4 cf s0 s1 s2; have hB1 := hB.below g1; have gg1 := bstep hg g1; obtain ⟨c0, c1, c2, c3, c4, cf⟩ := hB1.all; have yS := (set5_other (w := w1) (g := w.heap.size) (q := w20.heap.size) (by omega) (.int .i64 0) (.int .i64 0) (.bool false) (.int .i64 0) (.int .i64 0)).trans (bx_below hS g1); obtain ⟨f0, f1, f2⟩ := bx3 yS; have yB := hB1.set 0 0 false 0 0; have yg := below_set5 gg1 (Nat.le_refl _) (.int .i64 0) (.int .i64 0) (.bool false) (.int .i64 0) (.int .i64 0); obtain ⟨i0, i1, i2, i3, i4, ig⟩ := yB.all)
              | (go_at_call 14; (with_reducible refine (kM _).mono ?_); rintro e w2 ⟨rfl, g2⟩)
              | (go_at_call 18; (with_reducible refine (awake_any _).mono ?_); rintro e w3 ⟨rfl, g3⟩))
            go_ret
            exact ⟨rfl, bstep (bstep yg g2) g3⟩
          · rw [up_times hr hm] at kB
            have kB := bit_at kB
            have e2 : decide (M + 1 < 128) = true := by simp; omega
            have hM2 : M + 1 ≤ 127 := by omega
            clear hm hr
            go_wp2_with (first
              | (go_at_call 16; (with_reducible refine (kB _).mono ?_); rintro e w1 ⟨rfl, g1⟩; clear c0 c1 c2 c3 c4 cf s0 s1 s2; have hB1 := hB.below g1; have gg1 := bstep hg g1; obtain ⟨c0, c1, c2, c3, c4, cf⟩ := hB1.all; have yS := (set5_other (w := w1) (g := w.heap.size) (q := w20.heap.size) (by omega) (.int .i64 256) (.int .i64 0) (.bool true) (.int .i64 0) (.int .i64 (M + 1))).trans (bx_below hS g1); obtain ⟨f0, f1, f2⟩ := bx3 yS; have yB := hB1.set 256 0 true 0 (M + 1); have yg := below_set5 gg1 (Nat.le_refl _) (.int .i64 256) (.int .i64 0) (.bool true) (.int .i64 0) (.int .i64 (M + 1)); obtain ⟨i0, i1, i2, i3, i4, ig⟩ := yB.all))
            go_roundg (N - (j + 1))
            case measure => omega
            case rel => exact ⟨j + 1, 0, M + 1, by omega, rfl, by go_num, rfl, rfl, by omega, by omega, by omega, by omega, yB, yS, yg⟩
end Go.Proofs.Ytmdjofhkkkfehaa
