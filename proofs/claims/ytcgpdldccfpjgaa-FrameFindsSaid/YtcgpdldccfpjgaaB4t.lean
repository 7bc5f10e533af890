/-
  The statements' own examples (awake, stage 4).
-/
import Derived.Test.YtcgpdldccfpjgaaB4r
import Derived.Test.YtcgpdldccfpjgaaB4s
import Derived.Test.YtcgpdldccfpjgaaB4g
import Derived.Test.YtcgpdldccfpjgaaB4i
import Derived.Test.YtcgpdldccfpjgaaM4
namespace Go.Proofs.Ytcgpdldccfpjgaa
open Go.RowKit Go.Sort
set_option linter.unusedVariables false

theorem run_to {α : Type} {f : α → Value} {E T : TypeId} {z : Value} {bytes : Nat} {w : World} {P : Program} {l : List α} {n c : Nat} {a : Option Addr} (hT : ElT P T E z bytes) (hr : RL f w a n c l) (kh : IntKind) (H : Int) (h0 : Nat) (hH : H = (h0 : Int)) (h2 : h0 ≤ n) :
    ∃ a', (∀ w', (Instr.sliceAt T (.slice a n c) none (some (.int kh H)) none).run P w' = .ok (.slice a' h0 c) w') ∧ (∀ w', (Instr.slice T (.slice a n c) none (some (.int kh H)) none).run P w' = .ok (.slice a' h0 c) w') ∧ RL f w a' h0 c (l.take h0) := by
  subst hH
  exact run_cutTo hT hr kh h0 h2

def F0 : Fr := ⟨291, false, false, 1, [170]⟩
def b0 : List Bool := boL F0
theorem good0 : Good F0 := ⟨by decide, by decide, by decide⟩
theorem b0_len : b0.length = 42 := by decide +kernel
theorem b0_text : ((b0.take 27).map chB) = [100, 100, 100, 114, 100, 100, 114, 100, 100, 100, 114, 114, 100, 100, 100, 100, 100, 100, 114, 114, 100, 114, 100, 114, 100, 114, 100] := by decide +kernel

theorem aw_body0 (w : World) (a : Option Addr) (h : RL bv w a 1 1 [170]) :
    Calls Try.prog 19 #[.agg #[.int .u32 291, .bool false, .bool false, .int .u8 1, .slice a 1 1]] w fun e w' => ∃ a' c', e = .returned (.tuple #[.slice a' 42 c', .int .i64 0]) ∧ OL .bool 4 w.heap.size w' a' 42 c' b0 ∧ Below w.heap.size w w' :=
  body_any w 291 false false 1 a 1 1 [170] (by omega) (by omega) h (by decide)

theorem aw_body1 (w : World) :
    Calls Try.prog 19 #[.agg #[.int .u32 5, .bool true, .bool true, .int .u8 8, .slice none 0 0]] w fun e w' => ∃ a' c', e = .returned (.tuple #[.slice a' 54 c', .int .i64 0]) ∧ Below w.heap.size w w' :=
  (body_any w 5 true true 8 none 0 0 [] (by omega) (by omega) (RL.nil _ _ _ _) (by decide)).mono fun e w' ⟨a', c', he, _, hb⟩ => ⟨a', c', he, hb⟩

theorem aw_h18 (w : World) (a : Option Addr) (c : Nat) (h : RL .bool w a 18 c (b0.take 18)) :
    Calls Try.prog 24 #[.slice a 18 c] w fun e w' => e = .returned (.tuple #[.int .i64 0, .bool false]) ∧ Below w.heap.size w w' :=
  fhead_none w a 18 c _ h (by omega) (bo_take F0 good0 18 (by decide))

theorem aw_h19 (w : World) (a : Option Addr) (c : Nat) (h : RL .bool w a 19 c (b0.take 19)) :
    Calls Try.prog 24 #[.slice a 19 c] w fun e w' => e = .returned (.tuple #[.int .i64 42, .bool true]) ∧ Below w.heap.size w w' := by
  have e := bo_from F0 good0 []
  rw [List.append_nil] at e
  obtain ⟨h1, _, h3⟩ := he_head F0 good0 []
  rw [← e] at h1 h3
  have := fhead_any w a 19 c _ h (by omega) h1
  rw [show hdN (b0.take 19) = 42 from h3] at this
  exact this

theorem aw_parse (w : World) (a : Option Addr) (c : Nat) (h : RL .bool w a 42 c b0) :
    Calls Try.prog 26 #[.slice a 42 c] w fun e w' => ∃ a' c', e = .returned (.tuple #[.agg #[.int .u32 291, .bool false, .bool false, .int .u8 1, .slice a' 1 c'], .int .i64 0]) ∧ RL bv w' a' 1 c' [170] ∧ Below w.heap.size w w' := by
  obtain ⟨h1, h2, h3, h4, _⟩ := bo_all F0 good0
  have := parse_ok w a 42 c b0 h h1 h2
  rw [show reF b0 = ⟨291, false, false, 1, []⟩ from h3, show paD b0 = [170] from h4] at this
  exact this

theorem aw_same (w : World) (a : Option Addr) (a2 : Option Addr) (c2 : Nat) (h : RL bv w a 1 1 [170]) (h2 : RL bv w a2 1 c2 [170]) :
    Calls Try.prog 28 #[.agg #[.int .u32 291, .bool false, .bool false, .int .u8 1, .slice a 1 1], .agg #[.int .u32 291, .bool false, .bool false, .int .u8 1, .slice a2 1 c2]] w fun e w' => e = .returned (.bool true) ∧ Below w.heap.size w w' := by
  have := sameFrame_any w 291 false false 1 a 1 1 [170] 291 false false 1 a2 1 c2 [170] h h2
  rw [decide_eq_true rfl] at this
  exact this

theorem aw_right (w : World) : Calls Try.prog 13 #[.agg #[.int .u32 2048, .bool false, .bool false, .int .u8 0, .slice none 0 0]] w fun e w' => e = .returned (.bool false) ∧ Below w.heap.size w w' := by
  have := frRight_any w 2048 false false 0 none 0 0 (by omega) (by omega)
  rw [show riF 2048 false false 0 0 = false from by decide] at this
  exact this

theorem aw_before1 (w : World) : Calls Try.prog 17 #[.agg #[.int .u32 1, .bool false, .bool false, .int .u8 0, .slice none 0 0], .agg #[.int .u32 2, .bool false, .bool false, .int .u8 0, .slice none 0 0]] w fun e w' => e = .returned (.bool true) ∧ Below w.heap.size w w' := by
  have := before_any w 1 false false 0 none 0 0 2 false false 0 none 0 0 (by omega) (by omega) (by omega) (by omega)
  rw [show (riF 1 false false 0 0 && riF 2 false false 0 0 && bfL (conL 1 false false) (conL 2 false false)) = true from by decide +kernel] at this
  exact this

theorem aw_before2 (w : World) : Calls Try.prog 17 #[.agg #[.int .u32 1, .bool false, .bool false, .int .u8 0, .slice none 0 0], .agg #[.int .u32 262144, .bool true, .bool false, .int .u8 0, .slice none 0 0]] w fun e w' => e = .returned (.bool true) ∧ Below w.heap.size w w' := by
  have := before_any w 1 false false 0 none 0 0 262144 true false 0 none 0 0 (by omega) (by omega) (by omega) (by omega)
  rw [show (riF 1 false false 0 0 && riF 262144 true false 0 0 && bfL (conL 1 false false) (conL 262144 true false)) = true from by decide +kernel] at this
  exact this

theorem aw_text (w : World) (a : Option Addr) (c : Nat) (h : RL .bool w a 27 c (b0.take 27)) :
    Calls Try.prog 31 #[.slice a 27 c] w fun e w' => e = .returned (.string ⟨#[100, 100, 100, 114, 100, 100, 114, 100, 100, 100, 114, 114, 100, 100, 100, 100, 100, 100, 114, 114, 100, 114, 100, 114, 100, 114, 100]⟩) ∧ w = w' := by
  have := text_any w a 27 c _ h (by omega)
  rw [b0_text] at this
  exact this

theorem lit170 (w : World) : RL bv (w.alloc (.cells #[.int .u8 170] 5)) (some ⟨w.heap.size, 0, none⟩) 1 1 [170] := (ol_lit bv 5 w.heap.size w [170] #[.int .u8 170] 1 rfl rfl (by omega) (Nat.le_refl _)).rl

theorem awake4_any (w : World) :
    Calls Try.prog 10 #[] w fun e w' => e = .returned (.bool true) ∧ Below w.heap.size w w' := by
  have gg2 : Below w.heap.size w ((w.alloc (.cells #[.int .u8 170] 5)).alloc (.cells #[.int .u32 291, .bool false, .bool false, .int .u8 1, .slice (some ⟨w.heap.size, 0, none⟩) 1 1] 25)) := bnew (bnew0 _ _) _
  have hd0 := (lit170 w).below (bnew0 _ (.cells #[.int .u32 291, .bool false, .bool false, .int .u8 1, .slice (some ⟨w.heap.size, 0, none⟩) 1 1] 25))
  have hb0 := heap_alloc_new (w.alloc (.cells #[.int .u8 170] 5)) (.cells #[.int .u32 291, .bool false, .bool false, .int .u8 1, .slice (some ⟨w.heap.size, 0, none⟩) 1 1] 25)
  rw [heap_size_alloc] at hb0
  obtain ⟨w0, hw0⟩ : ∃ w0, w0 = ((w.alloc (.cells #[.int .u8 170] 5)).alloc (.cells #[.int .u32 291, .bool false, .bool false, .int .u8 1, .slice (some ⟨w.heap.size, 0, none⟩) 1 1] 25)) := ⟨_, rfl⟩
  rw [← hw0] at gg2 hd0 hb0
  have HW := hid hw0.symm; clear hw0
  go_enter Try.func10, Try.ntmps10
  go_wp2_with (first
    | (go_at_call 19; rw [HW.out]; (with_reducible refine (aw_body0 w0 _ hd0).mono ?_); rintro e w1 ⟨a1, c1, rfl, hol1, g1⟩; have hr1 := hol1.rl; obtain ⟨a2, p1, p2, hr2⟩ := run_to tB hr1 .i64 27 27 rfl (by omega); obtain ⟨a3, p3, p4, hr3⟩ := run_to tB hr1 .i64 18 18 rfl (by omega); obtain ⟨a4, p5, p6, hr4⟩ := run_to tB hr1 .i64 19 19 rfl (by omega))
    | (go_at_call 31; (with_reducible refine (aw_text w1 a2 c1 hr2).mono ?_); rintro e w2 ⟨rfl, rfl⟩)
    | (go_at_call 24; (with_reducible refine (aw_h18 w1 a3 c1 hr3).mono ?_); rintro e w3 ⟨rfl, g3⟩)
    | (go_at_call 24; (with_reducible refine (aw_h19 w3 a4 c1 (hr4.below g3)).mono ?_); rintro e w4 ⟨rfl, g4⟩)
    | (go_at_call 19; (with_reducible refine (aw_body1 w4).mono ?_); rintro e w5 ⟨a5, c5, rfl, g5⟩; have g15 := bstep (bstep g3 g4) g5)
    | (go_at_call 26; (with_reducible refine (aw_parse w5 a1 c1 (hr1.below g15)).mono ?_); rintro e w6 ⟨a6, c6, rfl, hr6, g6⟩; have g26 := bstep (bstep g1 g15) g6; have gg7 := bnew (bstep gg2 g26) (.cells #[.int .u32 291, .bool false, .bool false, .int .u8 1, .slice a6 1 c6] 25); have g07 := bnew g26 (.cells #[.int .u32 291, .bool false, .bool false, .int .u8 1, .slice a6 1 c6] 25); obtain ⟨q0, q1, q2, q3, q4⟩ := bx5 (bx_below hb0 g07); have hr6' := hr6.below (bnew0 w6 (.cells #[.int .u32 291, .bool false, .bool false, .int .u8 1, .slice a6 1 c6] 25)))
    | (go_at_call 28; (with_reducible refine (aw_same _ _ a6 c6 (hd0.below g07) hr6').mono ?_); rintro e w8 ⟨rfl, g8⟩)
    | (go_at_call 13; (with_reducible refine (aw_right w8).mono ?_); rintro e w9 ⟨rfl, g9⟩)
    | (go_at_call 17; (with_reducible refine (aw_before1 w9).mono ?_); rintro e w10 ⟨rfl, g10⟩)
    | (go_at_call 17; (with_reducible refine (aw_before2 w10).mono ?_); rintro e w11 ⟨rfl, g11⟩))
  go_ret
  exact ⟨rfl, bstep (bstep (bstep (bstep gg7 g8) g9) g10) g11⟩
end Go.Proofs.Ytcgpdldccfpjgaa
