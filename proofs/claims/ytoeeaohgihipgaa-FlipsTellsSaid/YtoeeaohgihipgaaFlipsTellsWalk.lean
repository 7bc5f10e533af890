/-
  FlipsTells, walked: which lists are right, what is made of one, masks, windows, and what is sampled, is as the document's own answers say.
-/
import Derived.Test.YtoeeaohgihipgaaB5q
namespace Go.Proofs.Ytoeeaohgihipgaa
open Go.RowKit Go.Sort
set_option linter.unusedVariables false

theorem sor_mkO (l : List Fl) : Sor (mkO l) := by
  unfold mkO; split
  · exact sor_mkL l
  · exact Sor.nil
theorem allF_mkO (l : List Fl) : AllF (mkO l) := by
  unfold mkO; split
  · exact allF_mkL ((allF_iff l).2 (by assumption))
  · simp [AllF]
theorem mkO_length (l : List Fl) : (mkO l).length ≤ l.length := by
  unfold mkO; split
  · exact mkL_length l
  · simp

theorem woL_length (l : List Fl) (j : Nat) : (woL l j).length ≤ l.length := List.length_filter_le _ _

set_option maxRecDepth 100000 in
set_option maxHeartbeats 4000000 in
theorem flipsTells_walk (w : World) (a : Option Addr) (n c : Nat) (l : List Fl) (t wd : Int) (bit : Bool) (mk j : Nat) (h : RK fe 2 w a n c l) (hu : ∀ x ∈ l, x.2 < 256) (ht : -9223372036854775808 ≤ t ∧ t ≤ 9223372036854775807) (hwd : -9223372036854775808 ≤ wd ∧ wd ≤ 9223372036854775807) (hm : mk < 4294967296) (hj : j < 256) (hn : n ≤ 9223372036854775807) :
    Calls Try.prog 3 #[.slice a n c, .int .i64 t, .int .i64 wd, .bool bit, .int .u32 (mk : Int), .int .u8 (j : Int)] w fun e w' => e = .returned (.bool true) ∧ Below w.heap.size w w' := by
  clear hu ht hwd
  by_cases hbig : 200 < n
  · go_enter Try.func3, Try.ntmps3
    go_wp2_with (first | (go_at_call 8; with_reducible refine (awake_any w).mono ?_; rintro e w1 ⟨rfl, g1⟩))
    go_ret
    exact ⟨rfl, g1⟩
  · have hn200 : n ≤ 200 := by omega
    have hs := hid (sor_mkO l)
    have hf := hid (allF_mkO l)
    have hlen := mkO_length l
    rw [h.len] at hlen
    have HM := hid (fun w => make_any w a n c l)
    have HM2 := hid (fun w => refMake_any w a n c l)
    obtain ⟨x, hx⟩ : ∃ x, x = mkO l := ⟨_, rfl⟩
    obtain ⟨E, hE⟩ : ∃ E, E = mkE l := ⟨_, rfl⟩
    rw [← hx] at hs hf hlen HM HM2
    rw [← hE] at HM HM2
    clear hx hE
    have HR := hid (fun w => right_any w a n c l)
    have HR2 := hid (fun w => refRight_any w a n c l)
    generalize rightB l = rb at HR HR2
    have HT := hid (fun w => turn_any w bit mk j)
    have HT2 := hid (fun w => refTurn_any w bit mk j)
    generalize turnB bit mk j = tb at HT HT2
    go_enter Try.func3, Try.ntmps3
    go_wp2_with (first
      | (go_at_call 9; with_reducible refine (HM.out w h (by omega)).mono ?_; rintro e w1 ⟨a1, m1, c1, rfl, ho1, g1⟩; have hr1 := ho1.rk eF; have hm1 : m1 ≤ 1000000 := (by have := ho1.len; omega); clear ho1)
      | (go_at_call 10; with_reducible refine (HM2.out w1 (h.below g1) (by omega)).mono ?_; rintro e w2 ⟨a2, m2, c2, rfl, ho2, g2⟩; have hr2 := ho2.rk eF; have hr1 := hr1.below g2; have g2 := bstep g1 g2; clear ho2 g1)
      | (go_at_call 11; with_reducible refine (HR.out w2 (h.below g2) (by omega)).mono ?_; rintro e w3 ⟨rfl, g3⟩; have hr1 := hr1.below g3; have hr2 := hr2.below g3; have g3 := bstep g2 g3; clear g2)
      | (go_at_call 12; with_reducible refine (HR2.out w3 (h.below g3) (by omega)).mono ?_; rintro e w4 ⟨rfl, g4⟩; have hr1 := hr1.below g4; have hr2 := hr2.below g4; have g4 := bstep g3 g4; clear g3)
      | (go_at_call 13; with_reducible refine (lists_any w4 a1 m1 c1 x a2 m2 c2 x hr1 hr2 hm1).mono ?_; rw [decide_eq_true rfl]; rintro e w5 ⟨rfl, g5⟩; have hr1 := hr1.below g5; have g5 := bstep g4 g5; clear g4 hr2)
      | (go_at_call 14; with_reducible refine (HT.out w5 hm hj).mono ?_; rintro e w' ⟨rfl, rfl⟩)
      | (go_at_call 15; with_reducible refine (HT2.out w5 hm hj).mono ?_; rintro e w' ⟨rfl, rfl⟩)
      | (go_at_call 16; with_reducible refine (mask_any w5 a1 m1 c1 x t hr1 hm1 hs.out hf.out).mono ?_; rintro e w6 ⟨rfl, g6⟩; have hr1 := hr1.below g6; have g6 := bstep g5 g6; clear g5)
      | (go_at_call 17; with_reducible refine (refMask_any w6 a1 m1 c1 x t hr1 hm1 hs.out hf.out).mono ?_; rintro e w' ⟨rfl, rfl⟩)
      | (go_at_call 18; with_reducible refine (most_any w6 a1 m1 c1 x wd hr1 hm1 hs.out hf.out).mono ?_; rintro e w7 ⟨q1, rfl, hq1, _, g7⟩; have HQ1 := hid hq1; clear hq1; have hr1 := hr1.below g7; have g7 := bstep g6 g7; clear g6)
      | (go_at_call 19; with_reducible refine (refMost_any w7 a1 m1 c1 x wd hr1 hm1 hs.out hf.out).mono ?_; rintro e w8 ⟨q2, rfl, hq2, g8⟩; obtain rfl := isMost_unique hq2 HQ1.out; clear hq2; have hr1 := hr1.below g8; have g8 := bstep g7 g8; clear g7)
      | (go_at_call 20; with_reducible refine (without_any w8 a1 m1 c1 x j hr1 hm1 hj).mono ?_; rintro e w9 ⟨a3, m3, c3, rfl, ho3, g9⟩; have hr3 := ho3.rk eF; have hm3 : m3 ≤ 1000000 := (by have := ho3.len; have h2 := woL_length x j; omega); clear ho3; have hr1 := hr1.below g9; have g9 := bstep g8 g9; clear g8)
      | (go_at_call 21; with_reducible refine (refWithout_any w9 a1 m1 c1 x j hr1 hm1 hj).mono ?_; rintro e w10 ⟨a4, m4, c4, rfl, ho4, g10⟩; have hr4 := ho4.rk eF; clear ho4; have hr3 := hr3.below g10; have g10 := bstep g9 g10; clear g9)
      | (go_at_call 13; with_reducible refine (lists_any w10 a3 m3 c3 _ a4 m4 c4 _ hr3 hr4 hm3).mono ?_; rw [decide_eq_true rfl]; rintro e w11 ⟨rfl, g11⟩; have g11 := bstep g10 g11; clear g10)
      | (go_at_call 8; with_reducible refine (awake_any w11).mono ?_; rintro e w12 ⟨rfl, g12⟩; have g12 := bstep g11 g12; clear g11))
    go_ret
    exact ⟨rfl, g12⟩
end Go.Proofs.Ytoeeaohgihipgaa
