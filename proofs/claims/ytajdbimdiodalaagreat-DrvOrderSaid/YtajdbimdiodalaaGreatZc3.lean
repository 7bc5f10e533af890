/-
  Texts of this place, put together: B7b, B7e, B7f, M7b, M8, Open, Open4, B10. What stands here is used by the statement; conditions: none of their own.
-/
import Derived.Test.YtajdbimdiodalaaGreatZc2
import Derived.Lib.SliceRun
import Derived.Laws.EntriesVeiled
import Derived.Lib.SmallJoins
import Derived.Deep.SlicePairs
namespace Go.Proofs.YtajdbimdiodalaaGreat
open Go.RowKit Go.Sort
set_option linter.unusedVariables false

def F0 : Fr := ⟨291, false, false, 1, [170]⟩
def b0 : List Bool := boL F0
end Go.Proofs.YtajdbimdiodalaaGreat

namespace Go.Proofs.YtajdbimdiodalaaGreat
open Go.RowKit Go.Sort
set_option linter.unusedVariables false

end Go.Proofs.YtajdbimdiodalaaGreat

namespace Go.Proofs.YtajdbimdiodalaaGreat
open Go.RowKit Go.Sort
set_option linter.unusedVariables false

def hdU (l : List Bool) : Nat := if hdK l then hdN l else 0
def paU (l : List Bool) : Fr := if paK l && decide (suV l = 0#15) then ⟨(reF l).id, (reF l).ext, (reF l).rem, (reF l).dlc, paD l⟩ else ⟨0, false, false, 0, []⟩
def peU (l : List Bool) : Int := if paK l then (if suV l = 0#15 then 0 else 42) else 41

theorem wiL_length (f : Fr) : (wiL f).length = (putL (boL f)).length + 10 := by unfold wiL; simp

theorem fhead_U (w : World) (a : Option Addr) (n c : Nat) (l : List Bool) (h : RL .bool w a n c l) (hn : n ≤ 100000) :
    Calls Tryz.prog 205 #[.slice a n c] w fun e w' => e = .returned (.tuple #[.int .i64 (hdU l : Int), .bool (hdK l)]) ∧ Below w.heap.size w w' := by
  unfold hdU
  cases hk : hdK l
  · exact fhead_none w a n c l h (by omega) hk
  · exact fhead_any w a n c l h (by omega) hk

theorem paD_length (l : List Bool) (h : paK l = true) : (paD l).length = lonF (reF l).rem (reF l).dlc := by
  obtain ⟨_, _, h3⟩ := paK_parts h
  unfold paD
  refine byL_done ?_
  rw [h3]; unfold hdN; omega

theorem parse_U (w : World) (a : Option Addr) (n c : Nat) (l : List Bool) (h : RL .bool w a n c l) (hn : n ≤ 100000) :
    Calls Tryz.prog 187 #[.slice a n c] w fun e w' => ∃ a' c', e = .returned (.tuple #[.agg #[.int .u32 ((paU l).id : Int), .bool (paU l).ext, .bool (paU l).rem, .int .u8 ((paU l).dlc : Int), .slice a' (paU l).data.length c'], .int .i64 (peU l)]) ∧ RL bv w' a' (paU l).data.length c' (paU l).data ∧ Below w.heap.size w w' := by
  unfold paU peU
  cases hk : paK l
  · exact (parse_bits w a n c l h (by omega) hk).mono fun e w' ⟨he, hb⟩ => ⟨none, 0, he, RL.nil _ _ _ _, hb⟩
  · by_cases hs : suV l = 0#15
    · simp only [hs, decide_true, Bool.and_true, if_true]
      rw [paD_length l hk]
      exact parse_ok w a n c l h hk hs
    · simp only [hs, decide_false, Bool.and_false, if_false, if_true, Bool.false_eq_true]
      exact (parse_crc w a n c l h hk hs).mono fun e w' ⟨he, hb⟩ => ⟨none, 0, he, RL.nil _ _ _ _, hb⟩

/-- The same, of memory that is new. -/
theorem parse_W (w : World) (a : Option Addr) (n c : Nat) (l : List Bool) (h : RL .bool w a n c l) (hn : n ≤ 100000) :
    Calls Tryz.prog 187 #[.slice a n c] w fun e w' => ∃ a' c', e = .returned (.tuple #[.agg #[.int .u32 ((paU l).id : Int), .bool (paU l).ext, .bool (paU l).rem, .int .u8 ((paU l).dlc : Int), .slice a' (paU l).data.length c'], .int .i64 (peU l)]) ∧ OL bv 5 w.heap.size w' a' (paU l).data.length c' (paU l).data ∧ Below w.heap.size w w' := by
  unfold paU peU
  cases hk : paK l
  · exact (parse_bits w a n c l h (by omega) hk).mono fun e w' ⟨he, hb⟩ => ⟨none, 0, he, OL.nil _ _ _ _, hb⟩
  · by_cases hs : suV l = 0#15
    · simp only [hs, decide_true, Bool.and_true, if_true]
      rw [paD_length l hk]
      exact parse_own w a n c l h hk hs
    · simp only [hs, decide_false, Bool.and_false, if_false, if_true, Bool.false_eq_true]
      exact (parse_crc w a n c l h hk hs).mono fun e w' ⟨he, hb⟩ => ⟨none, 0, he, OL.nil _ _ _ _, hb⟩

end Go.Proofs.YtajdbimdiodalaaGreat

namespace Go.Proofs.YtajdbimdiodalaaGreat
open Go.RowKit
set_option linter.unusedVariables false

theorem over_any (w : World) (b : Bool) (m : Nat) (a : Option Addr) (n c : Nat) (p : Int) (fi : Bool) (q : Int) :
    Calls Tryz.prog 211 #[.agg #[.bool b, .int .u8 (m : Int), .slice a n c, .int .u8 p, .bool fi], .int .u8 q] w fun e w' => e = .returned (.tuple #[.agg #[.bool b, .int .u8 (m : Int), .slice a n c, .int .u8 11, .bool fi], .int .u8 q]) ∧ Below w.heap.size w w' := by
  go_enter Tryz.func211, Tryz.ntmps211
  go_wp2
  exact bodyPost_ret (v := .tuple #[.agg #[.bool b, .int .u8 (m : Int), .slice a n c, .int .u8 11, .bool fi], .int .u8 q]) (by simp [results, Tryz.results211, go_sem]) rfl ⟨rfl, bnew (bnew0 _ _) _⟩

theorem onward_any (w : World) (b : Bool) (m : Nat) (a : Option Addr) (n c : Nat) (p : Int) (fi : Bool) (q p1 : Int) (hp : p1 = p + 1) (h11 : 0 ≤ p ∧ p1 ≤ 11) :
    Calls Tryz.prog 213 #[.agg #[.bool b, .int .u8 (m : Int), .slice a n c, .int .u8 p, .bool fi], .int .u8 q] w fun e w' => e = .returned (.tuple #[.agg #[.bool b, .int .u8 (m : Int), .slice a n c, .int .u8 p1, .bool fi], .int .u8 q]) ∧ Below w.heap.size w w' := by
  have HP := hid hp; clear hp
  have hpi : p + 1 ≤ 11 := by have := HP.out; omega
  have hp0 := h11.1
  go_enter Tryz.func213, Tryz.ntmps213
  go_wp2
  have e : (p + 1) = p1 := by have := HP.out; omega
  rw [← e]
  exact bodyPost_ret (v := .tuple #[.agg #[.bool b, .int .u8 (m : Int), .slice a n c, .int .u8 (p + 1), .bool fi], .int .u8 q]) (by simp [results, Tryz.results213, go_sem]) rfl ⟨rfl, bnew (bnew0 _ _) _⟩

theorem due_any (w : World) (b : Bool) (m : Nat) (a : Option Addr) (n c : Nat) (p : Int) (fi : Bool) (hm : m < 256) :
    Calls Tryz.prog 186 #[.agg #[.bool b, .int .u8 (m : Int), .slice a n c, .int .u8 p, .bool fi]] w fun e w' => e = .returned (.bool (decide (m = 5))) ∧ Below w.heap.size w w' := by
  go_enter Tryz.func186, Tryz.ntmps186
  go_wp2_with (go_at_call 172; (with_reducible refine (owed_any _ b m hm).mono ?_); rintro e w1 ⟨rfl, g1⟩; have gg1 := bstep (bnew0 w _) g1)
  go_ret
  exact ⟨rfl, gg1⟩

theorem complete_any (w : World) (a : Option Addr) (n c : Nat) (l : List Bool) (h : RL .bool w a n c l) (hn : n ≤ 100000) :
    Calls Tryz.prog 212 #[.slice a n c] w fun e w' => e = .returned (.bool (cmpL l)) ∧ Below w.heap.size w w' := by
  have hc := fun w1 h1 => fhead_U w1 a n c l h1 hn
  have hr : Hid (cmpL l = (hdK l && decide ((n : Int) = (hdU l : Int)))) := by
    show _ = _
    unfold cmpL hdU
    rw [h.len]
    cases hdK l
    · rfl
    · simp only [Bool.true_and, if_true, decide_eq_decide]; omega
  generalize cmpL l = r at hr
  generalize hdU l = N at hc hr
  cases hk : hdK l
  all_goals
    rw [hk] at hc hr
    clear hk
    go_enter Tryz.func212, Tryz.ntmps212
    go_wp2_with (go_at_call 205; (with_reducible refine (hc _ h).mono ?_); rintro e w1 ⟨rfl, g1⟩)
    go_ret
    refine ⟨ret_bool ?_, g1⟩
    rw [hr.out]
    first | rfl | (rw [Bool.eq_iff_iff]; simp)
end Go.Proofs.YtajdbimdiodalaaGreat

namespace Go.Proofs.YtajdbimdiodalaaGreat
open Go.RowKit
set_option linter.unusedVariables false

theorem below7 {B g : Nat} {w w1 : World} (h : Below B w w1) (hg : B ≤ g) (v0 v1 v2 v3 v4 : Value) : Below B w (((((w1.setCell ⟨g, 0, none⟩ v0).setCell ⟨g, 1, none⟩ v1).setCell ⟨g, 2, none⟩ v2).setCell ⟨g, 3, none⟩ v3).setCell ⟨g, 4, none⟩ v4) :=
  ((((h.setCell hg _).setCell hg _).setCell hg _).setCell hg _).setCell hg _

theorem atFixed_any (w : World) (b : Bool) (m : Nat) (a : Option Addr) (n c : Nat) (p p1 : Int) (fi x : Bool) (hp : p1 = p + 1) (h11 : 0 ≤ p ∧ p1 ≤ 11) :
    Calls Tryz.prog 195 #[.agg #[.bool b, .int .u8 (m : Int), .slice a n c, .int .u8 p, .bool fi], .bool x] w fun e w' => e = .returned (.tuple #[.agg #[.bool b, .int .u8 (m : Int), .slice a n c, .int .u8 (if x then p1 else 11), .bool fi], .int .u8 (if x then 0 else 2)]) ∧ Below w.heap.size w w' := by
  have ho := fun w1 => onward_any w1 b m a n c p fi 0 p1 hp h11
  have hv := fun w1 => over_any w1 b m a n c p fi 2
  clear hp
  cases x
  · simp only [Bool.false_eq_true, if_false]
    go_enter Tryz.func195, Tryz.ntmps195
    go_wp2_with (go_at_call 211; (with_reducible refine (hv _).mono ?_); rintro e w1 ⟨rfl, g1⟩; obtain ⟨h0, h1, gg1⟩ := two_bx g1; obtain ⟨c0, c1, c2, c3, c4⟩ := bx5 h1; have f0 := bx_thaw h1)
    exact bodyPost_ret (v := .tuple #[.agg #[.bool b, .int .u8 (m : Int), .slice a n c, .int .u8 11, .bool fi], .int .u8 2]) (by simp [results, Tryz.results195, go_sem, c0, c1, c2, c3, c4]) rfl ⟨rfl, below7 gg1 (by omega) _ _ _ _ _⟩
  · simp only [if_true]
    go_enter Tryz.func195, Tryz.ntmps195
    go_wp2_with (go_at_call 213; (with_reducible refine (ho _).mono ?_); rintro e w1 ⟨rfl, g1⟩; obtain ⟨h0, h1, gg1⟩ := two_bx g1; obtain ⟨c0, c1, c2, c3, c4⟩ := bx5 h1; have f0 := bx_thaw h1)
    exact bodyPost_ret (v := .tuple #[.agg #[.bool b, .int .u8 (m : Int), .slice a n c, .int .u8 p1, .bool fi], .int .u8 0]) (by simp [results, Tryz.results195, go_sem, c0, c1, c2, c3, c4]) rfl ⟨rfl, below7 gg1 (by omega) _ _ _ _ _⟩

theorem atAck_any (w : World) (b : Bool) (m : Nat) (a : Option Addr) (n c : Nat) (fi x : Bool) :
    Calls Tryz.prog 196 #[.agg #[.bool b, .int .u8 (m : Int), .slice a n c, .int .u8 2, .bool fi], .bool x] w fun e w' => e = .returned (.tuple #[.agg #[.bool b, .int .u8 (m : Int), .slice a n c, .int .u8 3, .bool fi], .int .u8 0]) ∧ Below w.heap.size w w' := by
  have ho := fun w1 => onward_any w1 b m a n c 2 fi 0 3 (by omega) (by omega)
  go_enter Tryz.func196, Tryz.ntmps196
  go_wp2_with (go_at_call 213; (with_reducible refine (ho _).mono ?_); rintro e w1 ⟨rfl, g1⟩; obtain ⟨h0, h1, gg1⟩ := two_bx g1; obtain ⟨c0, c1, c2, c3, c4⟩ := bx5 h1; have f0 := bx_thaw h1)
  exact bodyPost_ret (v := .tuple #[.agg #[.bool b, .int .u8 (m : Int), .slice a n c, .int .u8 3, .bool fi], .int .u8 0]) (by simp [results, Tryz.results196, go_sem, c0, c1, c2, c3, c4]) rfl ⟨rfl, below7 gg1 (by omega) _ _ _ _ _⟩

theorem atDone_any (w : World) (b : Bool) (m : Nat) (a : Option Addr) (n c : Nat) (fi x : Bool) :
    Calls Tryz.prog 197 #[.agg #[.bool b, .int .u8 (m : Int), .slice a n c, .int .u8 3, .bool fi], .bool x] w fun e w' => e = .returned (.tuple #[.agg #[.bool b, .int .u8 (m : Int), .slice a n c, .int .u8 (if x && fi then 4 else 11), .bool fi], .int .u8 (if x then (if fi then 0 else 3) else 2)]) ∧ Below w.heap.size w w' := by
  have hf := fun w1 => atFixed_any w1 b m a n c 3 4 fi x (by omega) (by omega)
  have hv := fun w1 => over_any w1 b m a n c 3 fi 3
  cases x
  · simp only [Bool.false_eq_true, if_false, Bool.false_and] at hf ⊢
    go_enter Tryz.func197, Tryz.ntmps197
    go_wp2_with (go_at_call 195; (with_reducible refine (hf _).mono ?_); rintro e w1 ⟨rfl, g1⟩; obtain ⟨h0, h1, gg1⟩ := two_bx g1; obtain ⟨c0, c1, c2, c3, c4⟩ := bx5 h1; have f0 := bx_thaw h1)
    exact bodyPost_ret (v := .tuple #[.agg #[.bool b, .int .u8 (m : Int), .slice a n c, .int .u8 11, .bool fi], .int .u8 2]) (by simp [results, Tryz.results197, go_sem, c0, c1, c2, c3, c4]) rfl ⟨rfl, below7 gg1 (by omega) _ _ _ _ _⟩
  · cases fi
    · simp only [Bool.false_eq_true, if_false, if_true, Bool.and_false] at hf ⊢
      go_enter Tryz.func197, Tryz.ntmps197
      go_wp2_with (go_at_call 211; (with_reducible refine (hv _).mono ?_); rintro e w1 ⟨rfl, g1⟩; obtain ⟨h0, h1, gg1⟩ := two_bx g1; obtain ⟨c0, c1, c2, c3, c4⟩ := bx5 h1; have f0 := bx_thaw h1)
      exact bodyPost_ret (v := .tuple #[.agg #[.bool b, .int .u8 (m : Int), .slice a n c, .int .u8 11, .bool false], .int .u8 3]) (by simp [results, Tryz.results197, go_sem, c0, c1, c2, c3, c4]) rfl ⟨rfl, below7 gg1 (by omega) _ _ _ _ _⟩
    · simp only [if_true, Bool.and_true] at hf ⊢
      go_enter Tryz.func197, Tryz.ntmps197
      go_wp2_with (go_at_call 195; (with_reducible refine (hf _).mono ?_); rintro e w1 ⟨rfl, g1⟩; obtain ⟨h0, h1, gg1⟩ := two_bx g1; obtain ⟨c0, c1, c2, c3, c4⟩ := bx5 h1; have f0 := bx_thaw h1)
      exact bodyPost_ret (v := .tuple #[.agg #[.bool b, .int .u8 (m : Int), .slice a n c, .int .u8 4, .bool true], .int .u8 0]) (by simp [results, Tryz.results197, go_sem, c0, c1, c2, c3, c4]) rfl ⟨rfl, below7 gg1 (by omega) _ _ _ _ _⟩

theorem atEnd_any (w : World) (b : Bool) (m : Nat) (a : Option Addr) (n c : Nat) (p p1 : Int) (fi x : Bool) (hp : p1 = p + 1) (h11 : 4 ≤ p ∧ p ≤ 9) :
    Calls Tryz.prog 198 #[.agg #[.bool b, .int .u8 (m : Int), .slice a n c, .int .u8 p, .bool fi], .bool x] w fun e w' => e = .returned (.tuple #[.agg #[.bool b, .int .u8 (m : Int), .slice a n c, .int .u8 (if x then p1 else 11), .bool fi], .int .u8 (if x then (if p = 9 then 4 else 0) else 2)]) ∧ Below w.heap.size w w' := by
  have hf := fun w1 => atFixed_any w1 b m a n c p p1 fi x hp (by omega)
  have ho := fun w1 => onward_any w1 b m a n c p fi 4 p1 hp (by omega)
  have HP := hid hp; clear hp
  cases x
  · simp only [Bool.false_eq_true, if_false] at hf ⊢
    go_enter Tryz.func198, Tryz.ntmps198
    go_wp2_with (go_at_call 195; (with_reducible refine (hf _).mono ?_); rintro e w1 ⟨rfl, g1⟩; obtain ⟨h0, h1, gg1⟩ := two_bx g1; obtain ⟨c0, c1, c2, c3, c4⟩ := bx5 h1; have f0 := bx_thaw h1)
    exact bodyPost_ret (v := .tuple #[.agg #[.bool b, .int .u8 (m : Int), .slice a n c, .int .u8 11, .bool fi], .int .u8 2]) (by simp [results, Tryz.results198, go_sem, c0, c1, c2, c3, c4]) rfl ⟨rfl, below7 gg1 (by omega) _ _ _ _ _⟩
  · simp only [if_true] at hf ⊢
    by_cases h9 : p = 9
    · subst h9
      simp only [if_true]
      clear h11
      go_enter Tryz.func198, Tryz.ntmps198
      go_wp2_with (go_at_call 213; (with_reducible refine (ho _).mono ?_); rintro e w1 ⟨rfl, g1⟩; obtain ⟨h0, h1, gg1⟩ := two_bx g1; obtain ⟨c0, c1, c2, c3, c4⟩ := bx5 h1; have f0 := bx_thaw h1)
      exact bodyPost_ret (v := .tuple #[.agg #[.bool b, .int .u8 (m : Int), .slice a n c, .int .u8 p1, .bool fi], .int .u8 4]) (by simp [results, Tryz.results198, go_sem, c0, c1, c2, c3, c4]) rfl ⟨rfl, below7 gg1 (by omega) _ _ _ _ _⟩
    · rw [if_neg h9]
      go_enter Tryz.func198, Tryz.ntmps198
      go_wp2_with (go_at_call 195; (with_reducible refine (hf _).mono ?_); rintro e w1 ⟨rfl, g1⟩; obtain ⟨h0, h1, gg1⟩ := two_bx g1; obtain ⟨c0, c1, c2, c3, c4⟩ := bx5 h1; have f0 := bx_thaw h1)
      exact bodyPost_ret (v := .tuple #[.agg #[.bool b, .int .u8 (m : Int), .slice a n c, .int .u8 p1, .bool fi], .int .u8 0]) (by simp [results, Tryz.results198, go_sem, c0, c1, c2, c3, c4]) rfl ⟨rfl, below7 gg1 (by omega) _ _ _ _ _⟩

theorem atLast_any (w : World) (b : Bool) (m : Nat) (a : Option Addr) (n c : Nat) (fi x : Bool) :
    Calls Tryz.prog 199 #[.agg #[.bool b, .int .u8 (m : Int), .slice a n c, .int .u8 10, .bool fi], .bool x] w fun e w' => e = .returned (.tuple #[.agg #[.bool b, .int .u8 (m : Int), .slice a n c, .int .u8 11, .bool fi], .int .u8 (if x then 6 else 5)]) ∧ Below w.heap.size w w' := by
  have ho := fun w1 => onward_any w1 b m a n c 10 fi 5 11 (by omega) (by omega)
  have hv := fun w1 => onward_any w1 b m a n c 10 fi 6 11 (by omega) (by omega)
  cases x
  · simp only [Bool.false_eq_true, if_false]
    go_enter Tryz.func199, Tryz.ntmps199
    go_wp2_with (go_at_call 213; (with_reducible refine (ho _).mono ?_); rintro e w1 ⟨rfl, g1⟩; obtain ⟨h0, h1, gg1⟩ := two_bx g1; obtain ⟨c0, c1, c2, c3, c4⟩ := bx5 h1; have f0 := bx_thaw h1)
    exact bodyPost_ret (v := .tuple #[.agg #[.bool b, .int .u8 (m : Int), .slice a n c, .int .u8 11, .bool fi], .int .u8 5]) (by simp [results, Tryz.results199, go_sem, c0, c1, c2, c3, c4]) rfl ⟨rfl, below7 gg1 (by omega) _ _ _ _ _⟩
  · simp only [if_true]
    go_enter Tryz.func199, Tryz.ntmps199
    go_wp2_with (go_at_call 213; (with_reducible refine (hv _).mono ?_); rintro e w1 ⟨rfl, g1⟩; obtain ⟨h0, h1, gg1⟩ := two_bx g1; obtain ⟨c0, c1, c2, c3, c4⟩ := bx5 h1; have f0 := bx_thaw h1)
    exact bodyPost_ret (v := .tuple #[.agg #[.bool b, .int .u8 (m : Int), .slice a n c, .int .u8 11, .bool fi], .int .u8 6]) (by simp [results, Tryz.results199, go_sem, c0, c1, c2, c3, c4]) rfl ⟨rfl, below7 gg1 (by omega) _ _ _ _ _⟩
end Go.Proofs.YtajdbimdiodalaaGreat

namespace Go.Proofs.YtajdbimdiodalaaGreat
open Go.RowKit
set_option linter.unusedVariables false

/-- The state's box, the result's, the run's, and the row that grows, all in one. -/
structure In7 (B g : Nat) (w wr : World) (q : Nat) (t r u : Array Value) (a : Option Addr) (n c : Nat) (l : List Bool) : Prop where
  t : wr.heap[g]? = some (.cells t 40 (0, 0))
  r : wr.heap[g + 1]? = some (.cells r 40 (0, 0))
  u : wr.heap[q]? = some (.cells u 38 (0, 0))
  own : OL .bool 4 B wr a n c l
  bel : Below B w wr
  hq : g + 1 < q
  hB : B ≤ g
  nt : NB a g
  nr : NB a (g + 1)
  nu : NB a q

section
variable {B g q : Nat} {w wr w2 : World} {t r u t' : Array Value} {a a2 : Option Addr} {n c n2 c2 : Nat} {l l2 : List Bool}

theorem In7.size (h : In7 B g w wr q t r u a n c l) : B ≤ wr.heap.size := by have := bx_lt h.t; have := h.hB; omega

theorem In7.call (h : In7 B g w wr q t r u a n c l) (gg : Below wr.heap.size wr w2) : In7 B g w w2 q t r u a n c l :=
  ⟨bx_below h.t gg, bx_below h.r gg, bx_below h.u gg, h.own.below gg, h.bel.trans (gg.mono h.size), h.hq, h.hB, h.nt, h.nr, h.nu⟩

theorem In7.alloc (h : In7 B g w wr q t r u a n c l) (o : Obj) : In7 B g w (wr.alloc o) q t r u a n c l :=
  ⟨bx_alloc _ h.t, bx_alloc _ h.r, bx_alloc _ h.u, h.own.alloc _, h.bel.alloc h.size _, h.hq, h.hB, h.nt, h.nr, h.nu⟩

theorem In7.set (h : In7 B g w wr q t r u a n c l) (i : Nat) (v : Value) : In7 B g w (wr.setCell ⟨g, i, none⟩ v) q (t.setIfInBounds i v) r u a n c l :=
  ⟨heap_setCell_same wr g i _ _ v h.t, by rw [heap_setCell_other _ _ _ _ (by simp)]; exact h.r, by rw [heap_setCell_other _ _ _ _ (by have := h.hq; simp; omega)]; exact h.u,
   h.own.kept fun k hk => heap_setCell_other _ _ _ _ (by subst hk; exact h.nt.block), h.bel.setCell h.hB _, h.hq, h.hB, h.nt, h.nr, h.nu⟩

theorem In7.app (h : In7 B g w wr q t r u a n c l) (ho : OL .bool 4 B w2 a2 n2 c2 l2) (gg : Below B wr w2) (hk : ∀ k, k < wr.heap.size → NB a k → w2.heap[k]? = wr.heap[k]? ∧ NB a2 k) : In7 B g w w2 q t r u a2 n2 c2 l2 :=
  ⟨((hk g (bx_lt h.t) h.nt).1).trans h.t, ((hk _ (bx_lt h.r) h.nr).1).trans h.r, ((hk _ (bx_lt h.u) h.nu).1).trans h.u, ho, h.bel.trans gg, h.hq, h.hB, (hk g (bx_lt h.t) h.nt).2, (hk _ (bx_lt h.r) h.nr).2, (hk _ (bx_lt h.u) h.nu).2⟩

theorem In7.fin (h : In7 B g w wr q t r u a n c l) (v0 v1 v2 v3 v4 : Value) : OL .bool 4 B (((((wr.setCell ⟨g + 1, 0, none⟩ v0).setCell ⟨g + 1, 1, none⟩ v1).setCell ⟨g + 1, 2, none⟩ v2).setCell ⟨g + 1, 3, none⟩ v3).setCell ⟨g + 1, 4, none⟩ v4) a n c l ∧
    Below B w (((((wr.setCell ⟨g + 1, 0, none⟩ v0).setCell ⟨g + 1, 1, none⟩ v1).setCell ⟨g + 1, 2, none⟩ v2).setCell ⟨g + 1, 3, none⟩ v3).setCell ⟨g + 1, 4, none⟩ v4) := by
  refine ⟨h.own.kept fun k hk => ?_, below7 h.bel (by have := h.hB; omega) _ _ _ _ _⟩
  have hn : k ≠ g + 1 := by subst hk; exact h.nr.block
  rw [heap_setCell_other _ _ _ _ hn, heap_setCell_other _ _ _ _ hn, heap_setCell_other _ _ _ _ hn, heap_setCell_other _ _ _ _ hn, heap_setCell_other _ _ _ _ hn]
end

theorem nb_lt {B : Nat} {w : World} {a : Option Addr} {n c : Nat} {l : List Bool} (h : OL .bool 4 B w a n c l) {k : Nat} (hk : w.heap.size ≤ k) : NB a k := fun q hq => by
  have := (h.ltB hq).1; omega

theorem boxed5 (w : World) (E : TypeId) (v0 v1 v2 v3 v4 u0 u1 u2 u3 u4 : Value) : ∃ w0, Hid ((w.alloc (.cells #[v0, v1, v2, v3, v4] E)).alloc (.cells #[u0, u1, u2, u3, u4] E) = w0) ∧ w0.heap[w.heap.size]? = some (.cells #[v0, v1, v2, v3, v4] E (0, 0)) ∧ w0.heap[w.heap.size + 1]? = some (.cells #[u0, u1, u2, u3, u4] E (0, 0)) ∧ Below w.heap.size w w0 := by
  refine ⟨_, rfl, bx_alloc _ (heap_alloc_new _ _), ?_, bnew (bnew0 _ _) _⟩
  have := heap_alloc_new (w.alloc (.cells #[v0, v1, v2, v3, v4] E)) (.cells #[u0, u1, u2, u3, u4] E)
  simpa using this

theorem lit7 (w1 : World) (o : Obj) (x : Bool) : RL .bool ((w1.alloc o).alloc (.cells #[.bool x] 4)) (some ⟨w1.heap.size + 1, 0, none⟩) 1 1 [x] := by
  have := (ol_lit Value.bool 4 0 (w1.alloc o) [x] _ 1 rfl rfl (by omega) (Nat.zero_le _)).rl
  rw [heap_size_alloc] at this
  exact this

theorem In7.start {B : Nat} {w w0 w1 : World} {t r : Array Value} {a : Option Addr} {n c : Nat} {l : List Bool} (hol : OL .bool 4 B w a n c l) (hB : B ≤ w.heap.size) (ht : w0.heap[w.heap.size]? = some (.cells t 40 (0, 0)))
    (hr : w0.heap[w.heap.size + 1]? = some (.cells r 40 (0, 0))) (hb0 : Below w.heap.size w w0) (g1 : Below w0.heap.size w0 w1) (u : Array Value) : In7 B w.heap.size w (w1.alloc (.cells u 38)) w1.heap.size t r u a n c l := by
  have hs := bx_lt (bx_below hr g1)
  exact ⟨bx_alloc _ (bx_below ht g1), bx_alloc _ (bx_below hr g1), heap_alloc_new _ _, ((hol.below hb0).below g1).alloc _, ((hb0.trans (g1.mono hb0.size)).mono hB).alloc (by omega) _, by omega, hB, nb_lt hol (Nat.le_refl _), nb_lt hol (by omega), nb_lt hol (by omega)⟩

set_option maxHeartbeats 1000000 in
theorem inBody_wrong (B : Nat) (w : World) (b : Bool) (m : Nat) (a : Option Addr) (n c : Nat) (l : List Bool) (fi x : Bool) (hol : OL .bool 4 B w a n c l) (hB : B ≤ w.heap.size) (hr : rightA b m) (hk : (nxt b m x).2 = 2) :
    Calls Tryz.prog 194 #[.agg #[.bool b, .int .u8 (m : Int), .slice a n c, .int .u8 0, .bool fi], .bool x] w fun e w' => e = .returned (.tuple #[.agg #[.bool b, .int .u8 (m : Int), .slice a n c, .int .u8 11, .bool fi], .int .u8 1]) ∧ OL .bool 4 B w' a n c l ∧ Below B w w' := by
  have hv := fun w1 => over_any w1 b m a n c 0 fi 1
  have hn := fun w1 => next_any w1 b m x hr
  generalize nxt b m x = N at hn hk
  obtain ⟨⟨b1, m1⟩, kd⟩ := N
  dsimp only at hn hk
  subst hk
  have hn' : ∀ (w1 : World), Calls Tryz.prog 204 #[.agg #[.bool b, .int .u8 (m : Int)], .bool x] w1 fun e w' => e = .returned (.tuple #[.agg #[.bool b1, .int .u8 (m1 : Int)], .int .u8 2]) ∧ Below w1.heap.size w1 w' := hn
  clear hn
  obtain ⟨w0, hw0, ht, hrr, hb0⟩ := boxed5 w 40 (.bool b) (.int .u8 (m : Int)) (.slice a n c) (.int .u8 0) (.bool fi) (.bool false) (.int .u8 0) (.slice none 0 0) (.int .u8 0) (.bool false)
  obtain ⟨c0, c1, c2, c3, c4⟩ := bx5 ht
  go_enter Tryz.func194, Tryz.ntmps194
  go_wp2_with (first
    | (go_at_call 204; rw [hw0.out]; (with_reducible refine (hn' _).mono ?_); rintro e w1 ⟨rfl, g1⟩; clear c0 c1 c2 c3 c4; have hI := In7.start hol hB ht hrr hb0 g1 #[.bool b1, .int .u8 (m1 : Int)]; obtain ⟨c0, c1, c2, c3, c4⟩ := bx5 hI.t)
    | (go_at_call 211; (with_reducible refine (hv _).mono ?_); rintro e w2 ⟨rfl, g2⟩; clear c0 c1 c2 c3 c4; have hJ := hI.call g2; obtain ⟨c0, c1, c2, c3, c4⟩ := bx5 hJ.r; have f0 := bx_thaw hJ.r))
  exact bodyPost_ret (v := .tuple #[.agg #[.bool b, .int .u8 (m : Int), .slice a n c, .int .u8 11, .bool fi], .int .u8 1]) (by simp [results, Tryz.results194, go_sem, c0, c1, c2, c3, c4]) rfl ⟨rfl, hJ.fin _ _ _ _ _⟩
end Go.Proofs.YtajdbimdiodalaaGreat

namespace Go.Proofs.YtajdbimdiodalaaGreat
open Go.RowKit
set_option linter.unusedVariables false

set_option maxHeartbeats 2000000 in
theorem inBody_stuff (B : Nat) (w : World) (b : Bool) (m : Nat) (a : Option Addr) (n c : Nat) (l : List Bool) (fi x : Bool) (hol : OL .bool 4 B w a n c l) (hB : B ≤ w.heap.size) (hn1 : n ≤ 10000) (hr : rightA b m) (hk : (nxt b m x).2 = 1) :
    Calls Tryz.prog 194 #[.agg #[.bool b, .int .u8 (m : Int), .slice a n c, .int .u8 0, .bool fi], .bool x] w fun e w' => ∃ a' c', e = .returned (.tuple #[.agg #[.bool (nxt b m x).1.1, .int .u8 ((nxt b m x).1.2 : Int), .slice a' n c', .int .u8 (if (cmpL l && !decide ((nxt b m x).1.2 = 5)) = true then 1 else 0), .bool fi], .int .u8 0]) ∧ OL .bool 4 B w' a' n c' l ∧ Below B w w' := by
  have hn := fun w1 => next_any w1 b m x hr
  have hm1 := (nxt_right (x := x) hr).1.1
  generalize nxt b m x = N at hn hk hm1
  obtain ⟨⟨b1, m1⟩, kd⟩ := N
  dsimp only at hn hk hm1
  subst hk
  have hn' : ∀ (w1 : World), Calls Tryz.prog 204 #[.agg #[.bool b, .int .u8 (m : Int)], .bool x] w1 fun e w' => e = .returned (.tuple #[.agg #[.bool b1, .int .u8 (m1 : Int)], .int .u8 1]) ∧ Below w1.heap.size w1 w' := hn
  clear hn
  obtain ⟨w0, hw0, ht, hrr, hb0⟩ := boxed5 w 40 (.bool b) (.int .u8 (m : Int)) (.slice a n c) (.int .u8 0) (.bool fi) (.bool false) (.int .u8 0) (.slice none 0 0) (.int .u8 0) (.bool false)
  obtain ⟨c0, c1, c2, c3, c4⟩ := bx5 ht
  have hm256 : m1 < 256 := by omega
  have hdu := fun (w1 : World) (a1 : Option Addr) (c1 : Nat) => due_any w1 b1 m1 a1 n c1 0 fi hm256
  have hon := fun (w1 : World) (a1 : Option Addr) (c1 : Nat) => onward_any w1 b1 m1 a1 n c1 0 fi 0 1 rfl (by omega)
  clear hm1 hm256
  cases hcp : cmpL l
  · have hcm : ∀ (w1 : World) (a1 : Option Addr) (c1 : Nat), RL .bool w1 a1 n c1 l → Calls Tryz.prog 212 #[.slice a1 n c1] w1 fun e w' => e = .returned (.bool false) ∧ Below w1.heap.size w1 w' := fun w1 a1 c1 h => hcp ▸ complete_any w1 a1 n c1 l h (by omega)
    simp only [Bool.false_and, Bool.false_eq_true, if_false]
    clear hcp hdu hon
    go_enter Tryz.func194, Tryz.ntmps194
    go_wp2_with (first
      | (go_at_call 204; rw [hw0.out]; (with_reducible refine (hn' _).mono ?_); rintro e w1 ⟨rfl, g1⟩; clear c0 c1 c2 c3 c4; have hI := In7.start hol hB ht hrr hb0 g1 #[.bool b1, .int .u8 (m1 : Int)]; obtain ⟨c0, c1, c2, c3, c4⟩ := bx5 hI.t; obtain ⟨d0, d1, d2, d3⟩ := bx hI.u; have f0 := bx_thaw hI.t)
      | (go_at_call 212; have hK := (hI.set 0 (.bool b1)).set 1 (.int .u8 (m1 : Int)); (with_reducible refine (hcm _ _ _ hK.own.rl).mono ?_); rintro e w5 ⟨rfl, g5⟩; clear c0 c1 c2 c3 c4 f0; have hL := hK.call g5; obtain ⟨c0, c1, c2, c3, c4⟩ := bx5 hL.t; obtain ⟨r0, r1, r2, r3, r4⟩ := bx5 hL.r; have f0 := bx_thaw hL.r))
    exact bodyPost_ret (v := .tuple #[.agg #[.bool b1, .int .u8 (m1 : Int), .slice a n c, .int .u8 0, .bool fi], .int .u8 0]) (by simp [results, Tryz.results194, go_sem, r0, r1, r2, r3, r4]) rfl ⟨_, _, rfl, hL.fin _ _ _ _ _⟩
  · have hcm : ∀ (w1 : World) (a1 : Option Addr) (c1 : Nat), RL .bool w1 a1 n c1 l → Calls Tryz.prog 212 #[.slice a1 n c1] w1 fun e w' => e = .returned (.bool true) ∧ Below w1.heap.size w1 w' := fun w1 a1 c1 h => hcp ▸ complete_any w1 a1 n c1 l h (by omega)
    simp only [Bool.true_and]
    clear hcp
    by_cases h5 : m1 = 5
    · simp only [decide_eq_true h5] at hdu ⊢
      simp only [Bool.not_true, Bool.false_eq_true, if_false]
      clear hon h5
      go_enter Tryz.func194, Tryz.ntmps194
      go_wp2_with (first
        | (go_at_call 204; rw [hw0.out]; (with_reducible refine (hn' _).mono ?_); rintro e w1 ⟨rfl, g1⟩; clear c0 c1 c2 c3 c4; have hI := In7.start hol hB ht hrr hb0 g1 #[.bool b1, .int .u8 (m1 : Int)]; obtain ⟨c0, c1, c2, c3, c4⟩ := bx5 hI.t; obtain ⟨d0, d1, d2, d3⟩ := bx hI.u; have f0 := bx_thaw hI.t)
        | (go_at_call 212; have hK := (hI.set 0 (.bool b1)).set 1 (.int .u8 (m1 : Int)); (with_reducible refine (hcm _ _ _ hK.own.rl).mono ?_); rintro e w5 ⟨rfl, g5⟩; clear c0 c1 c2 c3 c4 f0; have hL := hK.call g5; obtain ⟨c0, c1, c2, c3, c4⟩ := bx5 hL.t; obtain ⟨r0, r1, r2, r3, r4⟩ := bx5 hL.r; have f0 := bx_thaw hL.r)
        | (go_at_call 186; (with_reducible refine (hdu _ _ _).mono ?_); rintro e w6 ⟨rfl, g6⟩; clear c0 c1 c2 c3 c4 f0 r0 r1 r2 r3 r4; have hM := hL.call g6; obtain ⟨c0, c1, c2, c3, c4⟩ := bx5 hM.t; obtain ⟨r0, r1, r2, r3, r4⟩ := bx5 hM.r; have f0 := bx_thaw hM.r))
      exact bodyPost_ret (v := .tuple #[.agg #[.bool b1, .int .u8 (m1 : Int), .slice a n c, .int .u8 0, .bool fi], .int .u8 0]) (by simp [results, Tryz.results194, go_sem, r0, r1, r2, r3, r4]) rfl ⟨_, _, rfl, hM.fin _ _ _ _ _⟩
    · simp only [decide_eq_false h5] at hdu ⊢
      simp only [Bool.not_false, if_true]
      clear h5
      go_enter Tryz.func194, Tryz.ntmps194
      go_wp2_with (first
        | (go_at_call 204; rw [hw0.out]; (with_reducible refine (hn' _).mono ?_); rintro e w1 ⟨rfl, g1⟩; clear c0 c1 c2 c3 c4; have hI := In7.start hol hB ht hrr hb0 g1 #[.bool b1, .int .u8 (m1 : Int)]; obtain ⟨c0, c1, c2, c3, c4⟩ := bx5 hI.t; obtain ⟨d0, d1, d2, d3⟩ := bx hI.u; have f0 := bx_thaw hI.t)
        | (go_at_call 212; have hK := (hI.set 0 (.bool b1)).set 1 (.int .u8 (m1 : Int)); (with_reducible refine (hcm _ _ _ hK.own.rl).mono ?_); rintro e w5 ⟨rfl, g5⟩; clear c0 c1 c2 c3 c4 f0; have hL := hK.call g5; obtain ⟨c0, c1, c2, c3, c4⟩ := bx5 hL.t; obtain ⟨r0, r1, r2, r3, r4⟩ := bx5 hL.r; have f0 := bx_thaw hL.r)
        | (go_at_call 186; (with_reducible refine (hdu _ _ _).mono ?_); rintro e w6 ⟨rfl, g6⟩; clear c0 c1 c2 c3 c4 f0 r0 r1 r2 r3 r4; have hM := hL.call g6; obtain ⟨c0, c1, c2, c3, c4⟩ := bx5 hM.t; obtain ⟨r0, r1, r2, r3, r4⟩ := bx5 hM.r; have f0 := bx_thaw hM.r)
        | (go_at_call 213; (with_reducible refine (hon _ _ _).mono ?_); rintro e w7 ⟨rfl, g7⟩; clear c0 c1 c2 c3 c4 f0 r0 r1 r2 r3 r4; have hO := hM.call g7; obtain ⟨c0, c1, c2, c3, c4⟩ := bx5 hO.r; have f0 := bx_thaw hO.r))
      exact bodyPost_ret (v := .tuple #[.agg #[.bool b1, .int .u8 (m1 : Int), .slice a n c, .int .u8 1, .bool fi], .int .u8 0]) (by simp [results, Tryz.results194, go_sem, c0, c1, c2, c3, c4]) rfl ⟨_, _, rfl, hO.fin _ _ _ _ _⟩

set_option maxHeartbeats 4000000 in
theorem inBody_plain (B : Nat) (w : World) (b : Bool) (m : Nat) (a : Option Addr) (n c : Nat) (l : List Bool) (fi x : Bool) (hol : OL .bool 4 B w a n c l) (hB : B ≤ w.heap.size) (hn1 : n ≤ 10000) (hr : rightA b m) (hk : (nxt b m x).2 = 0) :
    Calls Tryz.prog 194 #[.agg #[.bool b, .int .u8 (m : Int), .slice a n c, .int .u8 0, .bool fi], .bool x] w fun e w' => ∃ a' c', e = .returned (.tuple #[.agg #[.bool (nxt b m x).1.1, .int .u8 ((nxt b m x).1.2 : Int), .slice a' (n + 1) c', .int .u8 (if (cmpL (l ++ [x]) && !decide ((nxt b m x).1.2 = 5)) = true then 1 else 0), .bool (fitL (l ++ [x]))], .int .u8 0]) ∧ OL .bool 4 B w' a' (n + 1) c' (l ++ [x]) ∧ Below B w w' := by
  have hn := fun w1 => next_any w1 b m x hr
  have hm1 := (nxt_right (x := x) hr).1.1
  have hfit : Hid (fitL (l ++ [x]) = (peU (l ++ [x]) == 0)) := by
    show _ = _
    unfold fitL peU
    cases paK (l ++ [x])
    · rfl
    · by_cases hs : suV (l ++ [x]) = 0#15 <;> simp [hs]
  obtain ⟨fi', hfi'⟩ : ∃ fi', fi' = fitL (l ++ [x]) := ⟨_, rfl⟩
  rw [← hfi'] at hfit ⊢
  have hpa : ∀ (w1 : World) (a1 : Option Addr) (c1 : Nat), RL .bool w1 a1 (n + 1) c1 (l ++ [x]) → _ := fun w1 a1 c1 h => parse_U w1 a1 (n + 1) c1 (l ++ [x]) h (by omega)
  generalize peU (l ++ [x]) = pe at hpa hfit
  generalize paU (l ++ [x]) = pf at hpa
  obtain ⟨pid, pext, prem, pdlc, pdata⟩ := pf
  dsimp only at hpa
  generalize hlen : pdata.length = plen at hpa
  have hpe : (pe == 0) = fi' := hfit.out.symm
  replace hpa : ∀ (w1 : World) (a1 : Option Addr) (c1 : Nat), RL .bool w1 a1 (n + 1) c1 (l ++ [x]) → Calls Tryz.prog 187 #[.slice a1 (n + 1) c1] w1 fun e w' => ∃ a' c', e = .returned (.tuple #[.agg #[.int .u32 (pid : Int), .bool pext, .bool prem, .int .u8 (pdlc : Int), .slice a' plen c'], .int .i64 pe]) ∧ Below w1.heap.size w1 w' := fun w1 a1 c1 h => (hpa w1 a1 c1 h).mono fun e w' ⟨a', c', h1, _, h2⟩ => ⟨a', c', h1, h2⟩
  clear hlen hfit hfi'
  generalize nxt b m x = N at hn hk hm1
  obtain ⟨⟨b1, m1⟩, kd⟩ := N
  dsimp only at hn hk hm1
  subst hk
  have hn' : ∀ (w1 : World), Calls Tryz.prog 204 #[.agg #[.bool b, .int .u8 (m : Int)], .bool x] w1 fun e w' => e = .returned (.tuple #[.agg #[.bool b1, .int .u8 (m1 : Int)], .int .u8 0]) ∧ Below w1.heap.size w1 w' := hn
  clear hn
  obtain ⟨w0, hw0, ht, hrr, hb0⟩ := boxed5 w 40 (.bool b) (.int .u8 (m : Int)) (.slice a n c) (.int .u8 0) (.bool fi) (.bool false) (.int .u8 0) (.slice none 0 0) (.int .u8 0) (.bool false)
  obtain ⟨c0, c1, c2, c3, c4⟩ := bx5 ht
  have hm256 : m1 < 256 := by omega
  have hdu := fun (w1 : World) (a1 : Option Addr) (c1 : Nat) => due_any w1 b1 m1 a1 (n + 1) c1 0 fi' hm256
  have hon := fun (w1 : World) (a1 : Option Addr) (c1 : Nat) => onward_any w1 b1 m1 a1 (n + 1) c1 0 fi' 0 1 rfl (by omega)
  clear hm1 hm256
  cases hcp : cmpL (l ++ [x])
  · have hcm : ∀ (w1 : World) (a1 : Option Addr) (c1 : Nat), RL .bool w1 a1 (n + 1) c1 (l ++ [x]) → Calls Tryz.prog 212 #[.slice a1 (n + 1) c1] w1 fun e w' => e = .returned (.bool false) ∧ Below w1.heap.size w1 w' := fun w1 a1 c1 h => hcp ▸ complete_any w1 a1 (n + 1) c1 (l ++ [x]) h (by omega)
    simp only [Bool.false_and, Bool.false_eq_true, if_false]
    clear hcp hdu hon
    go_enter Tryz.func194, Tryz.ntmps194
    go_wp2_with (first
      | (go_at_call 204; rw [hw0.out]; (with_reducible refine (hn' _).mono ?_); rintro e w1 ⟨rfl, g1⟩; clear c0 c1 c2 c3 c4; have hI := In7.start hol hB ht hrr hb0 g1 #[.bool b1, .int .u8 (m1 : Int)]; obtain ⟨c0, c1, c2, c3, c4⟩ := bx5 hI.t; obtain ⟨d0, d1, d2, d3⟩ := bx hI.u; have f0 := bx_thaw hI.t)
      | (at_builtin; refine wpList_appg (f := Value.bool) tB rfl _ _ rfl rfl (hI.own.alloc _) rfl (lit7 _ _ _) (by omega) (fun _ => rfl) (by omega) (by omega) (by have := hI.size; simp only [heap_size_alloc] at this ⊢; omega) ?_; intro w3 a3 k3 hol3 hb3 hk3 hs3; clear c0 c1 c2 c3 c4 f0 d0 d1 d2 d3; have hA := (hI.alloc _).app hol3 hb3 hk3; obtain ⟨c0, c1, c2, c3, c4⟩ := bx5 hA.t; have f0 := bx_thaw hA.t; have hA2 := hA.set 2 (.slice a3 (n + 1) k3))
      | (go_at_call 187; (with_reducible refine (hpa _ _ _ hA2.own.rl).mono ?_); rintro e w4 ⟨pa4, pc4, rfl, g4⟩; clear c0 c1 c2 c3 c4 f0; have hP := (hA2.call g4).alloc (.cells #[.int .u32 (pid : Int), .bool pext, .bool prem, .int .u8 (pdlc : Int), .slice pa4 plen pc4] 35); have hP4 := hP.set 4 (.bool fi'); obtain ⟨c0, c1, c2, c3, c4⟩ := bx5 hP.t; obtain ⟨d0, d1, d2, d3⟩ := bx hP.u; have f0 := bx_thaw hP.t)
      | (go_at_call 212; have hK := (hP4.set 0 (.bool b1)).set 1 (.int .u8 (m1 : Int)); (with_reducible refine (hcm _ _ _ hK.own.rl).mono ?_); rintro e w5 ⟨rfl, g5⟩; clear c0 c1 c2 c3 c4 f0; have hL := hK.call g5; obtain ⟨c0, c1, c2, c3, c4⟩ := bx5 hL.t; obtain ⟨r0, r1, r2, r3, r4⟩ := bx5 hL.r; have f0 := bx_thaw hL.r))
    exact bodyPost_ret (v := .tuple #[.agg #[.bool b1, .int .u8 (m1 : Int), .slice a3 (n + 1) k3, .int .u8 0, .bool fi'], .int .u8 0]) (by simp [results, Tryz.results194, go_sem, r0, r1, r2, r3, r4]) rfl ⟨_, _, rfl, hL.fin _ _ _ _ _⟩
  · have hcm : ∀ (w1 : World) (a1 : Option Addr) (c1 : Nat), RL .bool w1 a1 (n + 1) c1 (l ++ [x]) → Calls Tryz.prog 212 #[.slice a1 (n + 1) c1] w1 fun e w' => e = .returned (.bool true) ∧ Below w1.heap.size w1 w' := fun w1 a1 c1 h => hcp ▸ complete_any w1 a1 (n + 1) c1 (l ++ [x]) h (by omega)
    simp only [Bool.true_and]
    clear hcp
    by_cases h5 : m1 = 5
    · simp only [decide_eq_true h5] at hdu ⊢
      simp only [Bool.not_true, Bool.false_eq_true, if_false]
      clear hon h5
      go_enter Tryz.func194, Tryz.ntmps194
      go_wp2_with (first
        | (go_at_call 204; rw [hw0.out]; (with_reducible refine (hn' _).mono ?_); rintro e w1 ⟨rfl, g1⟩; clear c0 c1 c2 c3 c4; have hI := In7.start hol hB ht hrr hb0 g1 #[.bool b1, .int .u8 (m1 : Int)]; obtain ⟨c0, c1, c2, c3, c4⟩ := bx5 hI.t; obtain ⟨d0, d1, d2, d3⟩ := bx hI.u; have f0 := bx_thaw hI.t)
        | (at_builtin; refine wpList_appg (f := Value.bool) tB rfl _ _ rfl rfl (hI.own.alloc _) rfl (lit7 _ _ _) (by omega) (fun _ => rfl) (by omega) (by omega) (by have := hI.size; simp only [heap_size_alloc] at this ⊢; omega) ?_; intro w3 a3 k3 hol3 hb3 hk3 hs3; clear c0 c1 c2 c3 c4 f0 d0 d1 d2 d3; have hA := (hI.alloc _).app hol3 hb3 hk3; obtain ⟨c0, c1, c2, c3, c4⟩ := bx5 hA.t; have f0 := bx_thaw hA.t; have hA2 := hA.set 2 (.slice a3 (n + 1) k3))
        | (go_at_call 187; (with_reducible refine (hpa _ _ _ hA2.own.rl).mono ?_); rintro e w4 ⟨pa4, pc4, rfl, g4⟩; clear c0 c1 c2 c3 c4 f0; have hP := (hA2.call g4).alloc (.cells #[.int .u32 (pid : Int), .bool pext, .bool prem, .int .u8 (pdlc : Int), .slice pa4 plen pc4] 35); have hP4 := hP.set 4 (.bool fi'); obtain ⟨c0, c1, c2, c3, c4⟩ := bx5 hP.t; obtain ⟨d0, d1, d2, d3⟩ := bx hP.u; have f0 := bx_thaw hP.t)
        | (go_at_call 212; have hK := (hP4.set 0 (.bool b1)).set 1 (.int .u8 (m1 : Int)); (with_reducible refine (hcm _ _ _ hK.own.rl).mono ?_); rintro e w5 ⟨rfl, g5⟩; clear c0 c1 c2 c3 c4 f0; have hL := hK.call g5; obtain ⟨c0, c1, c2, c3, c4⟩ := bx5 hL.t; obtain ⟨r0, r1, r2, r3, r4⟩ := bx5 hL.r; have f0 := bx_thaw hL.r)
        | (go_at_call 186; (with_reducible refine (hdu _ _ _).mono ?_); rintro e w6 ⟨rfl, g6⟩; clear c0 c1 c2 c3 c4 f0 r0 r1 r2 r3 r4; have hM := hL.call g6; obtain ⟨c0, c1, c2, c3, c4⟩ := bx5 hM.t; obtain ⟨r0, r1, r2, r3, r4⟩ := bx5 hM.r; have f0 := bx_thaw hM.r))
      exact bodyPost_ret (v := .tuple #[.agg #[.bool b1, .int .u8 (m1 : Int), .slice a3 (n + 1) k3, .int .u8 0, .bool fi'], .int .u8 0]) (by simp [results, Tryz.results194, go_sem, r0, r1, r2, r3, r4]) rfl ⟨_, _, rfl, hM.fin _ _ _ _ _⟩
    · simp only [decide_eq_false h5] at hdu ⊢
      simp only [Bool.not_false, if_true]
      clear h5
      go_enter Tryz.func194, Tryz.ntmps194
      go_wp2_with (first
        | (go_at_call 204; rw [hw0.out]; (with_reducible refine (hn' _).mono ?_); rintro e w1 ⟨rfl, g1⟩; clear c0 c1 c2 c3 c4; have hI := In7.start hol hB ht hrr hb0 g1 #[.bool b1, .int .u8 (m1 : Int)]; obtain ⟨c0, c1, c2, c3, c4⟩ := bx5 hI.t; obtain ⟨d0, d1, d2, d3⟩ := bx hI.u; have f0 := bx_thaw hI.t)
        | (at_builtin; refine wpList_appg (f := Value.bool) tB rfl _ _ rfl rfl (hI.own.alloc _) rfl (lit7 _ _ _) (by omega) (fun _ => rfl) (by omega) (by omega) (by have := hI.size; simp only [heap_size_alloc] at this ⊢; omega) ?_; intro w3 a3 k3 hol3 hb3 hk3 hs3; clear c0 c1 c2 c3 c4 f0 d0 d1 d2 d3; have hA := (hI.alloc _).app hol3 hb3 hk3; obtain ⟨c0, c1, c2, c3, c4⟩ := bx5 hA.t; have f0 := bx_thaw hA.t; have hA2 := hA.set 2 (.slice a3 (n + 1) k3))
        | (go_at_call 187; (with_reducible refine (hpa _ _ _ hA2.own.rl).mono ?_); rintro e w4 ⟨pa4, pc4, rfl, g4⟩; clear c0 c1 c2 c3 c4 f0; have hP := (hA2.call g4).alloc (.cells #[.int .u32 (pid : Int), .bool pext, .bool prem, .int .u8 (pdlc : Int), .slice pa4 plen pc4] 35); have hP4 := hP.set 4 (.bool fi'); obtain ⟨c0, c1, c2, c3, c4⟩ := bx5 hP.t; obtain ⟨d0, d1, d2, d3⟩ := bx hP.u; have f0 := bx_thaw hP.t)
        | (go_at_call 212; have hK := (hP4.set 0 (.bool b1)).set 1 (.int .u8 (m1 : Int)); (with_reducible refine (hcm _ _ _ hK.own.rl).mono ?_); rintro e w5 ⟨rfl, g5⟩; clear c0 c1 c2 c3 c4 f0; have hL := hK.call g5; obtain ⟨c0, c1, c2, c3, c4⟩ := bx5 hL.t; obtain ⟨r0, r1, r2, r3, r4⟩ := bx5 hL.r; have f0 := bx_thaw hL.r)
        | (go_at_call 186; (with_reducible refine (hdu _ _ _).mono ?_); rintro e w6 ⟨rfl, g6⟩; clear c0 c1 c2 c3 c4 f0 r0 r1 r2 r3 r4; have hM := hL.call g6; obtain ⟨c0, c1, c2, c3, c4⟩ := bx5 hM.t; obtain ⟨r0, r1, r2, r3, r4⟩ := bx5 hM.r; have f0 := bx_thaw hM.r)
        | (go_at_call 213; (with_reducible refine (hon _ _ _).mono ?_); rintro e w7 ⟨rfl, g7⟩; clear c0 c1 c2 c3 c4 f0 r0 r1 r2 r3 r4; have hO := hM.call g7; obtain ⟨c0, c1, c2, c3, c4⟩ := bx5 hO.r; have f0 := bx_thaw hO.r))
      exact bodyPost_ret (v := .tuple #[.agg #[.bool b1, .int .u8 (m1 : Int), .slice a3 (n + 1) k3, .int .u8 1, .bool fi'], .int .u8 0]) (by simp [results, Tryz.results194, go_sem, c0, c1, c2, c3, c4]) rfl ⟨_, _, rfl, hO.fin _ _ _ _ _⟩
end Go.Proofs.YtajdbimdiodalaaGreat

namespace Go.Proofs.YtajdbimdiodalaaGreat
open Go.RowKit
set_option linter.unusedVariables false

theorem clone7_any (w : World) (a : Option Addr) (n c : Nat) (l : List Bool) (h : RL .bool w a n c l) (hn : n ≤ 1000000) :
    Calls Tryz.prog 80 #[.slice a n c] w fun e w' => ∃ a' c', e = .returned (.slice a' n c') ∧ OL .bool 4 w.heap.size w' a' n c' l ∧ Below w.heap.size w w' := by
  have q22 : ∀ (w : World) (a : Option Addr) (n c n' c' : Nat), (binOp .eql 36 (.slice a n c) (.slice none n' c')).run Tryz.prog w = .ok (.bool a.isNone) w := fun w a n c n' c' => Lib.run_eql_slice_nil w _ _ a n c n' c' tB.und
  cases a with
  | none =>
    obtain rfl : n = 0 := by
      by_cases h0 : n = 0
      · exact h0
      · obtain ⟨b, off, e, _⟩ := h.cell (by omega); cases e
    obtain rfl : l = [] := List.eq_nil_of_length_eq_zero h.len
    go_enter Tryz.func80, Tryz.ntmps80
    go_wp2
    go_ret
    exact ⟨none, 0, rfl, OL.nil _ _ _ _, Below.refl _ _⟩
  | some ad =>
    have h1 := h.below (bnew0 w (.cells #[] 4))
    have ho := ol_lit Value.bool 4 w.heap.size w [] #[] 0 rfl rfl (by omega) (Nat.le_refl _)
    go_enter Tryz.func80, Tryz.ntmps80
    go_wp2_with (at_builtin; refine wpList_app (f := Value.bool) tB rfl _ _ rfl rfl ho rfl h1 (fun _ => rfl) (by omega) (by omega) (by simp) ?_; intro w10 a10 c10 hol10 hb10)
    go_ret
    rw [Nat.zero_add, List.nil_append] at hol10
    exact ⟨a10, c10, rfl, hol10, (bnew0 w _).trans hb10⟩

/-- The cells of the spans. -/
def spC : Array Value := #[.int .u8 0, .int .u8 0, .func (.func 194) #[] #[], .int .u8 1, .int .u8 1, .func (.func 195) #[] #[], .int .u8 2, .int .u8 2, .func (.func 196) #[] #[],
  .int .u8 3, .int .u8 3, .func (.func 197) #[] #[], .int .u8 4, .int .u8 9, .func (.func 198) #[] #[], .int .u8 10, .int .u8 10, .func (.func 199) #[] #[]]

theorem spans_any (w : World) :
    Calls Tryz.prog 182 #[] w fun e w' => e = .returned (.slice (some ⟨w.heap.size, 0, none⟩) 6 6) ∧ w'.heap[w.heap.size]? = some (.cells spC 232 (0, 0)) ∧ Below w.heap.size w w' := by
  go_enter Tryz.func182, Tryz.ntmps182
  go_wp2
  go_ret
  exact ⟨rfl, heap_alloc_new _ _, bnew0 _ _⟩

section
variable {s : Tk} {x : Bool}

theorem nx_two (h : s.p = 2) : nxT s x = (⟨s.b, s.m, s.l, 3, s.fi⟩, 0) := by unfold nxT; rw [if_neg (by omega), if_pos h]
theorem nx_ten (h : s.p = 10) : nxT s x = (⟨s.b, s.m, s.l, 11, s.fi⟩, if x then 6 else 5) := by unfold nxT; rw [if_neg (by omega), if_neg (by omega), if_pos h]
theorem nx_over (h : 10 < s.p) : nxT s x = (s, 6) := by unfold nxT; rw [if_neg (by omega), if_neg (by omega), if_neg (by omega), if_pos h]
theorem nx_dom (h0 : s.p ≠ 0) (h2 : s.p ≠ 2) (h10 : s.p < 10) : nxT s false = (⟨s.b, s.m, s.l, 11, s.fi⟩, 2) := by
  unfold nxT; rw [if_neg h0, if_neg h2, if_neg (by omega), if_neg (by omega), if_pos rfl]
theorem nx_bad (h : s.p = 3) (hf : s.fi = false) : nxT s true = (⟨s.b, s.m, s.l, 11, s.fi⟩, 3) := by
  unfold nxT; rw [if_neg (by omega), if_neg (by omega), if_neg (by omega), if_neg (by omega), if_neg (show ¬ (true = false) by simp), if_pos ⟨h, hf⟩]
theorem nx_on (h0 : s.p ≠ 0) (h2 : s.p ≠ 2) (h10 : s.p < 10) (hf : s.p = 3 → s.fi = true) : nxT s true = (⟨s.b, s.m, s.l, s.p + 1, s.fi⟩, if s.p = 9 then 4 else 0) := by
  unfold nxT; rw [if_neg h0, if_neg h2, if_neg (by omega), if_neg (by omega), if_neg (show ¬ (true = false) by simp), if_neg (fun h => by rw [hf h.1] at h; simp at h)]
end

/-- What a function that a bit leads to returns: the plain function's state and what it says. -/
def Lead (f : FuncId) (B : Nat) (s : Tk) (x : Bool) : Prop := ∀ (w : World) (a : Option Addr) (n c : Nat), n = s.l.length → OL .bool 4 B w a n c s.l → B ≤ w.heap.size →
    Calls Tryz.prog f #[.agg #[.bool s.b, .int .u8 (s.m : Int), .slice a n c, .int .u8 (s.p : Int), .bool s.fi], .bool x] w fun e w' => ∃ a' c',
      e = .returned (.tuple #[.agg #[.bool (nxT s x).1.b, .int .u8 ((nxT s x).1.m : Int), .slice a' (nxT s x).1.l.length c', .int .u8 ((nxT s x).1.p : Int), .bool (nxT s x).1.fi], .int .u8 ((nxT s x).2 : Int)]) ∧
      OL .bool 4 B w' a' (nxT s x).1.l.length c' (nxT s x).1.l ∧ Below B w w'

theorem lead_body (B : Nat) (s : Tk) (x : Bool) (hp : s.p = 0) (hl : s.l.length ≤ 10000) (hr : rightA s.b s.m) : Lead 194 B s x := by
  intro w a n c hn hol hB
  have h2 : (nxt s.b s.m x).2 = 0 ∨ (nxt s.b s.m x).2 = 1 ∨ (nxt s.b s.m x).2 = 2 := by
    unfold nxt; split <;> split <;> simp
  subst hn
  rw [hp]
  unfold nxT
  rw [if_pos hp]
  rcases h2 with h | h | h
  · rw [if_neg (by omega), if_neg (by omega)]
    refine (inBody_plain B w s.b s.m a _ c s.l s.fi x hol hB hl hr h).mono ?_
    rintro e w' ⟨a', c', rfl, ho, hb⟩
    dsimp only
    rw [List.length_append]
    refine ⟨a', c', ?_, ho, hb⟩
    split <;> rfl
  · rw [if_neg (by omega), if_pos h]
    refine (inBody_stuff B w s.b s.m a _ c s.l s.fi x hol hB hl hr h).mono ?_
    rintro e w' ⟨a', c', rfl, ho, hb⟩
    dsimp only
    refine ⟨a', c', ?_, ho, hb⟩
    split <;> rfl
  · rw [if_pos h]
    refine (inBody_wrong B w s.b s.m a _ c s.l s.fi x hol hB hr h).mono ?_
    rintro e w' ⟨rfl, ho, hb⟩
    exact ⟨a, c, rfl, ho, hb⟩

theorem lead_fixed (B : Nat) (s : Tk) (x : Bool) (hp : s.p = 1) : Lead 195 B s x := by
  intro w a n c hn hol hB
  subst hn
  rw [hp]
  refine (atFixed_any w s.b s.m a _ c 1 2 s.fi x rfl (by omega)).mono ?_
  rintro e w' ⟨rfl, hb⟩
  cases x
  · rw [nx_dom (by omega) (by omega) (by omega)]
    exact ⟨a, c, rfl, hol.below hb, hb.mono hB⟩
  · rw [nx_on (by omega) (by omega) (by omega) (by omega), hp]
    exact ⟨a, c, rfl, hol.below hb, hb.mono hB⟩

theorem lead_ack (B : Nat) (s : Tk) (x : Bool) (hp : s.p = 2) : Lead 196 B s x := by
  intro w a n c hn hol hB
  subst hn
  rw [hp]
  refine (atAck_any w s.b s.m a _ c s.fi x).mono ?_
  rintro e w' ⟨rfl, hb⟩
  rw [nx_two hp]
  exact ⟨a, c, rfl, hol.below hb, hb.mono hB⟩

theorem lead_done (B : Nat) (s : Tk) (x : Bool) (hp : s.p = 3) : Lead 197 B s x := by
  intro w a n c hn hol hB
  subst hn
  rw [hp]
  refine (atDone_any w s.b s.m a _ c s.fi x).mono ?_
  rintro e w' ⟨rfl, hb⟩
  cases x
  · rw [nx_dom (by omega) (by omega) (by omega)]
    exact ⟨a, c, rfl, hol.below hb, hb.mono hB⟩
  · cases hf : s.fi
    · rw [nx_bad hp hf, hf]
      exact ⟨a, c, rfl, hol.below hb, hb.mono hB⟩
    · rw [nx_on (by omega) (by omega) (by omega) (fun _ => hf), hp, hf]
      exact ⟨a, c, rfl, hol.below hb, hb.mono hB⟩

theorem lead_end (B : Nat) (s : Tk) (x : Bool) (hp : 4 ≤ s.p) (hp9 : s.p ≤ 9) : Lead 198 B s x := by
  intro w a n c hn hol hB
  subst hn
  refine (atEnd_any w s.b s.m a _ c (s.p : Int) ((s.p + 1 : Nat) : Int) s.fi x (by omega) (by omega)).mono ?_
  rintro e w' ⟨rfl, hb⟩
  cases x
  · rw [nx_dom (by omega) (by omega) (by omega)]
    exact ⟨a, c, rfl, hol.below hb, hb.mono hB⟩
  · rw [nx_on (by omega) (by omega) (by omega) (by omega)]
    refine ⟨a, c, ?_, hol.below hb, hb.mono hB⟩
    by_cases h9 : s.p = 9
    · rw [if_pos (show (s.p : Int) = 9 by omega), if_pos h9]; rfl
    · rw [if_neg (show ¬ (s.p : Int) = 9 by omega), if_neg h9]; rfl

theorem lead_last (B : Nat) (s : Tk) (x : Bool) (hp : s.p = 10) : Lead 199 B s x := by
  intro w a n c hn hol hB
  subst hn
  rw [hp]
  refine (atLast_any w s.b s.m a _ c s.fi x).mono ?_
  rintro e w' ⟨rfl, hb⟩
  rw [nx_ten hp]
  refine ⟨a, c, ?_, hol.below hb, hb.mono hB⟩
  cases x <;> rfl
end Go.Proofs.YtajdbimdiodalaaGreat

namespace Go.Proofs.YtajdbimdiodalaaGreat
open Go.RowKit
set_option linter.unusedVariables false

/-- The state's box, the result's, the spans, and the copy of the bits. -/
structure Nx (w wr : World) (gs : Nat) (t r : Array Value) (a : Option Addr) (n c : Nat) (l : List Bool) : Prop where
  t : wr.heap[w.heap.size]? = some (.cells t 40 (0, 0))
  r : wr.heap[w.heap.size + 1]? = some (.cells r 40 (0, 0))
  sp : wr.heap[gs]? = some (.cells spC 232 (0, 0))
  own : OL .bool 4 (w.heap.size + 2) wr a n c l
  bel : Below w.heap.size w wr

section
variable {w wr w2 : World} {gs : Nat} {t r : Array Value} {a a2 : Option Addr} {n c n2 c2 : Nat} {l l2 : List Bool}
theorem Nx.alloc (h : Nx w wr gs t r a n c l) (o : Obj) : Nx w (wr.alloc o) gs t r a n c l := ⟨bx_alloc _ h.t, bx_alloc _ h.r, bx_alloc _ h.sp, h.own.alloc _, bnew h.bel _⟩
theorem Nx.size (h : Nx w wr gs t r a n c l) : w.heap.size + 2 ≤ wr.heap.size := by have := bx_lt h.r; omega
theorem Nx.cells (h : Nx w wr gs t r a n c l) (i : Nat) (v : Value) (hv : spC[i]? = some v) : wr.cell? ⟨gs, i, none⟩ = some v := by rw [cell_of_row wr gs i _ _ _ h.sp]; exact hv
theorem Nx.lead (h : Nx w wr gs t r a n c l) (g : Below (w.heap.size + 2) wr w2) : w2.heap[w.heap.size + 1]? = some (.cells r 40 (0, 0)) ∧ Below w.heap.size w w2 :=
  ⟨by rw [g.block _ (by omega)]; exact h.r, h.bel.trans (g.mono (by omega))⟩
end

theorem nx_start {w w0 w1 w2 : World} {b : Bool} {m P : Value} {t : Array Value} {r : Array Value} {a1 : Option Addr} {n c1 : Nat} {l : List Bool} {v : Value} (ht : w0.heap[w.heap.size]? = some (.cells t 40 (0, 0))) (hr : w0.heap[w.heap.size + 1]? = some (.cells r 40 (0, 0)))
    (hb0 : Below w.heap.size w w0) (hs0 : w0.heap.size = w.heap.size + 2) (hol : OL .bool 4 w0.heap.size w1 a1 n c1 l) (g1 : Below w0.heap.size w0 w1)
    (hsp : w2.heap[(w1.setCell ⟨w.heap.size, 2, none⟩ v).heap.size]? = some (.cells spC 232 (0, 0))) (g2 : Below (w1.setCell ⟨w.heap.size, 2, none⟩ v).heap.size (w1.setCell ⟨w.heap.size, 2, none⟩ v) w2) :
    Nx w w2 w1.heap.size (t.setIfInBounds 2 v) r a1 n c1 l := by
  refine ⟨bx_below (heap_setCell_same w1 _ 2 _ _ v (bx_below ht g1)) g2, bx_below (by rw [heap_setCell_other _ _ _ _ (by simp)]; exact bx_below hr g1) g2, by simpa using hsp, ?_, ?_⟩
  · rw [hs0] at hol
    refine (hol.kept fun k hk => heap_setCell_other _ _ _ _ ?_).below g2
    have := (hol.ltB hk).2
    simp at this ⊢; omega
  · exact bstep ((hb0.trans (g1.mono hb0.size)).setCell (Nat.le_refl _) _) g2

theorem nx_fin {w wr : World} {a : Option Addr} {n c : Nat} {l : List Bool} (h : OL .bool 4 (w.heap.size + 2) wr a n c l) (v0 v1 v2 v3 v4 : Value) : OL .bool 4 w.heap.size (((((wr.setCell ⟨w.heap.size + 1, 0, none⟩ v0).setCell ⟨w.heap.size + 1, 1, none⟩ v1).setCell ⟨w.heap.size + 1, 2, none⟩ v2).setCell ⟨w.heap.size + 1, 3, none⟩ v3).setCell ⟨w.heap.size + 1, 4, none⟩ v4) a n c l := by
  refine (h.kept fun k hk => ?_).mono (by omega)
  have hn : k ≠ w.heap.size + 1 := by have := (h.ltB hk).2; simp at this; omega
  rw [heap_setCell_other _ _ _ _ hn, heap_setCell_other _ _ _ _ hn, heap_setCell_other _ _ _ _ hn, heap_setCell_other _ _ _ _ hn, heap_setCell_other _ _ _ _ hn]

/-- The first place that the span k and those behind it ask for. -/
def loI (k : Int) : Int := if k = 0 then 0 else if k = 1 then 1 else if k = 2 then 2 else if k = 3 then 3 else if k = 4 then 4 else if k = 5 then 10 else 11

set_option maxHeartbeats 4000000 in
theorem next7_core (w : World) (sb sf x rb rf : Bool) (sm : Nat) (P rm rp rd : Int) (hPb : 0 ≤ P ∧ P ≤ 255) (sl rl : List Bool) (N RN : Nat) (a : Option Addr) (c : Nat) (h : RL .bool w a N c sl) (HN : N ≤ 10000)
    (L0 : (0 : Int) ≤ P → P < 1 → ∀ (w1 : World) (a1 : Option Addr) (c1 : Nat), OL .bool 4 (w.heap.size + 2) w1 a1 N c1 sl → w.heap.size + 2 ≤ w1.heap.size → Calls Tryz.prog 194 #[.agg #[.bool sb, .int .u8 (sm : Int), .slice a1 N c1, .int .u8 P, .bool sf], .bool x] w1 fun e w' => ∃ a' c', e = .returned (.tuple #[.agg #[.bool rb, .int .u8 rm, .slice a' RN c', .int .u8 rp, .bool rf], .int .u8 rd]) ∧ OL .bool 4 (w.heap.size + 2) w' a' RN c' rl ∧ Below (w.heap.size + 2) w1 w')
    (L1 : (1 : Int) ≤ P → P < 2 → ∀ (w1 : World) (a1 : Option Addr) (c1 : Nat), OL .bool 4 (w.heap.size + 2) w1 a1 N c1 sl → w.heap.size + 2 ≤ w1.heap.size → Calls Tryz.prog 195 #[.agg #[.bool sb, .int .u8 (sm : Int), .slice a1 N c1, .int .u8 P, .bool sf], .bool x] w1 fun e w' => ∃ a' c', e = .returned (.tuple #[.agg #[.bool rb, .int .u8 rm, .slice a' RN c', .int .u8 rp, .bool rf], .int .u8 rd]) ∧ OL .bool 4 (w.heap.size + 2) w' a' RN c' rl ∧ Below (w.heap.size + 2) w1 w')
    (L2 : (2 : Int) ≤ P → P < 3 → ∀ (w1 : World) (a1 : Option Addr) (c1 : Nat), OL .bool 4 (w.heap.size + 2) w1 a1 N c1 sl → w.heap.size + 2 ≤ w1.heap.size → Calls Tryz.prog 196 #[.agg #[.bool sb, .int .u8 (sm : Int), .slice a1 N c1, .int .u8 P, .bool sf], .bool x] w1 fun e w' => ∃ a' c', e = .returned (.tuple #[.agg #[.bool rb, .int .u8 rm, .slice a' RN c', .int .u8 rp, .bool rf], .int .u8 rd]) ∧ OL .bool 4 (w.heap.size + 2) w' a' RN c' rl ∧ Below (w.heap.size + 2) w1 w')
    (L3 : (3 : Int) ≤ P → P < 4 → ∀ (w1 : World) (a1 : Option Addr) (c1 : Nat), OL .bool 4 (w.heap.size + 2) w1 a1 N c1 sl → w.heap.size + 2 ≤ w1.heap.size → Calls Tryz.prog 197 #[.agg #[.bool sb, .int .u8 (sm : Int), .slice a1 N c1, .int .u8 P, .bool sf], .bool x] w1 fun e w' => ∃ a' c', e = .returned (.tuple #[.agg #[.bool rb, .int .u8 rm, .slice a' RN c', .int .u8 rp, .bool rf], .int .u8 rd]) ∧ OL .bool 4 (w.heap.size + 2) w' a' RN c' rl ∧ Below (w.heap.size + 2) w1 w')
    (L4 : (4 : Int) ≤ P → P < 10 → ∀ (w1 : World) (a1 : Option Addr) (c1 : Nat), OL .bool 4 (w.heap.size + 2) w1 a1 N c1 sl → w.heap.size + 2 ≤ w1.heap.size → Calls Tryz.prog 198 #[.agg #[.bool sb, .int .u8 (sm : Int), .slice a1 N c1, .int .u8 P, .bool sf], .bool x] w1 fun e w' => ∃ a' c', e = .returned (.tuple #[.agg #[.bool rb, .int .u8 rm, .slice a' RN c', .int .u8 rp, .bool rf], .int .u8 rd]) ∧ OL .bool 4 (w.heap.size + 2) w' a' RN c' rl ∧ Below (w.heap.size + 2) w1 w')
    (L5 : (10 : Int) ≤ P → P < 11 → ∀ (w1 : World) (a1 : Option Addr) (c1 : Nat), OL .bool 4 (w.heap.size + 2) w1 a1 N c1 sl → w.heap.size + 2 ≤ w1.heap.size → Calls Tryz.prog 199 #[.agg #[.bool sb, .int .u8 (sm : Int), .slice a1 N c1, .int .u8 P, .bool sf], .bool x] w1 fun e w' => ∃ a' c', e = .returned (.tuple #[.agg #[.bool rb, .int .u8 rm, .slice a' RN c', .int .u8 rp, .bool rf], .int .u8 rd]) ∧ OL .bool 4 (w.heap.size + 2) w' a' RN c' rl ∧ Below (w.heap.size + 2) w1 w')
    (HOV : Hid (11 ≤ P → rb = sb ∧ rm = (sm : Int) ∧ rl = sl ∧ RN = N ∧ rp = P ∧ rf = sf ∧ rd = 6)) :
    Calls Tryz.prog 165 #[.agg #[.bool sb, .int .u8 (sm : Int), .slice a N c, .int .u8 P, .bool sf], .bool x] w fun e w' => ∃ a' c',
      e = .returned (.tuple #[.agg #[.bool rb, .int .u8 rm, .slice a' RN c', .int .u8 rp, .bool rf], .int .u8 rd]) ∧ OL .bool 4 w.heap.size w' a' RN c' rl ∧ Below w.heap.size w w' := by
  obtain ⟨w0, hw0, ht, hrr, hb0⟩ := boxed5 w 40 (.bool sb) (.int .u8 (sm : Int)) (.slice a N c) (.int .u8 P) (.bool sf) (.bool false) (.int .u8 0) (.slice none 0 0) (.int .u8 0) (.bool false)
  have hs0 : w0.heap.size = w.heap.size + 2 := by rw [← hw0.out]; simp
  have HS0 := hid hs0; clear hs0
  obtain ⟨c0, c1, c2, c3, c4⟩ := bx5 ht
  have h0 := h.below hb0
  go_enter Tryz.func165, Tryz.ntmps165
  go_wp2_with (first
    | (go_at_call 80; rw [hw0.out]; (with_reducible refine (clone7_any _ _ _ _ _ h0 (by omega)).mono ?_); rintro e w1 ⟨a1, k1, rfl, hol1, g1⟩; clear c0 c1 c2 c3 c4; have ht1 := bx_below ht g1; obtain ⟨c0, c1, c2, c3, c4⟩ := bx5 ht1; have f0 := bx_thaw ht1)
    | (go_at_call 182; (with_reducible refine (spans_any _).mono ?_); rintro e w2 ⟨rfl, hsp2, g2⟩; clear c0 c1 c2 c3 c4 f0; have hX : Nx w w2 w1.heap.size _ _ a1 N k1 sl := nx_start (b := true) (m := .bool true) (P := .bool true) ht hrr hb0 HS0.out hol1 g1 hsp2 g2))
  obtain ⟨gs, hgs⟩ : ∃ gs, gs = w1.heap.size := ⟨_, rfl⟩
  rw [← hgs] at hX
  simp only [← hgs]
  clear hgs ht hrr hb0 hol1 g1 hsp2 g2 hw0 h0 h ht1
  go_loopw [14] (fun i wr => ∃ k : Int, 0 ≤ k ∧ k ≤ 6 ∧ i = .int .i64 k ∧ loI k ≤ P ∧ Nx w wr gs #[.bool sb, .int .u8 (sm : Int), .slice a1 N k1, .int .u8 P, .bool sf] #[.bool false, .int .u8 0, .slice none 0 0, .int .u8 0, .bool false] a1 N k1 sl) (fun i _ => 6 - (intOf i).toNat)
  case atStart => exact ⟨0, by omega, by omega, rfl, by simp only [loI, if_true]; exact hPb.1, hX⟩
  case round =>
    obtain ⟨k, hk0, hk6, rfl, hlo, hN⟩ := hrel
    have hs := hN.size
    have hk : k = 0 ∨ k = 1 ∨ k = 2 ∨ k = 3 ∨ k = 4 ∨ k = 5 ∨ k = 6 := by omega
    clear hk0 hk6
    rcases hk with rfl | rfl | rfl | rfl | rfl | rfl | rfl
    · have hlo' : (0 : Int) ≤ P := by simpa [loI] using hlo
      clear hlo
      have e0 := hN.cells 0 (.int .u8 0) rfl
      have e1 := hN.cells 1 (.int .u8 0) rfl
      have e2 := hN.cells 2 (.func (.func 194) #[] #[]) rfl
      have hA := hN.alloc (.cells #[.int .u8 0, .int .u8 0, .func (.func 194) #[] #[]] 232)
      obtain ⟨c0, c1, c2, c3, c4⟩ := bx5 hA.t
      by_cases hin : P < 1
      · have hL := L0 hlo' hin
        clear L0 L1 L2 L3 L4 L5
        go_wp2_with (go_at_call 194; (with_reducible refine (hL _ _ _ hA.own hA.size).mono ?_); rintro e w3 ⟨a3, k3, rfl, hol3, g3⟩; clear c0 c1 c2 c3 c4; obtain ⟨hr3, hb3⟩ := hA.lead g3; obtain ⟨r0, r1, r2, r3, r4⟩ := bx5 hr3; have f3 := bx_thaw hr3)
        exact bodyPost_ret (v := .tuple #[.agg #[.bool rb, .int .u8 rm, .slice a3 RN k3, .int .u8 rp, .bool rf], .int .u8 rd]) (by simp [results, Tryz.results165, go_sem, r0, r1, r2, r3, r4]) rfl ⟨_, _, rfl, nx_fin hol3 _ _ _ _ _, below7 hb3 (by omega) _ _ _ _ _⟩
      · clear L0 L1 L2 L3 L4 L5
        have hin' : (1 : Int) ≤ P := by omega
        go_wp2
        go_roundw
        case rel => exact ⟨1, by omega, by omega, rfl, by simpa [loI] using hin', hA⟩
        case measure => simp [intOf]
    · have hlo' : (1 : Int) ≤ P := by simpa [loI] using hlo
      clear hlo
      have e0 := hN.cells 3 (.int .u8 1) rfl
      have e1 := hN.cells 4 (.int .u8 1) rfl
      have e2 := hN.cells 5 (.func (.func 195) #[] #[]) rfl
      have hA := hN.alloc (.cells #[.int .u8 1, .int .u8 1, .func (.func 195) #[] #[]] 232)
      obtain ⟨c0, c1, c2, c3, c4⟩ := bx5 hA.t
      by_cases hin : P < 2
      · have hL := L1 hlo' hin
        clear L0 L1 L2 L3 L4 L5
        go_wp2_with (go_at_call 195; (with_reducible refine (hL _ _ _ hA.own hA.size).mono ?_); rintro e w3 ⟨a3, k3, rfl, hol3, g3⟩; clear c0 c1 c2 c3 c4; obtain ⟨hr3, hb3⟩ := hA.lead g3; obtain ⟨r0, r1, r2, r3, r4⟩ := bx5 hr3; have f3 := bx_thaw hr3)
        exact bodyPost_ret (v := .tuple #[.agg #[.bool rb, .int .u8 rm, .slice a3 RN k3, .int .u8 rp, .bool rf], .int .u8 rd]) (by simp [results, Tryz.results165, go_sem, r0, r1, r2, r3, r4]) rfl ⟨_, _, rfl, nx_fin hol3 _ _ _ _ _, below7 hb3 (by omega) _ _ _ _ _⟩
      · clear L0 L1 L2 L3 L4 L5
        have hin' : (2 : Int) ≤ P := by omega
        go_wp2
        go_roundw
        case rel => exact ⟨2, by omega, by omega, rfl, by simpa [loI] using hin', hA⟩
        case measure => simp [intOf]
    · have hlo' : (2 : Int) ≤ P := by simpa [loI] using hlo
      clear hlo
      have e0 := hN.cells 6 (.int .u8 2) rfl
      have e1 := hN.cells 7 (.int .u8 2) rfl
      have e2 := hN.cells 8 (.func (.func 196) #[] #[]) rfl
      have hA := hN.alloc (.cells #[.int .u8 2, .int .u8 2, .func (.func 196) #[] #[]] 232)
      obtain ⟨c0, c1, c2, c3, c4⟩ := bx5 hA.t
      by_cases hin : P < 3
      · have hL := L2 hlo' hin
        clear L0 L1 L2 L3 L4 L5
        go_wp2_with (go_at_call 196; (with_reducible refine (hL _ _ _ hA.own hA.size).mono ?_); rintro e w3 ⟨a3, k3, rfl, hol3, g3⟩; clear c0 c1 c2 c3 c4; obtain ⟨hr3, hb3⟩ := hA.lead g3; obtain ⟨r0, r1, r2, r3, r4⟩ := bx5 hr3; have f3 := bx_thaw hr3)
        exact bodyPost_ret (v := .tuple #[.agg #[.bool rb, .int .u8 rm, .slice a3 RN k3, .int .u8 rp, .bool rf], .int .u8 rd]) (by simp [results, Tryz.results165, go_sem, r0, r1, r2, r3, r4]) rfl ⟨_, _, rfl, nx_fin hol3 _ _ _ _ _, below7 hb3 (by omega) _ _ _ _ _⟩
      · clear L0 L1 L2 L3 L4 L5
        have hin' : (3 : Int) ≤ P := by omega
        go_wp2
        go_roundw
        case rel => exact ⟨3, by omega, by omega, rfl, by simpa [loI] using hin', hA⟩
        case measure => simp [intOf]
    · have hlo' : (3 : Int) ≤ P := by simpa [loI] using hlo
      clear hlo
      have e0 := hN.cells 9 (.int .u8 3) rfl
      have e1 := hN.cells 10 (.int .u8 3) rfl
      have e2 := hN.cells 11 (.func (.func 197) #[] #[]) rfl
      have hA := hN.alloc (.cells #[.int .u8 3, .int .u8 3, .func (.func 197) #[] #[]] 232)
      obtain ⟨c0, c1, c2, c3, c4⟩ := bx5 hA.t
      by_cases hin : P < 4
      · have hL := L3 hlo' hin
        clear L0 L1 L2 L3 L4 L5
        go_wp2_with (go_at_call 197; (with_reducible refine (hL _ _ _ hA.own hA.size).mono ?_); rintro e w3 ⟨a3, k3, rfl, hol3, g3⟩; clear c0 c1 c2 c3 c4; obtain ⟨hr3, hb3⟩ := hA.lead g3; obtain ⟨r0, r1, r2, r3, r4⟩ := bx5 hr3; have f3 := bx_thaw hr3)
        exact bodyPost_ret (v := .tuple #[.agg #[.bool rb, .int .u8 rm, .slice a3 RN k3, .int .u8 rp, .bool rf], .int .u8 rd]) (by simp [results, Tryz.results165, go_sem, r0, r1, r2, r3, r4]) rfl ⟨_, _, rfl, nx_fin hol3 _ _ _ _ _, below7 hb3 (by omega) _ _ _ _ _⟩
      · clear L0 L1 L2 L3 L4 L5
        have hin' : (4 : Int) ≤ P := by omega
        go_wp2
        go_roundw
        case rel => exact ⟨4, by omega, by omega, rfl, by simpa [loI] using hin', hA⟩
        case measure => simp [intOf]
    · have hlo' : (4 : Int) ≤ P := by simpa [loI] using hlo
      clear hlo
      have e0 := hN.cells 12 (.int .u8 4) rfl
      have e1 := hN.cells 13 (.int .u8 9) rfl
      have e2 := hN.cells 14 (.func (.func 198) #[] #[]) rfl
      have hA := hN.alloc (.cells #[.int .u8 4, .int .u8 9, .func (.func 198) #[] #[]] 232)
      obtain ⟨c0, c1, c2, c3, c4⟩ := bx5 hA.t
      by_cases hin : P < 10
      · have hL := L4 hlo' hin
        clear L0 L1 L2 L3 L4 L5
        go_wp2_with (go_at_call 198; (with_reducible refine (hL _ _ _ hA.own hA.size).mono ?_); rintro e w3 ⟨a3, k3, rfl, hol3, g3⟩; clear c0 c1 c2 c3 c4; obtain ⟨hr3, hb3⟩ := hA.lead g3; obtain ⟨r0, r1, r2, r3, r4⟩ := bx5 hr3; have f3 := bx_thaw hr3)
        exact bodyPost_ret (v := .tuple #[.agg #[.bool rb, .int .u8 rm, .slice a3 RN k3, .int .u8 rp, .bool rf], .int .u8 rd]) (by simp [results, Tryz.results165, go_sem, r0, r1, r2, r3, r4]) rfl ⟨_, _, rfl, nx_fin hol3 _ _ _ _ _, below7 hb3 (by omega) _ _ _ _ _⟩
      · clear L0 L1 L2 L3 L4 L5
        have hin' : (10 : Int) ≤ P := by omega
        go_wp2
        go_roundw
        case rel => exact ⟨5, by omega, by omega, rfl, by simpa [loI] using hin', hA⟩
        case measure => simp [intOf]
    · have hlo' : (10 : Int) ≤ P := by simpa [loI] using hlo
      clear hlo
      have e0 := hN.cells 15 (.int .u8 10) rfl
      have e1 := hN.cells 16 (.int .u8 10) rfl
      have e2 := hN.cells 17 (.func (.func 199) #[] #[]) rfl
      have hA := hN.alloc (.cells #[.int .u8 10, .int .u8 10, .func (.func 199) #[] #[]] 232)
      obtain ⟨c0, c1, c2, c3, c4⟩ := bx5 hA.t
      by_cases hin : P < 11
      · have hL := L5 hlo' hin
        clear L0 L1 L2 L3 L4 L5
        go_wp2_with (go_at_call 199; (with_reducible refine (hL _ _ _ hA.own hA.size).mono ?_); rintro e w3 ⟨a3, k3, rfl, hol3, g3⟩; clear c0 c1 c2 c3 c4; obtain ⟨hr3, hb3⟩ := hA.lead g3; obtain ⟨r0, r1, r2, r3, r4⟩ := bx5 hr3; have f3 := bx_thaw hr3)
        exact bodyPost_ret (v := .tuple #[.agg #[.bool rb, .int .u8 rm, .slice a3 RN k3, .int .u8 rp, .bool rf], .int .u8 rd]) (by simp [results, Tryz.results165, go_sem, r0, r1, r2, r3, r4]) rfl ⟨_, _, rfl, nx_fin hol3 _ _ _ _ _, below7 hb3 (by omega) _ _ _ _ _⟩
      · clear L0 L1 L2 L3 L4 L5
        have hin' : (11 : Int) ≤ P := by omega
        go_wp2
        go_roundw
        case rel => exact ⟨6, by omega, by omega, rfl, by simpa [loI] using hin', hA⟩
        case measure => simp [intOf]
    · have hlo' : (11 : Int) ≤ P := by simpa [loI] using hlo
      clear hlo L0 L1 L2 L3 L4 L5
      obtain ⟨rfl, rfl, rfl, rfl, rfl, rfl, rfl⟩ := HOV.out hlo'
      obtain ⟨c0, c1, c2, c3, c4⟩ := bx5 hN.t
      obtain ⟨r0, r1, r2, r3, r4⟩ := bx5 hN.r
      have f3 := bx_thaw hN.r
      go_wp2
      exact bodyPost_ret (v := .tuple #[.agg #[.bool rb, .int .u8 (sm : Int), .slice a1 RN k1, .int .u8 rp, .bool rf], .int .u8 6]) (by simp [results, Tryz.results165, go_sem, r0, r1, r2, r3, r4]) rfl ⟨_, _, rfl, nx_fin hN.own _ _ _ _ _, below7 hN.bel (by omega) _ _ _ _ _⟩
end Go.Proofs.YtajdbimdiodalaaGreat

namespace Go.Proofs.YtajdbimdiodalaaGreat
open Go.RowKit
set_option linter.unusedVariables false

theorem next7_any (w : World) (s : Tk) (x : Bool) (a : Option Addr) (n c : Nat) (hn : n = s.l.length) (h : RL .bool w a n c s.l) (hl : s.l.length ≤ 10000) (hr : rightA s.b s.m) (hp : s.p ≤ 255) :
    Calls Tryz.prog 165 #[.agg #[.bool s.b, .int .u8 (s.m : Int), .slice a n c, .int .u8 (s.p : Int), .bool s.fi], .bool x] w fun e w' => ∃ a' c',
      e = .returned (.tuple #[.agg #[.bool (nxT s x).1.b, .int .u8 ((nxT s x).1.m : Int), .slice a' (nxT s x).1.l.length c', .int .u8 ((nxT s x).1.p : Int), .bool (nxT s x).1.fi], .int .u8 ((nxT s x).2 : Int)]) ∧
      OL .bool 4 w.heap.size w' a' (nxT s x).1.l.length c' (nxT s x).1.l ∧ Below w.heap.size w w' := by
  subst hn
  exact next7_core w s.b s.fi x (nxT s x).1.b (nxT s x).1.fi s.m s.p (nxT s x).1.m (nxT s x).1.p (nxT s x).2 (by omega) s.l (nxT s x).1.l s.l.length (nxT s x).1.l.length a c h hl
    (fun h1 h2 w1 a1 c1 ho hs => lead_body (w.heap.size + 2) s x (by omega) hl hr w1 a1 _ c1 rfl ho hs)
    (fun h1 h2 w1 a1 c1 ho hs => lead_fixed (w.heap.size + 2) s x (by omega) w1 a1 _ c1 rfl ho hs)
    (fun h1 h2 w1 a1 c1 ho hs => lead_ack (w.heap.size + 2) s x (by omega) w1 a1 _ c1 rfl ho hs)
    (fun h1 h2 w1 a1 c1 ho hs => lead_done (w.heap.size + 2) s x (by omega) w1 a1 _ c1 rfl ho hs)
    (fun h1 h2 w1 a1 c1 ho hs => lead_end (w.heap.size + 2) s x (by omega) (by omega) w1 a1 _ c1 rfl ho hs)
    (fun h1 h2 w1 a1 c1 ho hs => lead_last (w.heap.size + 2) s x (by omega) w1 a1 _ c1 rfl ho hs)
    (hid fun h11 => by rw [nx_over (s := s) (x := x) (by omega)]; exact ⟨rfl, rfl, rfl, rfl, rfl, rfl, rfl⟩)

/-- What a receiver drives. -/
def drT (p : Nat) (fi : Bool) : Bool := !decide (p = 2) || !fi

theorem drive7_any (w : World) (b : Bool) (m : Nat) (a : Option Addr) (n c : Nat) (p : Nat) (fi : Bool) :
    Calls Tryz.prog 93 #[.agg #[.bool b, .int .u8 (m : Int), .slice a n c, .int .u8 (p : Int), .bool fi]] w fun e w' => e = .returned (.bool (drT p fi)) ∧ Below w.heap.size w w' := by
  unfold drT
  by_cases h2 : p = 2
  · subst h2
    go_enter Tryz.func93, Tryz.ntmps93
    go_wp2
    go_ret
    exact ⟨rfl, bnew0 _ _⟩
  · have hd : decide (p = 2) = false := decide_eq_false h2
    rw [hd]
    have h2' : ¬ (p : Int) = 2 := by omega
    clear hd h2
    go_enter Tryz.func93, Tryz.ntmps93
    go_wp2
    go_ret
    exact ⟨rfl, bnew0 _ _⟩

def zeroFr : Fr := ⟨0, false, false, 0, []⟩
/-- Whether take.Frame is asked for nothing. -/
def frN (m p : Nat) (fi : Bool) : Bool := decide (p = 0) || !fi || decide (m = 5)
/-- The frame that was read, and whether. -/
def frF (m : Nat) (l : List Bool) (p : Nat) (fi : Bool) : Fr := if frN m p fi then zeroFr else paU l
def frK (m : Nat) (l : List Bool) (p : Nat) (fi : Bool) : Bool := !frN m p fi && fitL l

theorem fitL_pe (l : List Bool) : fitL l = (peU l == 0) := by
  unfold fitL peU
  cases paK l
  · rfl
  · by_cases hs : suV l = 0#15 <;> simp [hs]

theorem boxed57 (w : World) (t u : Array Value) : ∃ w0, Hid ((w.alloc (.cells t 40)).alloc (.cells u 35) = w0) ∧ w0.heap[w.heap.size]? = some (.cells t 40 (0, 0)) ∧ w0.heap[w.heap.size + 1]? = some (.cells u 35 (0, 0)) ∧ Below w.heap.size w w0 := by
  refine ⟨_, rfl, bx_alloc _ (heap_alloc_new _ _), ?_, bnew (bnew0 _ _) _⟩
  have := heap_alloc_new (w.alloc (.cells t 40)) (.cells u 35)
  simpa using this

set_option maxHeartbeats 2000000 in
theorem frame7_own (w : World) (b : Bool) (m : Nat) (a : Option Addr) (n c : Nat) (l : List Bool) (p : Nat) (fi : Bool) (h : RL .bool w a n c l) (hn : n ≤ 10000) (hm : m < 256) :
    Calls Tryz.prog 173 #[.agg #[.bool b, .int .u8 (m : Int), .slice a n c, .int .u8 (p : Int), .bool fi]] w fun e w' => ∃ a' c',
      e = .returned (.tuple #[.agg #[.int .u32 ((frF m l p fi).id : Int), .bool (frF m l p fi).ext, .bool (frF m l p fi).rem, .int .u8 ((frF m l p fi).dlc : Int), .slice a' (frF m l p fi).data.length c'], .bool (frK m l p fi)]) ∧
      OL bv 5 w.heap.size w' a' (frF m l p fi).data.length c' (frF m l p fi).data ∧ Below w.heap.size w w' := by
  obtain ⟨w0, hw0, ht, hrr, hb0⟩ := boxed57 w #[.bool b, .int .u8 (m : Int), .slice a n c, .int .u8 (p : Int), .bool fi] #[.int .u32 0, .bool false, .bool false, .int .u8 0, .slice none 0 0]
  have hdu := fun w1 => due_any w1 b m a n c (p : Int) fi hm
  have hpa := fun (w1 : World) (h1 : RL .bool w1 a n c l) => parse_W w1 a n c l h1 (by omega)
  have h0 := h.below hb0
  have hF : frK m l p fi = (!frN m p fi && (peU l == 0)) := by unfold frK; rw [fitL_pe]
  rw [hF]
  unfold frF
  clear hF
  cases hN : frN m p fi
  · unfold frN at hN
    simp only [Bool.or_eq_false_iff, decide_eq_false_iff_not, Bool.not_eq_false'] at hN
    obtain ⟨⟨hp0, rfl⟩, hm5⟩ := hN
    simp only [Bool.false_eq_true, if_false, Bool.not_false, Bool.true_and]
    generalize peU l = pe at *
    generalize paU l = F at *
    obtain ⟨fid, fext, frem, fdlc, fdata⟩ := F
    dsimp only at *
    generalize hlen : fdata.length = N at *
    have hm5' : decide (m = 5) = false := decide_eq_false hm5
    simp only [hm5'] at hdu
    have hp0' : ¬ (p : Int) = 0 := by omega
    clear hm5 hm5' hp0 hlen
    go_enter Tryz.func173, Tryz.ntmps173
    go_wp2_with (first
      | (go_at_call 186; (with_reducible refine (hdu _).mono ?_); rintro e w1 ⟨rfl, g1⟩; rw [hw0.out] at g1; have ht1 := bx_below ht g1; have hr1 := bx_below hrr g1; have h1 := h0.below g1; have gg1 := bstep hb0 g1; obtain ⟨c0, c1, c2, c3, c4⟩ := bx5 ht1)
      | (go_at_call 187; (with_reducible refine (hpa _ h1).mono ?_); rintro e w2 ⟨a2, c2', rfl, hd2, g2⟩; have hs2 := g2.size; have hsr := bx_lt hr1; clear c0 c1 c2 c3 c4; have hr2 := bx_alloc (.cells #[.int .u32 (fid : Int), .bool fext, .bool frem, .int .u8 (fdlc : Int), .slice a2 N c2'] 35) (bx_below hr1 g2); have gg2 := bnew (bstep gg1 g2) (.cells #[.int .u32 (fid : Int), .bool fext, .bool frem, .int .u8 (fdlc : Int), .slice a2 N c2'] 35); obtain ⟨c0, c1, c2, c3, c4⟩ := bx5 hr2; have f0 := bx_thaw hr2))
    refine bodyPost_ret (v := .tuple #[.agg #[.int .u32 (fid : Int), .bool fext, .bool frem, .int .u8 (fdlc : Int), .slice a2 N c2'], .bool (pe == 0)]) (by simp [results, Tryz.results173, go_sem, c0, c1, c2, c3, c4]) rfl ⟨a2, c2', rfl, ((hd2.alloc (.cells #[.int .u32 (fid : Int), .bool fext, .bool frem, .int .u8 (fdlc : Int), .slice a2 N c2'] 35)).kept fun j hj => ?_).mono (by have := gg1.size; omega), below7 gg2 (by omega) _ _ _ _ _⟩
    have hj2 := (hd2.ltB hj).2
    have hn : j ≠ w.heap.size + 1 := by dsimp only at hj2; omega
    rw [heap_setCell_other _ _ _ _ hn, heap_setCell_other _ _ _ _ hn, heap_setCell_other _ _ _ _ hn, heap_setCell_other _ _ _ _ hn, heap_setCell_other _ _ _ _ hn]
  · have hcases : p = 0 ∨ (p ≠ 0 ∧ fi = false) ∨ (p ≠ 0 ∧ fi = true ∧ m = 5) := by
      unfold frN at hN
      by_cases h0 : p = 0
      · exact .inl h0
      · cases fi
        · exact .inr (.inl ⟨h0, rfl⟩)
        · refine .inr (.inr ⟨h0, rfl, ?_⟩)
          simpa [h0] using hN
    simp only [if_true, Bool.not_true, Bool.false_and]
    unfold zeroFr
    clear hpa hN
    obtain ⟨c0, c1, c2, c3, c4⟩ := bx5 ht
    obtain ⟨r0, r1, r2, r3, r4⟩ := bx5 hrr
    rcases hcases with rfl | ⟨hp0, rfl⟩ | ⟨hp0, rfl, rfl⟩
    · clear hdu ht hrr hb0 c0 c1 c2 c3 c4 r0 r1 r2 r3 r4
      go_enter Tryz.func173, Tryz.ntmps173
      go_wp2
      exact bodyPost_ret (v := .tuple #[.agg #[.int .u32 0, .bool false, .bool false, .int .u8 0, .slice none 0 0], .bool false]) (by simp [results, Tryz.results173, go_sem]) rfl ⟨none, 0, rfl, OL.nil _ _ _ _, bnew (bnew0 _ _) _⟩
    · have hp0' : ¬ (p : Int) = 0 := by omega
      clear hdu hp0 ht hrr hb0 c0 c1 c2 c3 c4 r0 r1 r2 r3 r4
      go_enter Tryz.func173, Tryz.ntmps173
      go_wp2
      exact bodyPost_ret (v := .tuple #[.agg #[.int .u32 0, .bool false, .bool false, .int .u8 0, .slice none 0 0], .bool false]) (by simp [results, Tryz.results173, go_sem]) rfl ⟨none, 0, rfl, OL.nil _ _ _ _, bnew (bnew0 _ _) _⟩
    · have hp0' : ¬ (p : Int) = 0 := by omega
      have h55 : ((5 : Nat) : Int) = 5 := rfl
      simp only [decide_true, h55] at hdu hw0 ht ⊢
      clear hp0 h55 c0 c1 c2 c3 c4 r0 r1 r2 r3 r4
      go_enter Tryz.func173, Tryz.ntmps173
      go_wp2_with (go_at_call 186; (with_reducible refine (hdu _).mono ?_); rintro e w1 ⟨rfl, g1⟩; rw [hw0.out] at g1; have hr1 := bx_below hrr g1; have gg1 := bstep hb0 g1; obtain ⟨r0, r1, r2, r3, r4⟩ := bx5 hr1; have f0 := bx_thaw hr1)
      exact bodyPost_ret (v := .tuple #[.agg #[.int .u32 0, .bool false, .bool false, .int .u8 0, .slice none 0 0], .bool false]) (by simp [results, Tryz.results173, go_sem, r0, r1, r2, r3, r4]) rfl ⟨none, 0, rfl, OL.nil _ _ _ _, below7 gg1 (by omega) _ _ _ _ _⟩
end Go.Proofs.YtajdbimdiodalaaGreat

namespace Go.Proofs.YtajdbimdiodalaaGreat
open Go.RowKit
set_option linter.unusedVariables false

/-- What is said of bits, as its value. -/
def nv (d : Nat) : Value := .int .u8 (d : Int)

theorem nxT_len (s : Tk) (x : Bool) : (nxT s x).1.l.length ≤ s.l.length + 1 := by
  unfold nxT; repeat' split
  all_goals (simp only [List.length_append, List.length_cons, List.length_nil]; omega)

theorem nxT_p (s : Tk) (x : Bool) (h : s.p ≤ 11) : (nxT s x).1.p ≤ 11 := by
  unfold nxT; repeat' split
  all_goals (simp only; omega)

theorem nxT_le (s : Tk) (x : Bool) : (nxT s x).2 ≤ 6 := by
  unfold nxT; repeat' split
  all_goals (simp)

theorem nxT_ri (s : Tk) (x : Bool) (h : rightA s.b s.m) : rightA (nxT s x).1.b (nxT s x).1.m := by
  have := (nxt_right (x := x) h).1
  unfold nxT; repeat' split
  all_goals first | exact h | exact this

theorem set5_box {w : World} {g : Nat} {E : TypeId} {u0 u1 u2 u3 u4 : Value} (v0 v1 v2 v3 v4 : Value) (h : w.heap[g]? = some (.cells #[u0, u1, u2, u3, u4] E (0, 0))) :
    (((((w.setCell ⟨g, 0, none⟩ v0).setCell ⟨g, 1, none⟩ v1).setCell ⟨g, 2, none⟩ v2).setCell ⟨g, 3, none⟩ v3).setCell ⟨g, 4, none⟩ v4).heap[g]? = some (.cells #[v0, v1, v2, v3, v4] E (0, 0)) :=
  heap_setCell_same _ g 4 _ _ v4 (heap_setCell_same _ g 3 _ _ v3 (heap_setCell_same _ g 2 _ _ v2 (heap_setCell_same _ g 1 _ _ v1 (heap_setCell_same w g 0 _ _ v0 h))))

theorem set5_other7 {w : World} {g k : Nat} (v0 v1 v2 v3 v4 : Value) (h : k ≠ g) :
    (((((w.setCell ⟨g, 0, none⟩ v0).setCell ⟨g, 1, none⟩ v1).setCell ⟨g, 2, none⟩ v2).setCell ⟨g, 3, none⟩ v3).setCell ⟨g, 4, none⟩ v4).heap[k]? = w.heap[k]? := by
  rw [heap_setCell_other _ _ _ _ h, heap_setCell_other _ _ _ _ h, heap_setCell_other _ _ _ _ h, heap_setCell_other _ _ _ _ h, heap_setCell_other _ _ _ _ h]

/-- The state that is read in a box, its bits, and what was said. -/
structure Al (w wr : World) (s : Tk) (a : Option Addr) (c : Nat) (ao : Option Addr) (no co : Nat) (out : List Nat) : Prop where
  r : wr.heap[w.heap.size]? = some (.cells #[.bool false, .int .u8 0, .slice none 0 0, .int .u8 0, .bool false] 40 (0, 0))
  t : wr.heap[w.heap.size + 1]? = some (.cells #[.bool s.b, .int .u8 (s.m : Int), .slice a s.l.length c, .int .u8 (s.p : Int), .bool s.fi] 40 (0, 0))
  row : OL .bool 4 (w.heap.size + 2) wr a s.l.length c s.l
  out : OL nv 5 (w.heap.size + 2) wr ao no co out
  bel : Below w.heap.size w wr
  nb : ∀ q, a = some q → NB ao q.block

section
variable {w wr w2 : World} {s s' : Tk} {a a2 ao ao2 : Option Addr} {c c2 no co no2 co2 : Nat} {out out2 : List Nat}

theorem Al.size (h : Al w wr s a c ao no co out) : w.heap.size + 2 ≤ wr.heap.size := by have := bx_lt h.t; omega

theorem Al.next (h : Al w wr s a c ao no co out) (g : Below wr.heap.size wr w2) (ho : OL .bool 4 wr.heap.size w2 a2 s'.l.length c2 s'.l) (o : Obj) :
    Al w ((((((w2.alloc o).setCell ⟨w.heap.size + 1, 0, none⟩ (.bool s'.b)).setCell ⟨w.heap.size + 1, 1, none⟩ (.int .u8 (s'.m : Int))).setCell ⟨w.heap.size + 1, 2, none⟩ (.slice a2 s'.l.length c2)).setCell ⟨w.heap.size + 1, 3, none⟩ (.int .u8 (s'.p : Int))).setCell ⟨w.heap.size + 1, 4, none⟩ (.bool s'.fi)) s' a2 c2 ao no co out := by
  have hs := h.size
  refine ⟨?_, set5_box _ _ _ _ _ (bx_alloc o (bx_below h.t g)), ?_, ?_, below7 (bnew (bstep h.bel g) o) (by omega) _ _ _ _ _, ?_⟩
  · rw [set5_other7 _ _ _ _ _ (by omega)]; exact bx_alloc o (bx_below h.r g)
  · refine ((ho.mono (by omega)).alloc o).kept fun k hk => set5_other7 _ _ _ _ _ ?_
    have := (ho.ltB hk).2; dsimp only at this; omega
  · refine ((h.out.below g).alloc o).kept fun k hk => set5_other7 _ _ _ _ _ ?_
    have := (h.out.ltB hk).2; dsimp only at this; omega
  · intro q hq p hp e
    have h1 := (ho.ltB hq).2
    have h2 := (h.out.ltB hp).1
    omega

theorem Al.alloc (h : Al w wr s a c ao no co out) (o : Obj) : Al w (wr.alloc o) s a c ao no co out :=
  ⟨bx_alloc o h.r, bx_alloc o h.t, h.row.alloc o, h.out.alloc o, bnew h.bel o, h.nb⟩

theorem Al.app (h : Al w wr s a c ao no co out) (ho : OL nv 5 (w.heap.size + 2) w2 ao2 no2 co2 out2) (g : Below (w.heap.size + 2) wr w2) (hk : ∀ k, k < wr.heap.size → NB ao k → w2.heap[k]? = wr.heap[k]? ∧ NB ao2 k) :
    Al w w2 s a c ao2 no2 co2 out2 := by
  have hs := h.size
  refine ⟨by rw [g.block _ (by omega)]; exact h.r, by rw [g.block _ (by omega)]; exact h.t, h.row.kept fun k hq => (hk k ?_ (h.nb _ hq)).1, ho, h.bel.trans (g.mono (by omega)), fun q hq => (hk _ (h.row.ltB hq).1 (h.nb q hq)).2⟩
  exact (h.row.ltB hq).1
end

end Go.Proofs.YtajdbimdiodalaaGreat

namespace Go.Proofs.YtajdbimdiodalaaGreat
open Go.RowKit Go.Sort
set_option linter.unusedVariables false

theorem bfL_asym : ∀ (l m : List Bool), bfL l m = true → bfL m l = false := by
  intro l
  induction l with
  | nil => intro m h; simp [bfL] at h
  | cons x l ih =>
    intro m h
    cases m with
    | nil => simp [bfL] at h
    | cons y m =>
      simp only [bfL] at h ⊢
      by_cases e : x = y
      · rw [if_pos e] at h; rw [if_pos e.symm]; exact ih m h
      · rw [if_neg e] at h; rw [if_neg (fun q => e q.symm)]; cases x <;> cases y <;> simp_all

theorem bfL_self (l : List Bool) : bfL l l = false := by
  cases h : bfL l l with
  | false => rfl
  | true => exact h.symm.trans (bfL_asym l l h)

theorem bfL_len (l m r : List Bool) (h : l.length = m.length) (hne : l ≠ m) (s : List Bool) : bfL (l ++ r) (m ++ s) = bfL l m := by
  induction l generalizing m with
  | nil => cases m with
    | nil => exact absurd rfl hne
    | cons => simp at h
  | cons x l ih =>
    cases m with
    | nil => simp at h
    | cons y m =>
      simp only [List.cons_append, bfL]
      by_cases e : x = y
      · subst e
        rw [if_pos rfl, if_pos rfl]
        exact ih m (by simpa using h) (fun q => hne (by rw [q]))
      · rw [if_neg e, if_neg e]

theorem conL_true (id : Nat) (rem : Bool) : conL id true rem = [false] ++ ofL (id / 262144) 11 ++ [true, true] ++ ofL id 18 ++ [rem] := rfl

end Go.Proofs.YtajdbimdiodalaaGreat

namespace Go.Proofs.YtajdbimdiodalaaGreat
set_option linter.unusedVariables false

/-- What the document says of bit i of bits. -/
def Sy (l : List Bool) (i : Nat) : Nat := rdS (bdN l) (tkL l).2 (fitL (bdL l)) i (l[i]?.getD false)

theorem Reading.said {l : List Bool} {k : Nat} {s : Tk} {x : Bool} (h : Reading l k s) (hx : l[k]? = some x) :
    (nxT s x).2 = Sy l k ∧ ((nxT s x).2 = 0 ∨ (nxT s x).2 = 4 → Reading l (k + 1) (nxT s x).1) := by
  unfold Sy; rw [hx]; exact h.step hx

theorem BeB.of {l : List Bool} {k : Nat} {s : Tk} (h : Reading l k s) (hn : bdN l ≠ 0) (hk : bdN l ≤ k) : BeB l k s := by
  rcases h with h | h
  · rcases h.early with e | e <;> omega
  · exact h

/-- What is taken is the body that was read, and it fits. -/
structure Got (l : List Bool) (T : Tk) : Prop where
  p0 : T.p ≠ 0
  li : T.l = bdL l
  fi : T.fi = true
  fit : fitL T.l = true
  m : T.m ≠ 5
  pu : l.take (bdN l) = putL (bdL l)

theorem BeB.got {l : List Bool} {k : Nat} {s : Tk} (h : BeB l k s) (h4 : 4 ≤ s.p) : Got l s :=
  ⟨by omega, h.li, h.ok h4, by rw [h.li, ← h.fi]; exact h.ok h4, h.m, h.pu⟩

/-- The last bits: the state behind, whatever is said. -/
theorem BeB.last {l : List Bool} {k : Nat} {s : Tk} (h : BeB l k s) (h4 : 4 ≤ s.p) (x : Bool) : Got l (nxT s x).1 := by
  have g := h.got h4
  have hp := h.p
  have hhi := h.hi
  have e : ∃ p, (nxT s x).1 = ⟨s.b, s.m, s.l, p, s.fi⟩ ∧ p ≠ 0 := by
    by_cases h10 : s.p = 10
    · rw [nx_ten h10]; exact ⟨11, rfl, by omega⟩
    · cases x
      · rw [nx_dom (by omega) (by omega) (by omega)]; exact ⟨11, rfl, by omega⟩
      · rw [nx_on (by omega) (by omega) (by omega) (fun _ => g.fi)]; exact ⟨s.p + 1, rfl, by omega⟩
  obtain ⟨p, e, hp⟩ := e
  rw [e]
  exact ⟨hp, g.li, g.fi, g.fit, g.m, g.pu⟩

/-- The body of a right frame is found in its wire, whatever comes behind. -/
theorem wire_found {F : Fr} (hg : Good F) {l : List Bool} (hl : l.take (putL (boL F)).length = putL (boL F)) (hn : (putL (boL F)).length ≤ l.length) :
    bdN l = (putL (boL F)).length ∧ bdL l = boL F ∧ fitL (bdL l) = true := by
  obtain ⟨h1, h2, _, _, h5⟩ := bo_all F hg
  have htk : tkL (l.take (putL (boL F)).length) = (boL F, -1) := by rw [hl]; exact tkL_putL _
  have hm : (ruF false 0 (l.take (putL (boL F)).length)).2 ≠ 5 := fun e => by
    have := put_at htk
    rw [if_pos e, hl] at this
    have := congrArg List.length this
    simp at this
  have hc : cmpL (boL F) = true := by
    unfold cmpL; rw [(paK_parts h1).1]; simp [h5]
  obtain ⟨e1, e2, _, _⟩ := bd_found hn htk hm hc
  exact ⟨e1, e2, by rw [e2]; unfold fitL; rw [h1, h2]; rfl⟩

theorem wire_early {F : Fr} (hg : Good F) {l : List Bool} (hl : l.take (putL (boL F)).length = putL (boL F)) (hn : (putL (boL F)).length ≤ l.length) {i : Nat} (hi : i < (putL (boL F)).length) : Sy l i = 0 := by
  have htk : tkL (l.take (putL (boL F)).length) = (boL F, -1) := by rw [hl]; exact tkL_putL _
  obtain ⟨e1, _, _⟩ := wire_found hg hl hn
  unfold Sy rdS
  rw [if_pos (.inr (by omega)), if_neg]
  intro e
  have hlk : (l.take (putL (boL F)).length).length = (putL (boL F)).length := by rw [List.length_take]; omega
  have := tk_split htk
  rw [hlk] at this
  have hge := tkF_ge (l.drop (putL (boL F)).length) (ruF false 0 (l.take (putL (boL F)).length)).1 (ruF false 0 (l.take (putL (boL F)).length)).2 (putL (boL F)).length (boL F)
  rw [← this] at hge
  omega

/-- Behind the body. -/
theorem wire_late {F : Fr} (hg : Good F) {l : List Bool} (hl : l.take (putL (boL F)).length = putL (boL F)) (hn : (putL (boL F)).length ≤ l.length) {j : Nat} {x : Bool} (hx : l[(putL (boL F)).length + j]? = some x) :
    Sy l ((putL (boL F)).length + j) = if j = 1 then 0 else if j = 9 then (if x then 6 else 5) else if x = false then 2 else if j = 8 then 4 else 0 := by
  obtain ⟨e1, e2, e3⟩ := wire_found hg hl hn
  unfold Sy rdS
  have h0 : bdN l ≠ 0 := fun e => by
    have := (putL_len (boL F)).1
    rw [e] at e1
    have := boL_length F
    omega
  rw [e1] at h0 ⊢
  rw [if_neg (by omega), hx, e3, show (putL (boL F)).length + j - (putL (boL F)).length = j by omega]
  simp
end Go.Proofs.YtajdbimdiodalaaGreat

namespace Go.Proofs.YtajdbimdiodalaaGreat
set_option linter.unusedVariables false

theorem wi_at {F : Fr} {j : Nat} (hj : j < 10) : (wiL F)[(putL (boL F)).length + j]? = some true := by
  unfold wiL
  rw [List.getElem?_append_right (by omega), Nat.add_sub_cancel_left, List.getElem?_replicate]
  simp [hj]

theorem wi_take (F : Fr) : (wiL F).take (putL (boL F)).length = putL (boL F) := by unfold wiL; exact List.take_left

end Go.Proofs.YtajdbimdiodalaaGreat

namespace Go.Proofs.YtajdbimdiodalaaGreat
set_option linter.unusedVariables false

/-- What is read of a wire, bit by bit. -/
structure Rd (L : List Bool) (P k : Nat) (s : Tk) : Prop where
  on : k < P + 10 → Reading L k s
  fin : k = P + 10 → Got L s ∧ s.p = 11
  ri : rightA s.b s.m
  p : s.p ≤ 11
  len : s.l.length ≤ k

theorem Rd.start (L : List Bool) (P : Nat) : Rd L P 0 s0 := ⟨fun _ => Reading.start L, fun h => by omega, ⟨by simp [s0], fun _ => rfl⟩, by simp [s0], by simp [s0]⟩

theorem ack_take {F : Fr} (ack : Bool) : ((wiL F).set ((putL (boL F)).length + 1) ack).take (putL (boL F)).length = putL (boL F) := by
  rw [List.take_set_of_le (by omega), wi_take]

theorem whole_step {F : Fr} (hg : Good F) {ack x : Bool} {k : Nat} {s : Tk} (hk : k < (putL (boL F)).length + 10) (h : Rd ((wiL F).set ((putL (boL F)).length + 1) ack) (putL (boL F)).length k s)
    (hx : ((wiL F).set ((putL (boL F)).length + 1) ack)[k]? = some x) :
    (nxT s x).2 = (if k = (putL (boL F)).length + 8 then 4 else if k = (putL (boL F)).length + 9 then 6 else 0) ∧ Rd ((wiL F).set ((putL (boL F)).length + 1) ack) (putL (boL F)).length (k + 1) (nxT s x).1 ∧
    drT s.p s.fi = !decide (k = (putL (boL F)).length + 1) := by
  have ht := ack_take (F := F) ack
  have hlen : ((wiL F).set ((putL (boL F)).length + 1) ack).length = (putL (boL F)).length + 10 := by rw [List.length_set, wiL_length]
  have wat := fun (j : Nat) (hj : j < 10) => wi_at (F := F) hj
  have hne : ∀ i, i ≠ (putL (boL F)).length + 1 → ((wiL F).set ((putL (boL F)).length + 1) ack)[i]? = (wiL F)[i]? := fun i hi => by rw [List.getElem?_set_ne (Ne.symm hi)]
  obtain ⟨L, hL⟩ : ∃ L, L = (wiL F).set ((putL (boL F)).length + 1) ack := ⟨_, rfl⟩
  rw [← hL] at ht hlen hne hx h ⊢
  clear hL
  have hR := h.on hk
  obtain ⟨e1, e2⟩ := hR.said hx
  obtain ⟨f1, f2, f3⟩ := wire_found hg ht (by omega)
  obtain ⟨P, hP⟩ : ∃ P, P = (putL (boL F)).length := ⟨_, rfl⟩
  have early := fun (i : Nat) (hi : i < P) => wire_early hg (l := L) ht (by omega) (i := i) (by rw [← hP]; exact hi)
  have late := fun (j : Nat) (y : Bool) (hy : L[P + j]? = some y) => wire_late hg (l := L) ht (by omega) (j := j) (x := y) (by rw [← hP]; exact hy)
  simp only [← hP] at ht hlen hne hx h wat f1 hk late ⊢
  have hP34 : P ≠ 0 := fun e => by
    have h1 := (putL_len (boL F)).1
    have h2 := boL_length F
    omega
  have hS : Sy L k = if k = P + 8 then 4 else if k = P + 9 then 6 else 0 := by
    by_cases hkP : k < P
    · rw [early k hkP, if_neg (by omega), if_neg (by omega)]
    · obtain ⟨j, rfl⟩ : ∃ j, k = P + j := ⟨k - P, by omega⟩
      by_cases h1 : j = 1
      · rw [late j x hx, if_pos h1, if_neg (by omega), if_neg (by omega)]
      · have hxt : x = true := by
          have := hne (P + j) (by omega)
          rw [hx, wat j (by omega)] at this; simpa using this
        rw [late j x hx, if_neg h1, hxt]
        simp only [if_true, Bool.true_eq_false, if_false]
        by_cases h9 : j = 9
        · rw [if_pos h9, if_neg (by omega), if_pos (by omega)]
        · rw [if_neg h9]
          by_cases h8 : j = 8
          · rw [if_pos h8, if_pos (by omega)]
          · rw [if_neg h8, if_neg (by omega), if_neg (by omega)]
  refine ⟨e1.trans hS, ⟨fun hk1 => e2 ?_, fun hk1 => ?_, nxT_ri s x h.ri, nxT_p s x h.p, by have := nxT_len s x; have := h.len; omega⟩, ?_⟩
  · rw [e1, hS]
    split
    · exact .inr rfl
    · rw [if_neg (by omega)]; exact .inl rfl
  · have hB := BeB.of hR (by omega) (by omega)
    refine ⟨hB.last (by rw [hB.p]; omega) x, ?_⟩
    rw [nx_ten (by rw [hB.p]; omega)]
  · by_cases hkP : k < P
    · rcases hR with hI | hB
      · rw [hI.p, decide_eq_false (by omega)]; rfl
      · have := hB.lo; omega
    · have hB := BeB.of hR (by omega) (by omega)
      rw [hB.p, hB.fi, f3, f1]
      unfold drT
      by_cases h1 : k = P + 1
      · rw [decide_eq_true h1, decide_eq_true (by omega)]; rfl
      · rw [decide_eq_false h1, decide_eq_false (by omega)]; rfl

theorem pa_body {F : Fr} (hg : Good F) : paU (boL F) = F := by
  obtain ⟨h1, h2, h3, h4, _⟩ := bo_all F hg
  unfold paU
  rw [h1, h2, h3, h4]
  rfl

end Go.Proofs.YtajdbimdiodalaaGreat

namespace Go.Proofs.YtajdbimdiodalaaGreat
set_option linter.unusedVariables false

/-- Counters: TEC, REC, whether off, Run, Times. -/
structure Cf where
  t : Int
  r : Int
  o : Bool
  n : Int
  m : Int
  deriving DecidableEq

/-- Whether a number is from least to most. -/
def wi (n a b : Int) : Bool := decide (a ≤ n) && decide (n ≤ b)

/-- Which counters are right. -/
def riC (c : Cf) : Bool := wi c.r 0 255 && (if c.o then wi c.t 256 263 && wi c.n 0 10 && wi c.m 0 127 else wi c.t 0 255 && decide (c.n = 0) && decide (c.m = 0))

/-- How a controller stands. -/
def moC (c : Cf) : Nat := if c.o || !riC c then 2 else if c.t > 127 ∨ c.r > 127 then 1 else 0

/-- REC after an event. -/
def reA (r : Int) (k : Nat) : Int :=
  if k = 1 then min (r + 1) 255 else if 2 ≤ k ∧ k ≤ 4 then min (r + 8) 255 else if k = 9 then (if r > 127 then 119 else max (r - 1) 0) else r

/-- TEC after an event. -/
def teA (t : Int) (k : Nat) : Int := if 5 ≤ k ∧ k ≤ 7 then t + 8 else if k = 8 then max (t - 1) 0 else t

/-- The counters of a controller that is on after an event. -/
def evO (c : Cf) (k : Nat) : Cf := ⟨teA c.t k, reA c.r k, decide (teA c.t k > 255), c.n, c.m⟩

/-- The error of an event. -/
def evE (c : Cf) (k : Nat) : Int := if riC c = false ∨ k < 1 ∨ 9 < k then 60 else 0

/-- The counters after an event. -/
def evC (c : Cf) (k : Nat) : Cf := if riC c = false ∨ k < 1 ∨ 9 < k then c else if c.o then c else evO c k

/-- The counters of a controller that is off after a recessive bit. -/
def upC (c : Cf) : Cf := if c.n + 1 < 11 then { c with n := c.n + 1 } else if c.m + 1 = 128 then ⟨0, 0, false, 0, 0⟩ else { c with n := 0, m := c.m + 1 }

/-- The counters after a bit. -/
def biC (c : Cf) (x : Bool) : Cf := if riC c = false ∨ c.o = false then c else if x then upC c else { c with n := 0 }

/-- Counters of naught. -/
def zeC : Cf := ⟨0, 0, false, 0, 0⟩

theorem wi_iff {n a b : Int} : wi n a b = true ↔ a ≤ n ∧ n ≤ b := by simp [wi]

theorem ri_on {c : Cf} (h : riC c = true) (ho : c.o = false) : 0 ≤ c.r ∧ c.r ≤ 255 ∧ 0 ≤ c.t ∧ c.t ≤ 255 ∧ c.n = 0 ∧ c.m = 0 := by
  simp [riC, ho, wi] at h; omega
theorem ri_off {c : Cf} (h : riC c = true) (ho : c.o = true) : 0 ≤ c.r ∧ c.r ≤ 255 ∧ 256 ≤ c.t ∧ c.t ≤ 263 ∧ 0 ≤ c.n ∧ c.n ≤ 10 ∧ 0 ≤ c.m ∧ c.m ≤ 127 := by
  simp [riC, ho, wi] at h; omega
end Go.Proofs.YtajdbimdiodalaaGreat

namespace Go.Proofs.YtajdbimdiodalaaGreat
set_option linter.unusedVariables false

theorem ri_mk {t r : Int} (h0 : 0 ≤ t) (h1 : t ≤ 255) (h2 : 0 ≤ r) (h3 : r ≤ 255) : riC ⟨t, r, false, 0, 0⟩ = true := by
  simp [riC, wi]; omega

theorem ri_mkOff {t r n m : Int} (h0 : 256 ≤ t) (h1 : t ≤ 263) (h2 : 0 ≤ r) (h3 : r ≤ 255) (h4 : 0 ≤ n) (h5 : n ≤ 10) (h6 : 0 ≤ m) (h7 : m ≤ 127) : riC ⟨t, r, true, n, m⟩ = true := by
  simp [riC, wi]; omega

/-- An event of a controller that is on. -/
theorem ev_on {t r n m : Int} {k : Nat} (h : riC ⟨t, r, false, n, m⟩ = true) (hk : 1 ≤ k ∧ k ≤ 9) : evC ⟨t, r, false, n, m⟩ k = ⟨teA t k, reA r k, decide (teA t k > 255), n, m⟩ := by
  unfold evC
  rw [if_neg (by rw [h]; simp; omega)]
  rfl

theorem te_rec {t : Int} {k : Nat} (h : ¬ (5 ≤ k ∧ k ≤ 8)) : teA t k = t := by
  unfold teA; rw [if_neg (by omega), if_neg (by omega)]
theorem mo_of_right {c : Cf} (h : riC c = true) : (moC c = 2) ↔ c.o = true := by
  unfold moC
  rw [h]
  cases c.o
  · simp; split <;> simp
  · simp

/-- What a bit leaves is right. -/
theorem ri_bit {c : Cf} (h : riC c = true) (x : Bool) : riC (biC c x) = true := by
  obtain ⟨t, r, o, n, m⟩ := c
  cases o
  · rw [show biC ⟨t, r, false, n, m⟩ x = ⟨t, r, false, n, m⟩ by simp [biC]]; exact h
  · obtain ⟨r0, r1, t0, t1, n0, n1, m0, m1⟩ := ri_off h rfl
    dsimp only at r0 r1 t0 t1 n0 n1 m0 m1
    cases x
    · rw [show biC ⟨t, r, true, n, m⟩ false = ⟨t, r, true, 0, m⟩ by simp [biC, h]]
      exact ri_mkOff t0 t1 r0 r1 (by omega) (by omega) m0 m1
    · rw [show biC ⟨t, r, true, n, m⟩ true = upC ⟨t, r, true, n, m⟩ by simp [biC, h]]
      unfold upC
      dsimp only
      split
      · exact ri_mkOff t0 t1 r0 r1 (by omega) (by omega) m0 m1
      · split
        · decide
        · exact ri_mkOff t0 t1 r0 r1 (by omega) (by omega) (by omega) (by omega)

theorem ev_off {t r n m : Int} (k : Nat) : evC ⟨t, r, true, n, m⟩ k = ⟨t, r, true, n, m⟩ := by simp [evC]

theorem ev_none {c : Cf} {k : Nat} (hk : 9 < k) : evC c k = c := by unfold evC; rw [if_pos (by omega)]
theorem te_le {t : Int} {k : Nat} (h0 : 0 ≤ t) (h1 : t ≤ 255) : 0 ≤ teA t k ∧ teA t k ≤ 263 := by
  unfold teA; split <;> (try split) <;> omega
theorem re_le {r : Int} {k : Nat} (h0 : 0 ≤ r) (h1 : r ≤ 255) : 0 ≤ reA r k ∧ reA r k ≤ 255 := by
  unfold reA; split <;> (try split) <;> (try split) <;> (try split) <;> omega

/-- What an event leaves is right. -/
theorem ri_ev {c : Cf} (h : riC c = true) (k : Nat) : riC (evC c k) = true := by
  obtain ⟨t, r, o, n, m⟩ := c
  cases o
  · by_cases hk : 1 ≤ k ∧ k ≤ 9
    · obtain ⟨r0, r1, t0, t1, n0, m0⟩ := ri_on h rfl
      dsimp only at r0 r1 t0 t1 n0 m0
      subst n0 m0
      rw [ev_on h hk]
      obtain ⟨a0, a1⟩ := te_le (k := k) t0 t1
      obtain ⟨b0, b1⟩ := re_le (k := k) r0 r1
      by_cases ht : teA t k > 255
      · rw [decide_eq_true ht]; exact ri_mkOff (by omega) a1 b0 b1 (by omega) (by omega) (by omega) (by omega)
      · rw [decide_eq_false ht]; exact ri_mk a0 (by omega) b0 b1
    · rw [show evC ⟨t, r, false, n, m⟩ k = ⟨t, r, false, n, m⟩ by unfold evC; rw [if_pos (by omega)]]
      exact h
  · rw [ev_off]; exact h

/-- A controller goes off just by an error when it sends, from 248 on. -/
theorem ev_goes {t r n m : Int} {k : Nat} (h : riC ⟨t, r, false, n, m⟩ = true) (hk : 1 ≤ k) : (evC ⟨t, r, false, n, m⟩ k).o = (decide (5 ≤ k) && decide (k ≤ 7) && decide (247 < t)) := by
  obtain ⟨r0, r1, t0, t1, n0, m0⟩ := ri_on h rfl
  dsimp only at r0 r1 t0 t1 n0 m0
  by_cases h9 : k ≤ 9
  · rw [ev_on h ⟨hk, h9⟩, Bool.eq_iff_iff]
    simp [teA]
    split
    · omega
    · split <;> omega
  · rw [ev_none (by omega), Bool.eq_iff_iff]
    simp
    omega

end Go.Proofs.YtajdbimdiodalaaGreat

namespace Go.Proofs.YtajdbimdiodalaaGreat
set_option linter.unusedVariables false

/-- A controller. -/
structure Ct where
  ph : Nat
  n : Nat
  cf : Cf
  has : Bool
  give : Fr
  sends : Bool
  sender : Bool
  wire : List Bool
  pos : Nat
  tk : Tk
  rl : Bool
  rm : Nat
  err : Bool
  owed : Bool

def c0 : Ct := ⟨0, 0, zeC, false, zeroFr, false, false, [], 0, s0, false, 0, false, false⟩

/-- A phase that begins. -/
def newC (c : Ct) (ph : Nat) : Ct := ⟨ph, 0, c.cf, c.has, c.give, false, c.sender, [], 0, s0, false, 0, c.err, false⟩

/-- What happens: its number, and the frame. -/
abbrev Hp := Nat × Fr
def noH : Hp := (0, zeroFr)

def offC (c : Ct) : Ct × Hp := ({ newC c 9 with sender := false }, (10, zeroFr))
/-- Behind an event; 0: none. -/
def cntC (c : Ct) (k : Nat) : Ct := if k = 0 then c else { c with cf := evC c.cf k }
/-- A flag of an error, behind an event. -/
def flagC (c : Ct) (what k : Nat) (owed : Bool) : Ct × Hp :=
  if moC (cntC c k).cf = 2 then offC (cntC c k) else ({ newC (cntC c k) (if moC c.cf = 1 then 3 else 2) with err := true, owed := owed }, (what, zeroFr))
def failC (c : Ct) (what : Nat) : Ct × Hp := flagC c what (if c.sender then 5 else 1) false
def overC (c : Ct) : Ct × Hp := ({ newC c 4 with err := false }, (9, zeroFr))
def begC (c : Ct) (s : Bool) : Ct := { newC c 1 with tk := (nxT s0 false).1, sends := s, sender := s, wire := if s then wiL c.give else [], pos := if s then 1 else 0 }

def idleC (c : Ct) (x : Bool) : Ct × Hp :=
  if x then (if c.has then failC { c with sender := true } 4 else (c, noH)) else (begC c c.has, noH)

/-- In a frame, of one that does not send. -/
def rcvC (c : Ct) (x : Bool) : Ct × Hp :=
  if (nxT c.tk x).2 = 0 then (if x && !drT c.tk.p c.tk.fi then failC { c with tk := (nxT c.tk x).1 } 4 else ({ c with tk := (nxT c.tk x).1 }, noH))
  else if (nxT c.tk x).2 = 1 then failC { c with tk := (nxT c.tk x).1 } 5
  else if (nxT c.tk x).2 = 2 then failC { c with tk := (nxT c.tk x).1 } 6
  else if (nxT c.tk x).2 = 3 then failC { c with tk := (nxT c.tk x).1 } 8
  else if (nxT c.tk x).2 = 4 then ({ c with tk := (nxT c.tk x).1, cf := evC c.cf 9 }, (2, paU (nxT c.tk x).1.l))
  else if (nxT c.tk x).2 = 5 then overC c
  else (newC c 7, noH)

/-- In a frame, of one that sends. -/
def sndC (c : Ct) (x : Bool) : Ct × Hp :=
  if c.pos + 9 = c.wire.length then
    (if x = false then ({ c with tk := (nxT c.tk x).1, pos := c.pos + 1 }, noH)
     else if moC c.cf = 1 then flagC c 7 0 true else failC c 7)
  else if c.wire[c.pos]?.getD false = x then
    (if c.pos + 1 < c.wire.length then ({ c with tk := (nxT c.tk x).1, pos := c.pos + 1 }, noH)
     else (newC { c with cf := evC c.cf 8, has := false, give := zeroFr } 7, (1, c.give)))
  else if x = true ∨ c.tk.l.length < 1 ∨ (if c.give.ext then 32 else 12) < c.tk.l.length then failC c 4
  else if c.tk.m = 5 then flagC c 5 0 false
  else ({ c with tk := (nxT c.tk x).1, sends := false, sender := false, wire := [], pos := 0 }, (3, zeroFr))

def sixC (c : Ct) (x : Bool) : Ct × Hp :=
  if x = true ∧ moC (evC c.cf (if c.sender then 6 else 3)) = 2 then offC { c with cf := evC c.cf (if c.sender then 6 else 3) }
  else
    let d := if x then { c with cf := evC c.cf (if c.sender then 6 else 3) } else c
    (if c.n + 1 = 6 then newC d 5 else { d with n := c.n + 1 }, (if x then 4 else 0, zeroFr))

def weakC (c : Ct) (x : Bool) : Ct × Hp :=
  if c.owed = true ∧ x = false ∧ moC (evC c.cf 5) = 2 then offC { c with owed := false, cf := evC c.cf 5 }
  else
    let d := if c.owed && !x then { c with owed := false, cf := evC c.cf 5 } else c
    let m := if 0 < c.n ∧ c.rl = x then c.n + 1 else 1
    (if m = 6 then newC d 5 else { d with n := m, rl := x }, noH)

/-- The event of a dominant bit behind a flag; 0: none. -/
def waitE (c : Ct) : Nat := if c.n + 1 = 1 ∧ c.err = true ∧ c.sender = false then 2 else if (c.n + 1) % 8 = 0 then (if c.sender then 7 else 4) else 0
def waitC (c : Ct) (x : Bool) : Ct × Hp :=
  if x then ({ newC c 6 with n := 1 }, noH)
  else if moC (cntC c (waitE c)).cf = 2 ∧ waitE c ≠ 0 then offC (cntC c (waitE c))
  else ({ cntC c (waitE c) with n := c.n + 1 }, noH)

def holdC (c : Ct) : Bool := c.sender && decide (moC c.cf = 1)

def delimC (c : Ct) (x : Bool) : Ct × Hp :=
  if x then (if c.n + 1 = 8 then newC c 7 else { c with n := c.n + 1 }, noH)
  else if c.n + 1 < 8 then failC c 6 else overC c
def interC (c : Ct) (x : Bool) : Ct × Hp :=
  if x then (if c.n + 1 = 3 then newC c (if holdC c then 8 else 0) else { c with n := c.n + 1 }, noH)
  else if c.n + 1 < 3 then overC c else (begC c (c.has && !holdC c), noH)
def hold8C (c : Ct) (x : Bool) : Ct × Hp :=
  if x then (if c.n + 1 = 8 then newC c 0 else { c with n := c.n + 1 }, noH) else (begC c false, noH)
def offsC (c : Ct) (x : Bool) : Ct × Hp :=
  if moC (biC c.cf x) = 2 then ({ c with cf := biC c.cf x }, noH) else (newC { c with cf := biC c.cf x } 0, (11, zeroFr))

/-- A controller behind a bit, and what happens. -/
def stC (c : Ct) (x : Bool) : Ct × Hp :=
  if c.ph = 0 then idleC c x
  else if c.ph = 1 then (if c.sends then sndC c x else rcvC c x)
  else if c.ph = 2 ∨ c.ph = 4 then sixC c x
  else if c.ph = 3 then weakC c x
  else if c.ph = 5 then waitC c x
  else if c.ph = 6 then delimC c x
  else if c.ph = 7 then interC c x
  else if c.ph = 8 then hold8C c x
  else offsC c x

/-- What a controller drives. -/
def dvC (c : Ct) : Bool :=
  if c.ph = 0 then !c.has else if c.ph = 1 then (if c.sends then c.wire[c.pos]?.getD false else drT c.tk.p c.tk.fi) else !decide (c.ph = 2 ∨ c.ph = 4)

/-- One that sends F alone, behind k bits of its wire. -/
def sndAt (F : Fr) (cf : Cf) (s : Tk) (k : Nat) : Ct := ⟨1, 0, cf, true, F, true, true, wiL F, k, s, false, 0, false, false⟩
/-- One that reads, and may have a frame. -/
def rcvH (hs : Bool) (gv : Fr) (cf : Cf) (s : Tk) : Ct := ⟨1, 0, cf, hs, gv, false, false, [], 0, s, false, 0, false, false⟩
/-- A frame's first bit. -/
theorem wi_first (F : Fr) : (wiL F)[0]? = some false := by
  have h : (boL F)[0]? = some false := by
    have := (he_13 F.id F.ext F.rem F.dlc (obL F.data ++ biV (suV (preL F)))).2
    rw [← boL_split] at this; exact this
  obtain ⟨t, ht⟩ : ∃ t, boL F = false :: t := by
    cases hb : boL F with
    | nil => rw [hb] at h; cases h
    | cons x t => rw [hb] at h; simp at h; subst h; exact ⟨t, rfl⟩
  unfold wiL putL
  rw [ht, putF]
  split <;> rfl

/-- The wire as a bus sees it that is acknowledged. -/
def ackL (F : Fr) : List Bool := (wiL F).set ((putL (boL F)).length + 1) false

theorem P_pos (F : Fr) : 34 ≤ (putL (boL F)).length := by
  have h1 := (putL_len (boL F)).1
  have h2 := boL_length F
  have h3 : 19 ≤ heN F.ext := by unfold heN; split <;> omega
  omega

theorem ack_first (F : Fr) : (ackL F)[0]? = some false := by
  unfold ackL
  rw [List.getElem?_set_ne (by omega)]
  exact wi_first F

theorem rd_one {F : Fr} (hg : Good F) : Rd (ackL F) (putL (boL F)).length 1 (nxT s0 false).1 := by
  have := (whole_step hg (ack := false) (x := false) (k := 0) (s := s0) (by omega) (Rd.start _ _) (ack_first F)).2.1
  exact this

/-- A bit of a frame, for the sender and for a receiver that listens. -/
theorem sends_step {F : Fr} (hg : Good F) {k : Nat} {s : Tk} (h1 : 1 ≤ k) (hk : k < (putL (boL F)).length + 10) (h : Rd (ackL F) (putL (boL F)).length k s) {x : Bool} (hx : (ackL F)[k]? = some x) (cf : Cf) (hs : Bool) (gv : Fr) :
    dvC (sndAt F cf s k) = ((wiL F)[k]?.getD false) ∧ dvC (rcvH hs gv cf s) = !decide (k = (putL (boL F)).length + 1) ∧ x = (((wiL F)[k]?.getD false) && !decide (k = (putL (boL F)).length + 1)) ∧
    stC (sndAt F cf s k) x = (if k + 1 < (putL (boL F)).length + 10 then (sndAt F cf (nxT s x).1 (k + 1), noH) else (newC { sndAt F (evC cf 8) s k with has := false, give := zeroFr } 7, (1, F))) ∧
    stC (rcvH hs gv cf s) x = (if k = (putL (boL F)).length + 8 then (rcvH hs gv (evC cf 9) (nxT s x).1, (2, F)) else if k = (putL (boL F)).length + 9 then (newC (rcvH hs gv cf s) 7, noH) else (rcvH hs gv cf (nxT s x).1, noH)) ∧
    Rd (ackL F) (putL (boL F)).length (k + 1) (nxT s x).1 := by
  obtain ⟨e1, e2, e3⟩ := whole_step hg hk h hx
  have hwl := wiL_length F
  have hxw : x = (((wiL F)[k]?.getD false) && !decide (k = (putL (boL F)).length + 1)) := by
    unfold ackL at hx
    by_cases hkk : k = (putL (boL F)).length + 1
    · rw [hkk, List.getElem?_set_self (by rw [hwl]; omega)] at hx
      simp at hx; rw [hx, decide_eq_true hkk]; simp
    · rw [List.getElem?_set_ne (Ne.symm hkk)] at hx
      rw [hx, decide_eq_false hkk]; simp
  have hP := P_pos F
  refine ⟨rfl, e3, hxw, ?_, ?_, e2⟩
  · show sndC (sndAt F cf s k) x = _
    unfold sndC
    by_cases h9 : k = (putL (boL F)).length + 1
    · have hx0 : x = false := by rw [hxw, decide_eq_true h9]; simp
      refine (if_pos (show k + 9 = (wiL F).length by rw [hwl]; omega)).trans ?_
      refine (if_pos hx0).trans ?_
      rw [if_pos (show k + 1 < (putL (boL F)).length + 10 by omega)]; rfl
    · have hxk : (wiL F)[k]?.getD false = x := by rw [hxw, decide_eq_false h9]; simp
      refine (if_neg (show ¬ k + 9 = (wiL F).length by rw [hwl]; omega)).trans ?_
      refine (if_pos hxk).trans ?_
      by_cases hl : k + 1 < (putL (boL F)).length + 10
      · refine (if_pos (show k + 1 < (wiL F).length by rw [hwl]; exact hl)).trans ?_
        rw [if_pos hl]; rfl
      · refine (if_neg (show ¬ k + 1 < (wiL F).length by rw [hwl]; exact hl)).trans ?_
        rw [if_neg hl]; rfl
  · show rcvC (rcvH hs gv cf s) x = _
    have hT : (rcvH hs gv cf s).tk = s := rfl
    unfold rcvC
    rw [hT, e1]
    by_cases h8 : k = (putL (boL F)).length + 8
    · obtain ⟨f1, f2, _⟩ := wire_found hg (ack_take (F := F) false) (by rw [List.length_set, hwl]; omega)
      have hB := BeB.of (e2.on (by omega)) (by rw [f1]; omega) (by rw [f1]; omega)
      rw [if_pos h8, if_pos h8, hB.li, f2, pa_body hg]
      rfl
    · rw [if_neg h8, if_neg h8]
      by_cases h9 : k = (putL (boL F)).length + 9
      · rw [if_pos h9, if_pos h9]; rfl
      · rw [if_neg h9, if_neg h9]
        have hno : (x && !drT s.p s.fi) = false := by
          rw [e3, hxw]; cases decide (k = (putL (boL F)).length + 1) <;> simp
        refine (if_pos rfl).trans ?_
        rw [hno]
        rfl

end Go.Proofs.YtajdbimdiodalaaGreat

namespace Go.Proofs.YtajdbimdiodalaaGreat
open Go.RowKit Go.ChangeShapes Go.WideShapes Go.ChangeAt

theorem own : ownKnob Tryz.prog.godebug = none := by kernel_rfl
theorem laidOut : laidOutB Tryz.prog = true := by kernel_rfl

section
variable {H : Type} {enc : TypeId × Value → H} {P : Program} {W W' : World}

/-- All arguments read behind the call as they did ahead of it, if nothing below the heap's old size has turned. -/
theorem trodAll_below (hl : laidOutB P = true) : ∀ (ts : List TypeId), (∀ t ∈ ts, P.readableRec t = true ∧ t < P.types.size) → ∀ (vs : List Value) (ds : List (DataW H)) (ps : List MemPlace),
    DataW.TrodAll enc P W 0 (fun _ => true) true ts vs ds ps → Below W.heap.size W W' → (∀ x ∈ ps, x.block < W.heap.size) → DataW.TrodAll enc P W' 0 (fun b => decide (b < W.heap.size)) true ts vs ds ps := by
  intro ts
  induction ts with
  | nil =>
    intro _ vs ds ps h _ _
    obtain ⟨rfl, rfl, rfl⟩ := trodAll_nil h
    exact trodAll_mk0
  | cons t ts ih =>
    intro hr vs ds ps h hb hlt
    obtain ⟨v, vs', d, ds', p, q, rfl, rfl, rfl, h0, h1⟩ := trodAll_cons h
    exact trodAll_cons_mk (Below.trod hl (hr t (by simp)).1 (hr t (by simp)).2 h0 hb (fun x hx => hlt x (by simp [hx]))) (ih (fun t' ht' => hr t' (by simp [ht'])) _ _ _ h1 hb (fun x hx => hlt x (by simp [hx])))

/-- What a law's row asks: it returned true, and nothing that was there has turned. -/
theorem law_post {f : Func} {s : ChangeSpec} {b : TypeId} {args : Array Value} {ds gs : List (DataW H)} {before : List MemPlace} (hl : laidOutB P = true) (hv : s.vars = []) (hres : f.resultTypes = #[b]) (hb : P.underlying b = some .bool)
    (hts : ∀ t ∈ f.params.toList, P.readableRec t = true ∧ t < P.types.size) (hW : DataW.Whole enc P f.params.toList s.vars false W args.toList ds gs before)
    (hfn : s.fn H (ds ++ gs) = { results := [.lit (.bool true)], args := ds }) (hbel : Below W.heap.size W W') : s.post enc P f false true false false W args (.bool true) W' := by
  have hW' := hW
  obtain ⟨p, q, hA, hV, rfl, _, _⟩ := hW
  rw [hv] at hV
  obtain ⟨rfl, rfl⟩ := trodVars_none hV
  have hlt : ∀ x ∈ p, x.block < W.heap.size := fun x hx => hW'.lt x (by simp [hx])
  refine ⟨ds, [], p ++ [], [], p, [], hW', ?_, ?_, ?_, hbel.frame _, fun h => by cases h⟩
  · rw [hfn, hres]
    exact trodAll_cons_mk (shut_bool hb true) trodAll_mk0
  · rw [hfn]
    exact trodAll_below hl _ hts _ _ _ hA hbel hlt
  · rw [hfn, hv]
    exact rfl

end
end Go.Proofs.YtajdbimdiodalaaGreat

namespace Go.Proofs.YtajdbimdiodalaaGreat
open Go.RowKit Go.ChangeShapes Go.WideShapes Go.ChangeAt Go.Deep
set_option linter.unusedVariables false

section
variable {H : Type} {enc : TypeId × Value → H} {P : Program} {W : World}

theorem cell_bytes {T e : TypeId} {v : Value} {n0 : Nat} {x : DataW H × List MemPlace} (ht : P.underlying T = some (.slice e)) (he : P.underlying e = some (.int .u8)) (hc : P.cellsOf e = 1)
    (hf : DataW.trod enc P W 0 (fun _ => true) true n0 T [v] = some x) : ∃ a n c l, v = .slice a n c ∧ RL bv W a n c l ∧ n ≤ 9223372036854775807 := by
  rcases open_ints ht he hc hf with ⟨hcs, _⟩ | ⟨ad, len, cap, zs, hcs, _, hl, hm, hz, _, hcell, hwz⟩
  · simp at hcs
    subst hcs
    exact ⟨none, 0, 0, [], rfl, RL.nil _ _ _ _, by omega⟩
  · simp at hcs
    subst hcs
    simp only [if_true] at hz
    refine ⟨some ad, len, cap, (zs.take len).map (fun z => UInt8.ofNat z.toNat), rfl, ⟨by simp; omega, hl, fun hn => ?_⟩, by unfold maxLen at hm; omega⟩
    obtain ⟨b, off, spot⟩ := ad
    have hspot : spot = none := by simpa [Addr.add] using World.cell?_spot (hcell 0 (by omega))
    subst hspot
    refine ⟨b, off, rfl, ?_, fun i x hx => ?_⟩
    · have := World.block_lt_of_cell? W _ (hcell 0 (by omega))
      simpa [Addr.add] using this
    · have hi : i < len := by
        have := (List.getElem?_eq_some_iff.1 hx).1
        simp at this
        omega
      have hiz : i < zs.length := by omega
      have := hcell i (by omega)
      rw [Addr.add_lit] at this
      rw [this]
      simp [hi, hiz] at hx
      subst hx
      have hw := hwz (zs[i]) (List.getElem_mem hiz)
      simp only [Lit.wf, IntKind.min, IntKind.max, IntKind.signed, IntKind.bits] at hw
      simp at hw
      simp [bv, List.getD, hiz]
      omega
end

end Go.Proofs.YtajdbimdiodalaaGreat

namespace Go.Proofs.YtajdbimdiodalaaGreat
open Go.RowKit Go.ChangeShapes Go.WideShapes Go.ChangeAt Go.Deep
set_option linter.unusedVariables false

/-- A list of frames, read. -/
structure FrR (w : World) (a : Option Addr) (n c : Nat) (fs : List Ff) : Prop where
  row : RK enF 5 w a n c fs
  dat : ∀ p ∈ fs, RL bv w p.2.1 p.1.data.length p.2.2 p.1.data
  id : ∀ p ∈ fs, p.1.id < 4294967296
  dl : ∀ p ∈ fs, p.1.dlc < 256
theorem FrR.below {w w1 : World} {a : Option Addr} {n c : Nat} {fs : List Ff} (h : FrR w a n c fs) (g : Below w.heap.size w w1) : FrR w1 a n c fs := ⟨h.row.below g, fun p hp => (h.dat p hp).below g, h.id, h.dl⟩

section
variable {H : Type} {enc : TypeId × Value → H} {P : Program} {w : World} {base : Nat} {spare : Nat → Bool} {held : Bool}

theorem open_slice_fives {t e : TypeId} {f0 f1 f2 f3 f4 : Field} {fuel : Nat} {cs : List Value} {x : DataW H × List MemPlace} (ht : P.underlying t = some (.slice e)) (he : P.underlying e = some (.struct #[f0, f1, f2, f3, f4]))
    (ce : P.cellsOf e = 5) (o0 : f0.offset = 0) (o1 : f1.offset = 1) (o2 : f2.offset = 2) (o3 : f3.offset = 3) (o4 : f4.offset = 4) (c0 : P.cellsOf f0.type = 1) (c1 : P.cellsOf f1.type = 1) (c2 : P.cellsOf f2.type = 1) (c3 : P.cellsOf f3.type = 1) (c4 : P.cellsOf f4.type = 1)
    (h : DataW.trod enc P w base spare held fuel t cs = some x) :
    cs = [.slice none 0 0] ∨
    ∃ (a : Addr) (len cap m : Nat), cs = [.slice (some a) len cap] ∧ len ≤ cap ∧ cap ≤ maxLen ∧ m = (if spare a.block then cap else len) ∧
      ∀ i, i < m → ∃ (n : Nat) (v0 v1 v2 v3 v4 : Value) (y0 y1 y2 y3 y4 : DataW H × List MemPlace), w.cell? (a.add (i * 5)) = some v0 ∧ w.cell? (a.add (i * 5 + 1)) = some v1 ∧ w.cell? (a.add (i * 5 + 2)) = some v2 ∧ w.cell? (a.add (i * 5 + 3)) = some v3 ∧ w.cell? (a.add (i * 5 + 4)) = some v4 ∧
        DataW.trod enc P w base spare held n f0.type [v0] = some y0 ∧ DataW.trod enc P w base spare held n f1.type [v1] = some y1 ∧ DataW.trod enc P w base spare held n f2.type [v2] = some y2 ∧ DataW.trod enc P w base spare held n f3.type [v3] = some y3 ∧ DataW.trod enc P w base spare held n f4.type [v4] = some y4 := by
  rcases open_slice ht h with ⟨h0, _⟩ | ⟨a, len, cap, m, n, D, plc, rfl, hb, hl, hm, hmm, rfl, hx⟩
  · exact Or.inl h0
  refine Or.inr ⟨a, len, cap, m, rfl, hl, hm, hmm, fun i hi => ?_⟩
  obtain ⟨cs', h1, h2⟩ := hx i hi
  rw [ce] at h1
  obtain ⟨_, hlen, hcell⟩ := World.cells?_some h1
  obtain ⟨xs, k, hk, hxy, _, hxl, hf⟩ := DataW.trod_struct he h2
  match xs, hxl, cs', hlen with
  | [y0, y1, y2, y3, y4], _, [v0, v1, v2, v3, v4], _ =>
    have g0 := hf 0 f0 rfl
    have g1 := hf 1 f1 rfl
    have g2 := hf 2 f2 rfl
    have g3 := hf 3 f3 rfl
    have g4 := hf 4 f4 rfl
    simp [o0, o1, o2, o3, o4, c0, c1, c2, c3, c4] at g0 g1 g2 g3 g4
    have e0 := hcell 0 (by omega)
    have e1 := hcell 1 (by omega)
    have e2 := hcell 2 (by omega)
    have e3 := hcell 3 (by omega)
    have e4 := hcell 4 (by omega)
    rw [add_add] at e0 e1 e2 e3 e4
    exact ⟨k, v0, v1, v2, v3, v4, y0, y1, y2, y3, y4, by simpa using e0, by simpa using e1, by simpa using e2, by simpa using e3, by simpa using e4, g0, g1, g2, g3, g4⟩
end

set_option maxRecDepth 100000 in
theorem arg_frames {H : Type} {enc : TypeId × Value → H} {W : World} {r : Reach} {b0 : Nat} {v : Value} {d : DataW H} {ps : List MemPlace}
    (hval : Value.okWide Tryz.prog W r b0 62 v) (h : DataW.Trod enc Tryz.prog W 0 (fun _ => true) true 62 v d ps) :
    ∃ a n c fs, v = .slice a n c ∧ FrR W a n c fs ∧ (∀ p ∈ fs, p.1.data.length ≤ 9223372036854775807) ∧ n ≤ 9223372036854775807 := by
  obtain ⟨a, n, c, rfl⟩ := okWide_slice Tryz.underlying62 hval
  obtain ⟨fuel, hf⟩ := h
  rcases open_slice_fives Tryz.underlying62 Tryz.underlying35 (by kernel_rfl) rfl rfl rfl rfl rfl (by kernel_rfl) (by kernel_rfl) (by kernel_rfl) (by kernel_rfl) (by kernel_rfl) hf with hcs | ⟨ad, len, cap, m, hcs, hl, hm, hmm, hcell⟩
  · simp [Value.cells] at hcs
    obtain ⟨rfl, rfl, rfl⟩ := hcs
    exact ⟨none, 0, 0, [], rfl, ⟨RK.nil _ _ _ _ _, by simp, by simp, by simp⟩, by simp, by omega⟩
  · simp [Value.cells] at hcs
    obtain ⟨rfl, rfl, rfl⟩ := hcs
    simp only [if_true] at hmm
    subst hmm
    have each : ∀ i, i < m → ∃ q : Ff, W.cell? (ad.add (i * 5)) = some (.int .u32 (q.1.id : Int)) ∧ W.cell? (ad.add (i * 5 + 1)) = some (.bool q.1.ext) ∧ W.cell? (ad.add (i * 5 + 2)) = some (.bool q.1.rem) ∧ W.cell? (ad.add (i * 5 + 3)) = some (.int .u8 (q.1.dlc : Int)) ∧ W.cell? (ad.add (i * 5 + 4)) = some (.slice q.2.1 q.1.data.length q.2.2) ∧
        q.1.id < 4294967296 ∧ q.1.dlc < 256 ∧ RL bv W q.2.1 q.1.data.length q.2.2 q.1.data ∧ q.1.data.length ≤ 9223372036854775807 := fun i hi => by
      obtain ⟨nn, v0, v1, v2, v3, v4, y0, y1, y2, y3, y4, h0, h1, h2, h3, h4, t0, t1, t2, t3, t4⟩ := hcell i hi
      obtain ⟨x0, k0, _, z0⟩ := DataW.trod_int (show Tryz.prog.underlying 32 = some (.int .u32) by kernel_rfl) t0
      obtain ⟨x1, k1, _⟩ := DataW.trod_bool (show Tryz.prog.underlying 4 = some .bool by kernel_rfl) t1
      obtain ⟨x2, k2, _⟩ := DataW.trod_bool (show Tryz.prog.underlying 4 = some .bool by kernel_rfl) t2
      obtain ⟨x3, k3, _, z3⟩ := DataW.trod_int (show Tryz.prog.underlying 5 = some (.int .u8) by kernel_rfl) t3
      obtain ⟨a4, m4, c4, l4, rfl, hr4, hm4⟩ := cell_bytes tY.und (show Tryz.prog.underlying 5 = some (.int .u8) by kernel_rfl) tY.size t4
      simp at k0 k1 k2 k3
      rw [k0] at h0
      rw [k1] at h1
      rw [k2] at h2
      rw [k3] at h3
      have w0 : 0 ≤ x0 ∧ x0 ≤ 4294967295 := by simpa [Lit.wf, IntKind.min, IntKind.max, IntKind.signed, IntKind.bits] using z0
      have w3 : 0 ≤ x3 ∧ x3 ≤ 255 := by simpa [Lit.wf, IntKind.min, IntKind.max, IntKind.signed, IntKind.bits] using z3
      obtain ⟨y0, rfl⟩ := Int.eq_ofNat_of_zero_le w0.1
      obtain ⟨y3, rfl⟩ := Int.eq_ofNat_of_zero_le w3.1
      obtain rfl : l4.length = m4 := hr4.len
      exact ⟨(⟨y0, x1, x2, y3, l4⟩, (a4, c4)), h0, h1, h2, h3, h4, by simp only; omega, by simp only; omega, hr4, hm4⟩
    have : ∃ q : Nat → Ff, ∀ i, i < m → W.cell? (ad.add (i * 5)) = some (.int .u32 ((q i).1.id : Int)) ∧ W.cell? (ad.add (i * 5 + 1)) = some (.bool (q i).1.ext) ∧ W.cell? (ad.add (i * 5 + 2)) = some (.bool (q i).1.rem) ∧ W.cell? (ad.add (i * 5 + 3)) = some (.int .u8 ((q i).1.dlc : Int)) ∧ W.cell? (ad.add (i * 5 + 4)) = some (.slice (q i).2.1 (q i).1.data.length (q i).2.2) ∧
        (q i).1.id < 4294967296 ∧ (q i).1.dlc < 256 ∧ RL bv W (q i).2.1 (q i).1.data.length (q i).2.2 (q i).1.data ∧ (q i).1.data.length ≤ 9223372036854775807 := by
      refine ⟨fun i => if hi : i < m then Classical.choose (each i hi) else (⟨0, false, false, 0, []⟩, (none, 0)), fun i hi => ?_⟩
      have := Classical.choose_spec (each i hi)
      simpa [hi] using this
    obtain ⟨q, hq⟩ := this
    have hmem : ∀ x ∈ (List.range n).map q, ∃ i, i < m ∧ q i = x := fun x hx => by
      obtain ⟨i, hi, rfl⟩ := List.mem_map.1 hx
      exact ⟨i, by have := List.mem_range.1 hi; omega, rfl⟩
    refine ⟨some ad, n, m, (List.range n).map q, rfl, ⟨⟨by simp, hl, fun hn => ?_⟩, fun x hx => ?_, fun x hx => ?_, fun x hx => ?_⟩, fun x hx => ?_, by unfold maxLen at hm; omega⟩
    · obtain ⟨b, off, spot⟩ := ad
      have hspot : spot = none := by simpa [Addr.add] using World.cell?_spot (hq 0 (by omega)).1
      subst hspot
      refine ⟨b, off, rfl, ?_, fun i x j v hx hv => ?_⟩
      · have := World.block_lt_of_cell? W _ (hq 0 (by omega)).1
        simpa [Addr.add] using this
      · have hi : i < n := by
          have := (List.getElem?_eq_some_iff.1 hx).1
          simpa using this
        obtain ⟨h0, h1, h2, h3, h4, _⟩ := hq i (by omega)
        rw [Addr.add_lit] at h0 h1 h2 h3 h4
        simp [hi] at hx
        subst hx
        match j, hv with
        | 0, hv => simp [enF] at hv; subst hv; simpa using h0
        | 1, hv => simp [enF] at hv; subst hv; exact h1
        | 2, hv => simp [enF] at hv; subst hv; exact h2
        | 3, hv => simp [enF] at hv; subst hv; exact h3
        | 4, hv => simp [enF] at hv; subst hv; exact h4
        | j + 5, hv => simp [enF] at hv
    · obtain ⟨i, hi, rfl⟩ := hmem x hx; exact (hq i hi).2.2.2.2.2.2.2.1
    · obtain ⟨i, hi, rfl⟩ := hmem x hx; exact (hq i hi).2.2.2.2.2.1
    · obtain ⟨i, hi, rfl⟩ := hmem x hx; exact (hq i hi).2.2.2.2.2.2.1
    · obtain ⟨i, hi, rfl⟩ := hmem x hx; exact (hq i hi).2.2.2.2.2.2.2.2
end Go.Proofs.YtajdbimdiodalaaGreat

namespace Go.Proofs.YtajdbimdiodalaaGreat
open Go.RowKit Go.Sort
set_option linter.unusedVariables false
set_option linter.unusedSimpArgs false

/-- The bits of a key (one more ahead, dominant), and the key. -/
def keL (id : Nat) (ext rem : Bool) : List Bool := conL id ext rem ++ (if ext then [] else List.replicate 19 false)
def keyF (id : Nat) (ext rem : Bool) : Nat := numL (keL id ext rem)

theorem bfL_numL : ∀ (l m : List Bool), l.length = m.length → bfL l m = decide (numL l < numL m) := by
  intro l
  induction l with
  | nil => intro m h; cases m with
    | nil => rfl
    | cons => simp at h
  | cons x l ih =>
    intro m h
    cases m with
    | nil => simp at h
    | cons y m =>
      have hl : l.length = m.length := by simpa using h
      have h1 := numL_lt l
      have h2 := numL_lt m
      rw [hl] at h1
      rw [numL_cons, numL_cons, hl]
      simp only [bfL]
      by_cases e : x = y
      · subst e
        rw [if_pos rfl, ih m hl, decide_eq_decide]; omega
      · rw [if_neg e]
        cases x <;> cases y <;> simp_all <;> omega

theorem conL_split (id : Nat) (rem : Bool) : conL id true rem = ([false] ++ ofL (id / 262144) 11 ++ [true, true]) ++ (ofL id 18 ++ [rem]) := by rw [conL_true]; simp
theorem ofL_len (n m : Nat) : (ofL n m).length = m := by
  induction m with
  | zero => rfl
  | succ m ih => simp [ofL, ih]

theorem keL_length (id : Nat) (ext rem : Bool) : (keL id ext rem).length = 33 := by
  unfold keL conL
  cases ext <;> simp [ofL_len]

theorem ends_ne (p q : List Bool) (x : Bool) (h : p.length = q.length) : p ++ [x, false] ≠ q ++ [true, true] := by
  intro e
  have := (List.append_inj e h).2
  simp at this

theorem keL_bf (id : Nat) (ext rem : Bool) (id2 : Nat) (ext2 rem2 : Bool) : bfL (conL id ext rem) (conL id2 ext2 rem2) = bfL (keL id ext rem) (keL id2 ext2 rem2) := by
  unfold keL
  cases ext <;> cases ext2 <;> simp only [if_true, if_false, List.append_nil, Bool.false_eq_true]
  · by_cases e : conL id false rem = conL id2 false rem2
    · rw [e, bfL_self, bfL_self]
    · rw [bfL_len _ _ _ (by simp [conL, ofL_len]) e]
  · rw [conL_split]
    have hne : conL id false rem ≠ [false] ++ ofL (id2 / 262144) 11 ++ [true, true] := ends_ne _ _ _ (by simp [ofL_len])
    have hl : (conL id false rem).length = ([false] ++ ofL (id2 / 262144) 11 ++ [true, true]).length := by simp [conL, ofL_len]
    have := bfL_len _ _ [] hl hne (ofL id2 18 ++ [rem2])
    rw [List.append_nil] at this
    rw [this, bfL_len _ _ _ hl hne]
  · rw [conL_split]
    have hne : [false] ++ ofL (id / 262144) 11 ++ [true, true] ≠ conL id2 false rem2 := fun e => ends_ne _ _ _ (by simp [ofL_len]) e.symm
    have hl : ([false] ++ ofL (id / 262144) 11 ++ [true, true]).length = (conL id2 false rem2).length := by simp [conL, ofL_len]
    have := bfL_len _ _ (ofL id 18 ++ [rem]) hl hne []
    rw [List.append_nil] at this
    rw [this, bfL_len _ _ _ hl hne]

/-- Of two frames that one goes on whose key is the lesser one. -/
theorem key_before (id : Nat) (ext rem : Bool) (id2 : Nat) (ext2 rem2 : Bool) : bfL (conL id ext rem) (conL id2 ext2 rem2) = decide (keyF id ext rem < keyF id2 ext2 rem2) := by
  rw [keL_bf, bfL_numL _ _ (by rw [keL_length, keL_length])]; rfl

theorem zeros_num (n : Nat) : numL (List.replicate n false) = 0 := by
  induction n with
  | zero => rfl
  | succ n ih => rw [List.replicate_succ, numL_cons, ih]; simp

/-- A key, reckoned. -/
theorem key_base (id : Nat) (rem : Bool) : keyF id false rem = (id % 2048 * 2 + rem.toNat) * 1048576 := by
  unfold keyF keL conL
  simp only [if_false, Bool.false_eq_true]
  rw [numL_append, zeros_num, List.length_replicate, numL_append, numL_append, numL_ofL]
  cases rem <;> simp [numL, ofL_len] <;> omega
theorem key_ext (id : Nat) (rem : Bool) : keyF id true rem = ((id / 262144 % 2048 * 4 + 3) * 262144 + id % 262144) * 2 + rem.toNat := by
  unfold keyF keL conL
  simp only [if_true, List.append_nil]
  rw [numL_append, numL_append, numL_append, numL_append, numL_ofL, numL_ofL, ofL_len, ofL_len]
  cases rem <;> simp [numL] <;> omega
theorem key_lt (id : Nat) (ext rem : Bool) : keyF id ext rem < 4294967296 := by
  cases ext
  · rw [key_base]; have := Nat.mod_lt id (show 0 < 2048 by omega); cases rem <;> simp <;> omega
  · rw [key_ext]; have := Nat.mod_lt id (show 0 < 262144 by omega); have := Nat.mod_lt (id / 262144) (show 0 < 2048 by omega); cases rem <;> simp <;> omega
end Go.Proofs.YtajdbimdiodalaaGreat

namespace Go.Proofs.YtajdbimdiodalaaGreat
open Go.RowKit Go.Sort
set_option linter.unusedVariables false

/-- A frame that waits: the frame, where its data lie, its number. -/
abbrev Wt := Ff × Nat
abbrev wtV (p : Wt) : Array Value := #[.int .u32 (p.1.1.id : Int), .bool p.1.1.ext, .bool p.1.1.rem, .int .u8 (p.1.1.dlc : Int), .slice p.1.2.1 p.1.1.data.length p.1.2.2, .int .i64 (p.2 : Int)]
abbrev wtZ : Array Value := #[.int .u32 0, .bool false, .bool false, .int .u8 0, .slice none 0 0, .int .i64 0]
theorem wt_ones (p : Wt) : (wtV p).all (·.oneCell') = true := by kernel_rfl
def enW (p : Wt) : List Value := (wtV p).toList
theorem enW_k : EnK enW 6 := ⟨fun _ => rfl, fun p v hv => (Array.all_eq_true_iff_forall_mem.1 (wt_ones p)) v (by simpa [enW] using hv)⟩
theorem elW : ElK Tryz.prog 136 164 6 (.agg wtZ) 40 := ⟨by kernel_rfl, by kernel_rfl, by kernel_rfl, by kernel_rfl, rfl, by omega⟩
theorem rowW : RowT Tryz.prog 164 6 := rowT_of (by kernel_rfl) (by kernel_rfl)
def w0W : Wt := ((⟨0, false, false, 0, []⟩, (none, 0)), 0)

def kyW (p : Wt) : Nat := keyF p.1.1.id p.1.1.ext p.1.1.rem

/-- A mail. -/
structure Ml where
  room : Nat
  puts : Nat
  ws : List Wt
  wire : Nat
  ab : Bool

abbrev mlV (g : Nat) (m : Ml) (a : Option Addr) (c : Nat) : Array Value := #[.pointer (some ⟨g, 0, none⟩), .int .i64 (m.room : Int), .int .i64 (m.puts : Int), .slice a m.ws.length c, .int .i64 (m.wire : Int), .bool m.ab]

/-- A frame that waits, as it lies: its data are read; its numbers are in their bounds. -/
structure WtR (w : World) (p : Wt) : Prop where
  dat : RL bv w p.1.2.1 p.1.1.data.length p.1.2.2 p.1.1.data
  id : p.1.1.id < 4294967296
  dl : p.1.1.dlc < 256
  len : p.1.1.data.length ≤ 1000000
  num : p.2 < 4611686018427387904

/-- A mail in its box g: the row of those that wait; all its blocks lie from B on, and are in S. -/
structure MlO (B : Nat) (w : World) (g : Nat) (m : Ml) (a : Option Addr) (c : Nat) (S : Nat → Prop) : Prop where
  box : w.heap[g]? = some (.cells (mlV g m a c) 138 (0, 0))
  row : OK enW 6 164 B w a m.ws.length c m.ws
  wt : ∀ p ∈ m.ws, WtR w p
  hB : B ≤ g
  sg : S g
  sr : ∀ q, a = some q → S q.block
  sd : ∀ p ∈ m.ws, ∀ q, p.1.2.1 = some q → S q.block
  sB : ∀ k, S k → B ≤ k
  ng : NB a g
  nd : ∀ p ∈ m.ws, NB p.1.2.1 g ∧ ∀ q, a = some q → NB p.1.2.1 q.block
  rm : m.room ≤ 1000
  le : m.ws.length ≤ m.room
  pu : m.puts < 4611686018427387904
  wi : m.wire < 4611686018427387904
  sL : ∀ k, S k → k < w.heap.size

/-- What is said of a mail at any time: the one on the wire waits; none is aborted but it. -/
structure MlI (m : Ml) : Prop where
  wr : m.wire = 0 ∨ ∃ p ∈ m.ws, p.2 = m.wire
  aw : m.ab = true → m.wire ≠ 0
  no : ∀ p ∈ m.ws, 1 ≤ p.2 ∧ p.2 ≤ m.puts
  up : m.ws.Pairwise (fun p q => p.2 < q.2)

section
variable {B : Nat} {w w1 : World} {g : Nat} {m : Ml} {a : Option Addr} {c : Nat} {S S1 : Nat → Prop}

theorem WtR.ch {p : Wt} (h : WtR w p) (k : Ch S w w1) (hn : ∀ q, p.1.2.1 = some q → ¬ S q.block) : WtR w1 p := ⟨h.dat.ch k hn, h.id, h.dl, h.len, h.num⟩
theorem WtR.below {p : Wt} (h : WtR w p) (k : Below w.heap.size w w1) : WtR w1 p := ⟨h.dat.below k, h.id, h.dl, h.len, h.num⟩
theorem MlO.lt (h : MlO B w g m a c S) : g < w.heap.size := bx_lt h.box
/-- What changes none of its blocks leaves a mail. -/
theorem MlO.ch (h : MlO B w g m a c S) (k : Ch S1 w w1) (hn : ∀ b, S b → ¬ S1 b) : MlO B w1 g m a c S :=
  ⟨k.bx h.box (hn _ h.sg), h.row.ch k (fun q hq => hn _ (h.sr q hq)), fun p hp => (h.wt p hp).ch k (fun q hq => hn _ (h.sd p hp q hq)), h.hB, h.sg, h.sr, h.sd, h.sB, h.ng, h.nd, h.rm, h.le, h.pu, h.wi, fun q hq => Nat.lt_of_lt_of_le (h.sL q hq) k.size⟩
theorem MlO.below (h : MlO B w g m a c S) (k : Below w.heap.size w w1) : MlO B w1 g m a c S := h.ch (S1 := fun _ => False) (Ch.of_below k) (fun _ _ e => e)
theorem MlO.alloc (h : MlO B w g m a c S) (o : Obj) : MlO B (w.alloc o) g m a c S := h.below (bnew0 w o)
/-- A larger set. -/
theorem MlO.more (h : MlO B w g m a c S) (hs : ∀ b, S b → S1 b) (hB : ∀ k, S1 k → B ≤ k) (hL : ∀ k, S1 k → k < w.heap.size) : MlO B w g m a c S1 := ⟨h.box, h.row, h.wt, h.hB, hs _ h.sg, fun q hq => hs _ (h.sr q hq), fun p hp q hq => hs _ (h.sd p hp q hq), hB, h.ng, h.nd, h.rm, h.le, h.pu, h.wi, hL⟩
end
/-- Where a number stands; -1: nowhere. -/
def fiW (n : Int) (ws : List Wt) : Int := match ws.findIdx? (fun p => decide ((p.2 : Int) = n)) with | some i => (i : Int) | none => -1
theorem fiW_at {n : Int} {ws : List Wt} {k : Nat} {p : Wt} (h : ws[k]? = some p) (hp : (p.2 : Int) = n) (hn : ∀ j q, j < k → ws[j]? = some q → (q.2 : Int) ≠ n) : fiW n ws = (k : Int) := by
  obtain ⟨hk, rfl⟩ := List.getElem?_eq_some_iff.1 h
  have : ws.findIdx? (fun p => decide ((p.2 : Int) = n)) = some k := by
    rw [List.findIdx?_eq_some_iff_getElem]
    exact ⟨hk, by simpa using hp, fun j hj => by simpa using hn j _ hj (by simp)⟩
  unfold fiW; rw [this]
theorem fiW_no {n : Int} {ws : List Wt} (hn : ∀ q ∈ ws, (q.2 : Int) ≠ n) : fiW n ws = -1 := by
  have : ws.findIdx? (fun p => decide ((p.2 : Int) = n)) = none := by
    rw [List.findIdx?_eq_none_iff]; intro q hq; simpa using hn q hq
  unfold fiW; rw [this]
theorem fiW_or (n : Int) (ws : List Wt) : (fiW n ws = -1 ∧ ∀ q ∈ ws, (q.2 : Int) ≠ n) ∨ ∃ (k : Nat) (p : Wt), ws[k]? = some p ∧ (p.2 : Int) = n ∧ fiW n ws = (k : Int) ∧ (∀ (j : Nat) (q : Wt), j < k → ws[j]? = some q → (q.2 : Int) ≠ n) := by
  cases h : ws.findIdx? (fun p => decide ((p.2 : Int) = n)) with
  | none =>
    left
    have := List.findIdx?_eq_none_iff.1 h
    exact ⟨by unfold fiW; rw [h], fun q hq => by simpa using this q hq⟩
  | some k =>
    right
    obtain ⟨hk, h1, h2⟩ := List.findIdx?_eq_some_iff_getElem.1 h
    refine ⟨k, ws[k], by simp, by simpa using h1, by unfold fiW; rw [h], fun j q hj hq => ?_⟩
    obtain ⟨hj', rfl⟩ := List.getElem?_eq_some_iff.1 hq
    simpa using h2 j hj

/-- Without a number. -/
def rmW (n : Nat) (ws : List Wt) : List Wt := ws.eraseP (fun p => decide (p.2 = n))
theorem rmW_at {n k : Nat} {ws : List Wt} {p : Wt} (h : ws[k]? = some p) (hp : p.2 = n) (hn : ∀ j q, j < k → ws[j]? = some q → q.2 ≠ n) : rmW n ws = ws.take k ++ ws.drop (k + 1) := by
  induction ws generalizing k with
  | nil => simp at h
  | cons x l ih =>
    cases k with
    | zero => simp at h; subst h; unfold rmW; simp [hp]
    | succ k =>
      have hx : x.2 ≠ n := hn 0 x (by omega) (by simp)
      have := ih (k := k) (by simpa using h) (fun j q hj hq => hn (j + 1) q (by omega) (by simpa using hq))
      unfold rmW at this ⊢
      rw [List.eraseP_cons_of_neg (by simpa using hx), this]; simp

/-- The best one of those behind, or one ahead. -/
def miW : List Wt → Wt → Wt
  | x :: l, p => if kyW x < kyW p then miW l x else miW l p
  | [], p => p
theorem miW_mem : ∀ (l : List Wt) (p : Wt), miW l p = p ∨ miW l p ∈ l := by
  intro l
  induction l with
  | nil => intro p; exact .inl rfl
  | cons x l ih =>
    intro p
    unfold miW
    split
    · rcases ih x with h | h
      · right; rw [h]; simp
      · right; simp [h]
    · rcases ih p with h | h
      · exact .inl h
      · right; simp [h]
/-- The best one, or the one on the wire. -/
def beM (m : Ml) : Option Wt := match m.ws with | [] => none | p :: l => if m.wire = 0 then some (miW l p) else m.ws.find? (fun q => decide (q.2 = m.wire))
end Go.Proofs.YtajdbimdiodalaaGreat
