/-
  Contracts of the functions of layer 7: the state at another place, or over; what is due; whether a body is complete.
  Contracts of what a bit leads to behind the body: each as the plain function says.
  Contract of inBody: a bit of the body, or a stuff bit.
  Contract of inBody: a stuff bit, a plain bit; all in one.
-/
import Derived.Test.YthpgcgkgokfnpaaM7
import Derived.Test.YthpgcgkgokfnpaaB4u
namespace Go.Proofs.Ythpgcgkgokfnpaa
open Go.RowKit
set_option linter.unusedVariables false

theorem over_any (w : World) (b : Bool) (m : Nat) (a : Option Addr) (n c : Nat) (p : Int) (fi : Bool) (q : Int) :
    Calls Try.prog 64 #[.agg #[.bool b, .int .u8 (m : Int), .slice a n c, .int .u8 p, .bool fi], .int .u8 q] w fun e w' => e = .returned (.tuple #[.agg #[.bool b, .int .u8 (m : Int), .slice a n c, .int .u8 11, .bool fi], .int .u8 q]) ∧ Below w.heap.size w w' := by
  go_enter Try.func64, Try.ntmps64
  go_wp2
  exact bodyPost_ret (v := .tuple #[.agg #[.bool b, .int .u8 (m : Int), .slice a n c, .int .u8 11, .bool fi], .int .u8 q]) (by simp [results, Try.results64, go_sem]) rfl ⟨rfl, bnew (bnew0 _ _) _⟩

theorem onward_any (w : World) (b : Bool) (m : Nat) (a : Option Addr) (n c : Nat) (p : Int) (fi : Bool) (q p1 : Int) (hp : p1 = p + 1) (h11 : 0 ≤ p ∧ p1 ≤ 11) :
    Calls Try.prog 66 #[.agg #[.bool b, .int .u8 (m : Int), .slice a n c, .int .u8 p, .bool fi], .int .u8 q] w fun e w' => e = .returned (.tuple #[.agg #[.bool b, .int .u8 (m : Int), .slice a n c, .int .u8 p1, .bool fi], .int .u8 q]) ∧ Below w.heap.size w w' := by
  have HP := hid hp; clear hp
  have hpi : p + 1 ≤ 11 := by have := HP.out; omega
  have hp0 := h11.1
  go_enter Try.func66, Try.ntmps66
  go_wp2
  have e : (p + 1) = p1 := by have := HP.out; omega
  rw [← e]
  exact bodyPost_ret (v := .tuple #[.agg #[.bool b, .int .u8 (m : Int), .slice a n c, .int .u8 (p + 1), .bool fi], .int .u8 q]) (by simp [results, Try.results66, go_sem]) rfl ⟨rfl, bnew (bnew0 _ _) _⟩

theorem due_any (w : World) (b : Bool) (m : Nat) (a : Option Addr) (n c : Nat) (p : Int) (fi : Bool) (hm : m < 256) :
    Calls Try.prog 27 #[.agg #[.bool b, .int .u8 (m : Int), .slice a n c, .int .u8 p, .bool fi]] w fun e w' => e = .returned (.bool (decide (m = 5))) ∧ Below w.heap.size w w' := by
  go_enter Try.func27, Try.ntmps27
  go_wp2_with (go_at_call 37; (with_reducible refine (owed_any _ b m hm).mono ?_); rintro e w1 ⟨rfl, g1⟩; have gg1 := bstep (bnew0 w _) g1)
  go_ret
  exact ⟨rfl, gg1⟩

theorem complete_any (w : World) (a : Option Addr) (n c : Nat) (l : List Bool) (h : RL .bool w a n c l) (hn : n ≤ 100000) :
    Calls Try.prog 65 #[.slice a n c] w fun e w' => e = .returned (.bool (cmpL l)) ∧ Below w.heap.size w w' := by
  have hc := fun w1 h1 => fhead_U w1 a n c l h1 hn
  have hr : Hid (cmpL l = (hdK l && decide ((n : Int) = (hdU l : Int)))) := by
    show _ = _
    unfold cmpL hdU
    rw [h.len]
    cases hdK l
    · rfl
    · simp only [Bool.true_and, if_true, decide_eq_decide]; omega
  generalize cmpL l = r at hr
  generalize hdU l = N at hc hr
  cases hk : hdK l
  all_goals
    rw [hk] at hc hr
    clear hk
    go_enter Try.func65, Try.ntmps65
    go_wp2_with (go_at_call 47; (with_reducible refine (hc _ h).mono ?_); rintro e w1 ⟨rfl, g1⟩)
    go_ret
    refine ⟨ret_bool ?_, g1⟩
    rw [hr.out]
    first | rfl | (rw [Bool.eq_iff_iff]; simp)
end Go.Proofs.Ythpgcgkgokfnpaa

namespace Go.Proofs.Ythpgcgkgokfnpaa
open Go.RowKit
set_option linter.unusedVariables false

theorem below7 {B g : Nat} {w w1 : World} (h : Below B w w1) (hg : B ≤ g) (v0 v1 v2 v3 v4 : Value) : Below B w (((((w1.setCell ⟨g, 0, none⟩ v0).setCell ⟨g, 1, none⟩ v1).setCell ⟨g, 2, none⟩ v2).setCell ⟨g, 3, none⟩ v3).setCell ⟨g, 4, none⟩ v4) :=
  ((((h.setCell hg _).setCell hg _).setCell hg _).setCell hg _).setCell hg _

theorem atFixed_any (w : World) (b : Bool) (m : Nat) (a : Option Addr) (n c : Nat) (p p1 : Int) (fi x : Bool) (hp : p1 = p + 1) (h11 : 0 ≤ p ∧ p1 ≤ 11) :
    Calls Try.prog 42 #[.agg #[.bool b, .int .u8 (m : Int), .slice a n c, .int .u8 p, .bool fi], .bool x] w fun e w' => e = .returned (.tuple #[.agg #[.bool b, .int .u8 (m : Int), .slice a n c, .int .u8 (if x then p1 else 11), .bool fi], .int .u8 (if x then 0 else 2)]) ∧ Below w.heap.size w w' := by
  have ho := fun w1 => onward_any w1 b m a n c p fi 0 p1 hp h11
  have hv := fun w1 => over_any w1 b m a n c p fi 2
  clear hp
  cases x
  · simp only [Bool.false_eq_true, if_false]
    go_enter Try.func42, Try.ntmps42
    go_wp2_with (go_at_call 64; (with_reducible refine (hv _).mono ?_); rintro e w1 ⟨rfl, g1⟩; obtain ⟨h0, h1, gg1⟩ := two_bx g1; obtain ⟨c0, c1, c2, c3, c4⟩ := bx5 h1; have f0 := bx_thaw h1)
    exact bodyPost_ret (v := .tuple #[.agg #[.bool b, .int .u8 (m : Int), .slice a n c, .int .u8 11, .bool fi], .int .u8 2]) (by simp [results, Try.results42, go_sem, c0, c1, c2, c3, c4]) rfl ⟨rfl, below7 gg1 (by omega) _ _ _ _ _⟩
  · simp only [if_true]
    go_enter Try.func42, Try.ntmps42
    go_wp2_with (go_at_call 66; (with_reducible refine (ho _).mono ?_); rintro e w1 ⟨rfl, g1⟩; obtain ⟨h0, h1, gg1⟩ := two_bx g1; obtain ⟨c0, c1, c2, c3, c4⟩ := bx5 h1; have f0 := bx_thaw h1)
    exact bodyPost_ret (v := .tuple #[.agg #[.bool b, .int .u8 (m : Int), .slice a n c, .int .u8 p1, .bool fi], .int .u8 0]) (by simp [results, Try.results42, go_sem, c0, c1, c2, c3, c4]) rfl ⟨rfl, below7 gg1 (by omega) _ _ _ _ _⟩

theorem atAck_any (w : World) (b : Bool) (m : Nat) (a : Option Addr) (n c : Nat) (fi x : Bool) :
    Calls Try.prog 43 #[.agg #[.bool b, .int .u8 (m : Int), .slice a n c, .int .u8 2, .bool fi], .bool x] w fun e w' => e = .returned (.tuple #[.agg #[.bool b, .int .u8 (m : Int), .slice a n c, .int .u8 3, .bool fi], .int .u8 0]) ∧ Below w.heap.size w w' := by
  have ho := fun w1 => onward_any w1 b m a n c 2 fi 0 3 (by omega) (by omega)
  go_enter Try.func43, Try.ntmps43
  go_wp2_with (go_at_call 66; (with_reducible refine (ho _).mono ?_); rintro e w1 ⟨rfl, g1⟩; obtain ⟨h0, h1, gg1⟩ := two_bx g1; obtain ⟨c0, c1, c2, c3, c4⟩ := bx5 h1; have f0 := bx_thaw h1)
  exact bodyPost_ret (v := .tuple #[.agg #[.bool b, .int .u8 (m : Int), .slice a n c, .int .u8 3, .bool fi], .int .u8 0]) (by simp [results, Try.results43, go_sem, c0, c1, c2, c3, c4]) rfl ⟨rfl, below7 gg1 (by omega) _ _ _ _ _⟩

theorem atDone_any (w : World) (b : Bool) (m : Nat) (a : Option Addr) (n c : Nat) (fi x : Bool) :
    Calls Try.prog 44 #[.agg #[.bool b, .int .u8 (m : Int), .slice a n c, .int .u8 3, .bool fi], .bool x] w fun e w' => e = .returned (.tuple #[.agg #[.bool b, .int .u8 (m : Int), .slice a n c, .int .u8 (if x && fi then 4 else 11), .bool fi], .int .u8 (if x then (if fi then 0 else 3) else 2)]) ∧ Below w.heap.size w w' := by
  have hf := fun w1 => atFixed_any w1 b m a n c 3 4 fi x (by omega) (by omega)
  have hv := fun w1 => over_any w1 b m a n c 3 fi 3
  cases x
  · simp only [Bool.false_eq_true, if_false, Bool.false_and] at hf ⊢
    go_enter Try.func44, Try.ntmps44
    go_wp2_with (go_at_call 42; (with_reducible refine (hf _).mono ?_); rintro e w1 ⟨rfl, g1⟩; obtain ⟨h0, h1, gg1⟩ := two_bx g1; obtain ⟨c0, c1, c2, c3, c4⟩ := bx5 h1; have f0 := bx_thaw h1)
    exact bodyPost_ret (v := .tuple #[.agg #[.bool b, .int .u8 (m : Int), .slice a n c, .int .u8 11, .bool fi], .int .u8 2]) (by simp [results, Try.results44, go_sem, c0, c1, c2, c3, c4]) rfl ⟨rfl, below7 gg1 (by omega) _ _ _ _ _⟩
  · cases fi
    · simp only [Bool.false_eq_true, if_false, if_true, Bool.and_false] at hf ⊢
      go_enter Try.func44, Try.ntmps44
      go_wp2_with (go_at_call 64; (with_reducible refine (hv _).mono ?_); rintro e w1 ⟨rfl, g1⟩; obtain ⟨h0, h1, gg1⟩ := two_bx g1; obtain ⟨c0, c1, c2, c3, c4⟩ := bx5 h1; have f0 := bx_thaw h1)
      exact bodyPost_ret (v := .tuple #[.agg #[.bool b, .int .u8 (m : Int), .slice a n c, .int .u8 11, .bool false], .int .u8 3]) (by simp [results, Try.results44, go_sem, c0, c1, c2, c3, c4]) rfl ⟨rfl, below7 gg1 (by omega) _ _ _ _ _⟩
    · simp only [if_true, Bool.and_true] at hf ⊢
      go_enter Try.func44, Try.ntmps44
      go_wp2_with (go_at_call 42; (with_reducible refine (hf _).mono ?_); rintro e w1 ⟨rfl, g1⟩; obtain ⟨h0, h1, gg1⟩ := two_bx g1; obtain ⟨c0, c1, c2, c3, c4⟩ := bx5 h1; have f0 := bx_thaw h1)
      exact bodyPost_ret (v := .tuple #[.agg #[.bool b, .int .u8 (m : Int), .slice a n c, .int .u8 4, .bool true], .int .u8 0]) (by simp [results, Try.results44, go_sem, c0, c1, c2, c3, c4]) rfl ⟨rfl, below7 gg1 (by omega) _ _ _ _ _⟩

theorem atEnd_any (w : World) (b : Bool) (m : Nat) (a : Option Addr) (n c : Nat) (p p1 : Int) (fi x : Bool) (hp : p1 = p + 1) (h11 : 4 ≤ p ∧ p ≤ 9) :
    Calls Try.prog 45 #[.agg #[.bool b, .int .u8 (m : Int), .slice a n c, .int .u8 p, .bool fi], .bool x] w fun e w' => e = .returned (.tuple #[.agg #[.bool b, .int .u8 (m : Int), .slice a n c, .int .u8 (if x then p1 else 11), .bool fi], .int .u8 (if x then (if p = 9 then 4 else 0) else 2)]) ∧ Below w.heap.size w w' := by
  have hf := fun w1 => atFixed_any w1 b m a n c p p1 fi x hp (by omega)
  have ho := fun w1 => onward_any w1 b m a n c p fi 4 p1 hp (by omega)
  have HP := hid hp; clear hp
  cases x
  · simp only [Bool.false_eq_true, if_false] at hf ⊢
    go_enter Try.func45, Try.ntmps45
    go_wp2_with (go_at_call 42; (with_reducible refine (hf _).mono ?_); rintro e w1 ⟨rfl, g1⟩; obtain ⟨h0, h1, gg1⟩ := two_bx g1; obtain ⟨c0, c1, c2, c3, c4⟩ := bx5 h1; have f0 := bx_thaw h1)
    exact bodyPost_ret (v := .tuple #[.agg #[.bool b, .int .u8 (m : Int), .slice a n c, .int .u8 11, .bool fi], .int .u8 2]) (by simp [results, Try.results45, go_sem, c0, c1, c2, c3, c4]) rfl ⟨rfl, below7 gg1 (by omega) _ _ _ _ _⟩
  · simp only [if_true] at hf ⊢
    by_cases h9 : p = 9
    · subst h9
      simp only [if_true]
      clear h11
      go_enter Try.func45, Try.ntmps45
      go_wp2_with (go_at_call 66; (with_reducible refine (ho _).mono ?_); rintro e w1 ⟨rfl, g1⟩; obtain ⟨h0, h1, gg1⟩ := two_bx g1; obtain ⟨c0, c1, c2, c3, c4⟩ := bx5 h1; have f0 := bx_thaw h1)
      exact bodyPost_ret (v := .tuple #[.agg #[.bool b, .int .u8 (m : Int), .slice a n c, .int .u8 p1, .bool fi], .int .u8 4]) (by simp [results, Try.results45, go_sem, c0, c1, c2, c3, c4]) rfl ⟨rfl, below7 gg1 (by omega) _ _ _ _ _⟩
    · rw [if_neg h9]
      go_enter Try.func45, Try.ntmps45
      go_wp2_with (go_at_call 42; (with_reducible refine (hf _).mono ?_); rintro e w1 ⟨rfl, g1⟩; obtain ⟨h0, h1, gg1⟩ := two_bx g1; obtain ⟨c0, c1, c2, c3, c4⟩ := bx5 h1; have f0 := bx_thaw h1)
      exact bodyPost_ret (v := .tuple #[.agg #[.bool b, .int .u8 (m : Int), .slice a n c, .int .u8 p1, .bool fi], .int .u8 0]) (by simp [results, Try.results45, go_sem, c0, c1, c2, c3, c4]) rfl ⟨rfl, below7 gg1 (by omega) _ _ _ _ _⟩

theorem atLast_any (w : World) (b : Bool) (m : Nat) (a : Option Addr) (n c : Nat) (fi x : Bool) :
    Calls Try.prog 46 #[.agg #[.bool b, .int .u8 (m : Int), .slice a n c, .int .u8 10, .bool fi], .bool x] w fun e w' => e = .returned (.tuple #[.agg #[.bool b, .int .u8 (m : Int), .slice a n c, .int .u8 11, .bool fi], .int .u8 (if x then 6 else 5)]) ∧ Below w.heap.size w w' := by
  have ho := fun w1 => onward_any w1 b m a n c 10 fi 5 11 (by omega) (by omega)
  have hv := fun w1 => onward_any w1 b m a n c 10 fi 6 11 (by omega) (by omega)
  cases x
  · simp only [Bool.false_eq_true, if_false]
    go_enter Try.func46, Try.ntmps46
    go_wp2_with (go_at_call 66; (with_reducible refine (ho _).mono ?_); rintro e w1 ⟨rfl, g1⟩; obtain ⟨h0, h1, gg1⟩ := two_bx g1; obtain ⟨c0, c1, c2, c3, c4⟩ := bx5 h1; have f0 := bx_thaw h1)
    exact bodyPost_ret (v := .tuple #[.agg #[.bool b, .int .u8 (m : Int), .slice a n c, .int .u8 11, .bool fi], .int .u8 5]) (by simp [results, Try.results46, go_sem, c0, c1, c2, c3, c4]) rfl ⟨rfl, below7 gg1 (by omega) _ _ _ _ _⟩
  · simp only [if_true]
    go_enter Try.func46, Try.ntmps46
    go_wp2_with (go_at_call 66; (with_reducible refine (hv _).mono ?_); rintro e w1 ⟨rfl, g1⟩; obtain ⟨h0, h1, gg1⟩ := two_bx g1; obtain ⟨c0, c1, c2, c3, c4⟩ := bx5 h1; have f0 := bx_thaw h1)
    exact bodyPost_ret (v := .tuple #[.agg #[.bool b, .int .u8 (m : Int), .slice a n c, .int .u8 11, .bool fi], .int .u8 6]) (by simp [results, Try.results46, go_sem, c0, c1, c2, c3, c4]) rfl ⟨rfl, below7 gg1 (by omega) _ _ _ _ _⟩
end Go.Proofs.Ythpgcgkgokfnpaa

namespace Go.Proofs.Ythpgcgkgokfnpaa
open Go.RowKit
set_option linter.unusedVariables false

/-- The state's box, the result's, the run's, and the row that grows, all in one. -/
structure In7 (B g : Nat) (w wr : World) (q : Nat) (t r u : Array Value) (a : Option Addr) (n c : Nat) (l : List Bool) : Prop where
  t : wr.heap[g]? = some (.cells t 29 (0, 0))
  r : wr.heap[g + 1]? = some (.cells r 29 (0, 0))
  u : wr.heap[q]? = some (.cells u 27 (0, 0))
  own : OL .bool 4 B wr a n c l
  bel : Below B w wr
  hq : g + 1 < q
  hB : B ≤ g
  nt : NB a g
  nr : NB a (g + 1)
  nu : NB a q

section
variable {B g q : Nat} {w wr w2 : World} {t r u t' : Array Value} {a a2 : Option Addr} {n c n2 c2 : Nat} {l l2 : List Bool}

theorem In7.size (h : In7 B g w wr q t r u a n c l) : B ≤ wr.heap.size := by have := bx_lt h.t; have := h.hB; omega

theorem In7.call (h : In7 B g w wr q t r u a n c l) (gg : Below wr.heap.size wr w2) : In7 B g w w2 q t r u a n c l :=
  ⟨bx_below h.t gg, bx_below h.r gg, bx_below h.u gg, h.own.below gg, h.bel.trans (gg.mono h.size), h.hq, h.hB, h.nt, h.nr, h.nu⟩

theorem In7.alloc (h : In7 B g w wr q t r u a n c l) (o : Obj) : In7 B g w (wr.alloc o) q t r u a n c l :=
  ⟨bx_alloc _ h.t, bx_alloc _ h.r, bx_alloc _ h.u, h.own.alloc _, h.bel.alloc h.size _, h.hq, h.hB, h.nt, h.nr, h.nu⟩

theorem In7.set (h : In7 B g w wr q t r u a n c l) (i : Nat) (v : Value) : In7 B g w (wr.setCell ⟨g, i, none⟩ v) q (t.setIfInBounds i v) r u a n c l :=
  ⟨heap_setCell_same wr g i _ _ v h.t, by rw [heap_setCell_other _ _ _ _ (by simp)]; exact h.r, by rw [heap_setCell_other _ _ _ _ (by have := h.hq; simp; omega)]; exact h.u,
   h.own.kept fun k hk => heap_setCell_other _ _ _ _ (by subst hk; exact h.nt.block), h.bel.setCell h.hB _, h.hq, h.hB, h.nt, h.nr, h.nu⟩

theorem In7.app (h : In7 B g w wr q t r u a n c l) (ho : OL .bool 4 B w2 a2 n2 c2 l2) (gg : Below B wr w2) (hk : ∀ k, k < wr.heap.size → NB a k → w2.heap[k]? = wr.heap[k]? ∧ NB a2 k) : In7 B g w w2 q t r u a2 n2 c2 l2 :=
  ⟨((hk g (bx_lt h.t) h.nt).1).trans h.t, ((hk _ (bx_lt h.r) h.nr).1).trans h.r, ((hk _ (bx_lt h.u) h.nu).1).trans h.u, ho, h.bel.trans gg, h.hq, h.hB, (hk g (bx_lt h.t) h.nt).2, (hk _ (bx_lt h.r) h.nr).2, (hk _ (bx_lt h.u) h.nu).2⟩

theorem In7.fin (h : In7 B g w wr q t r u a n c l) (v0 v1 v2 v3 v4 : Value) : OL .bool 4 B (((((wr.setCell ⟨g + 1, 0, none⟩ v0).setCell ⟨g + 1, 1, none⟩ v1).setCell ⟨g + 1, 2, none⟩ v2).setCell ⟨g + 1, 3, none⟩ v3).setCell ⟨g + 1, 4, none⟩ v4) a n c l ∧
    Below B w (((((wr.setCell ⟨g + 1, 0, none⟩ v0).setCell ⟨g + 1, 1, none⟩ v1).setCell ⟨g + 1, 2, none⟩ v2).setCell ⟨g + 1, 3, none⟩ v3).setCell ⟨g + 1, 4, none⟩ v4) := by
  refine ⟨h.own.kept fun k hk => ?_, below7 h.bel (by have := h.hB; omega) _ _ _ _ _⟩
  have hn : k ≠ g + 1 := by subst hk; exact h.nr.block
  rw [heap_setCell_other _ _ _ _ hn, heap_setCell_other _ _ _ _ hn, heap_setCell_other _ _ _ _ hn, heap_setCell_other _ _ _ _ hn, heap_setCell_other _ _ _ _ hn]
end

theorem nb_lt {B : Nat} {w : World} {a : Option Addr} {n c : Nat} {l : List Bool} (h : OL .bool 4 B w a n c l) {k : Nat} (hk : w.heap.size ≤ k) : NB a k := fun q hq => by
  have := (h.ltB hq).1; omega

theorem boxed5 (w : World) (E : TypeId) (v0 v1 v2 v3 v4 u0 u1 u2 u3 u4 : Value) : ∃ w0, Hid ((w.alloc (.cells #[v0, v1, v2, v3, v4] E)).alloc (.cells #[u0, u1, u2, u3, u4] E) = w0) ∧ w0.heap[w.heap.size]? = some (.cells #[v0, v1, v2, v3, v4] E (0, 0)) ∧ w0.heap[w.heap.size + 1]? = some (.cells #[u0, u1, u2, u3, u4] E (0, 0)) ∧ Below w.heap.size w w0 := by
  refine ⟨_, rfl, bx_alloc _ (heap_alloc_new _ _), ?_, bnew (bnew0 _ _) _⟩
  have := heap_alloc_new (w.alloc (.cells #[v0, v1, v2, v3, v4] E)) (.cells #[u0, u1, u2, u3, u4] E)
  simpa using this

theorem lit7 (w1 : World) (o : Obj) (x : Bool) : RL .bool ((w1.alloc o).alloc (.cells #[.bool x] 4)) (some ⟨w1.heap.size + 1, 0, none⟩) 1 1 [x] := by
  have := (ol_lit Value.bool 4 0 (w1.alloc o) [x] _ 1 rfl rfl (by omega) (Nat.zero_le _)).rl
  rw [heap_size_alloc] at this
  exact this

theorem In7.start {B : Nat} {w w0 w1 : World} {t r : Array Value} {a : Option Addr} {n c : Nat} {l : List Bool} (hol : OL .bool 4 B w a n c l) (hB : B ≤ w.heap.size) (ht : w0.heap[w.heap.size]? = some (.cells t 29 (0, 0)))
    (hr : w0.heap[w.heap.size + 1]? = some (.cells r 29 (0, 0))) (hb0 : Below w.heap.size w w0) (g1 : Below w0.heap.size w0 w1) (u : Array Value) : In7 B w.heap.size w (w1.alloc (.cells u 27)) w1.heap.size t r u a n c l := by
  have hs := bx_lt (bx_below hr g1)
  exact ⟨bx_alloc _ (bx_below ht g1), bx_alloc _ (bx_below hr g1), heap_alloc_new _ _, ((hol.below hb0).below g1).alloc _, ((hb0.trans (g1.mono hb0.size)).mono hB).alloc (by omega) _, by omega, hB, nb_lt hol (Nat.le_refl _), nb_lt hol (by omega), nb_lt hol (by omega)⟩

set_option maxHeartbeats 1000000 in
theorem inBody_wrong (B : Nat) (w : World) (b : Bool) (m : Nat) (a : Option Addr) (n c : Nat) (l : List Bool) (fi x : Bool) (hol : OL .bool 4 B w a n c l) (hB : B ≤ w.heap.size) (hr : rightA b m) (hk : (nxt b m x).2 = 2) :
    Calls Try.prog 41 #[.agg #[.bool b, .int .u8 (m : Int), .slice a n c, .int .u8 0, .bool fi], .bool x] w fun e w' => e = .returned (.tuple #[.agg #[.bool b, .int .u8 (m : Int), .slice a n c, .int .u8 11, .bool fi], .int .u8 1]) ∧ OL .bool 4 B w' a n c l ∧ Below B w w' := by
  have hv := fun w1 => over_any w1 b m a n c 0 fi 1
  have hn := fun w1 => next_any w1 b m x hr
  generalize nxt b m x = N at hn hk
  obtain ⟨⟨b1, m1⟩, kd⟩ := N
  dsimp only at hn hk
  subst hk
  have hn' : ∀ (w1 : World), Calls Try.prog 36 #[.agg #[.bool b, .int .u8 (m : Int)], .bool x] w1 fun e w' => e = .returned (.tuple #[.agg #[.bool b1, .int .u8 (m1 : Int)], .int .u8 2]) ∧ Below w1.heap.size w1 w' := hn
  clear hn
  obtain ⟨w0, hw0, ht, hrr, hb0⟩ := boxed5 w 29 (.bool b) (.int .u8 (m : Int)) (.slice a n c) (.int .u8 0) (.bool fi) (.bool false) (.int .u8 0) (.slice none 0 0) (.int .u8 0) (.bool false)
  obtain ⟨c0, c1, c2, c3, c4⟩ := bx5 ht
  go_enter Try.func41, Try.ntmps41
  go_wp2_with (first
    | (go_at_call 36; rw [hw0.out]; (with_reducible refine (hn' _).mono ?_); rintro e w1 ⟨rfl, g1⟩; clear c0 c1 c2 c3 c4; have hI := In7.start hol hB ht hrr hb0 g1 #[.bool b1, .int .u8 (m1 : Int)]; obtain ⟨c0, c1, c2, c3, c4⟩ := bx5 hI.t)
    | (go_at_call 64; (with_reducible refine (hv _).mono ?_); rintro e w2 ⟨rfl, g2⟩; clear c0 c1 c2 c3 c4; have hJ := hI.call g2; obtain ⟨c0, c1, c2, c3, c4⟩ := bx5 hJ.r; have f0 := bx_thaw hJ.r))
  exact bodyPost_ret (v := .tuple #[.agg #[.bool b, .int .u8 (m : Int), .slice a n c, .int .u8 11, .bool fi], .int .u8 1]) (by simp [results, Try.results41, go_sem, c0, c1, c2, c3, c4]) rfl ⟨rfl, hJ.fin _ _ _ _ _⟩
end Go.Proofs.Ythpgcgkgokfnpaa

namespace Go.Proofs.Ythpgcgkgokfnpaa
open Go.RowKit
set_option linter.unusedVariables false

set_option maxHeartbeats 2000000 in
theorem inBody_stuff (B : Nat) (w : World) (b : Bool) (m : Nat) (a : Option Addr) (n c : Nat) (l : List Bool) (fi x : Bool) (hol : OL .bool 4 B w a n c l) (hB : B ≤ w.heap.size) (hn1 : n ≤ 10000) (hr : rightA b m) (hk : (nxt b m x).2 = 1) :
    Calls Try.prog 41 #[.agg #[.bool b, .int .u8 (m : Int), .slice a n c, .int .u8 0, .bool fi], .bool x] w fun e w' => ∃ a' c', e = .returned (.tuple #[.agg #[.bool (nxt b m x).1.1, .int .u8 ((nxt b m x).1.2 : Int), .slice a' n c', .int .u8 (if (cmpL l && !decide ((nxt b m x).1.2 = 5)) = true then 1 else 0), .bool fi], .int .u8 0]) ∧ OL .bool 4 B w' a' n c' l ∧ Below B w w' := by
  have hn := fun w1 => next_any w1 b m x hr
  have hm1 := (nxt_right (x := x) hr).1.1
  generalize nxt b m x = N at hn hk hm1
  obtain ⟨⟨b1, m1⟩, kd⟩ := N
  dsimp only at hn hk hm1
  subst hk
  have hn' : ∀ (w1 : World), Calls Try.prog 36 #[.agg #[.bool b, .int .u8 (m : Int)], .bool x] w1 fun e w' => e = .returned (.tuple #[.agg #[.bool b1, .int .u8 (m1 : Int)], .int .u8 1]) ∧ Below w1.heap.size w1 w' := hn
  clear hn
  obtain ⟨w0, hw0, ht, hrr, hb0⟩ := boxed5 w 29 (.bool b) (.int .u8 (m : Int)) (.slice a n c) (.int .u8 0) (.bool fi) (.bool false) (.int .u8 0) (.slice none 0 0) (.int .u8 0) (.bool false)
  obtain ⟨c0, c1, c2, c3, c4⟩ := bx5 ht
  have hm256 : m1 < 256 := by omega
  have hdu := fun (w1 : World) (a1 : Option Addr) (c1 : Nat) => due_any w1 b1 m1 a1 n c1 0 fi hm256
  have hon := fun (w1 : World) (a1 : Option Addr) (c1 : Nat) => onward_any w1 b1 m1 a1 n c1 0 fi 0 1 rfl (by omega)
  clear hm1 hm256
  cases hcp : cmpL l
  · have hcm : ∀ (w1 : World) (a1 : Option Addr) (c1 : Nat), RL .bool w1 a1 n c1 l → Calls Try.prog 65 #[.slice a1 n c1] w1 fun e w' => e = .returned (.bool false) ∧ Below w1.heap.size w1 w' := fun w1 a1 c1 h => hcp ▸ complete_any w1 a1 n c1 l h (by omega)
    simp only [Bool.false_and, Bool.false_eq_true, if_false]
    clear hcp hdu hon
    go_enter Try.func41, Try.ntmps41
    go_wp2_with (first
      | (go_at_call 36; rw [hw0.out]; (with_reducible refine (hn' _).mono ?_); rintro e w1 ⟨rfl, g1⟩; clear c0 c1 c2 c3 c4; have hI := In7.start hol hB ht hrr hb0 g1 #[.bool b1, .int .u8 (m1 : Int)]; obtain ⟨c0, c1, c2, c3, c4⟩ := bx5 hI.t; obtain ⟨d0, d1, d2, d3⟩ := bx hI.u; have f0 := bx_thaw hI.t)
      | (go_at_call 65; have hK := (hI.set 0 (.bool b1)).set 1 (.int .u8 (m1 : Int)); (with_reducible refine (hcm _ _ _ hK.own.rl).mono ?_); rintro e w5 ⟨rfl, g5⟩; clear c0 c1 c2 c3 c4 f0; have hL := hK.call g5; obtain ⟨c0, c1, c2, c3, c4⟩ := bx5 hL.t; obtain ⟨r0, r1, r2, r3, r4⟩ := bx5 hL.r; have f0 := bx_thaw hL.r))
    exact bodyPost_ret (v := .tuple #[.agg #[.bool b1, .int .u8 (m1 : Int), .slice a n c, .int .u8 0, .bool fi], .int .u8 0]) (by simp [results, Try.results41, go_sem, r0, r1, r2, r3, r4]) rfl ⟨_, _, rfl, hL.fin _ _ _ _ _⟩
  · have hcm : ∀ (w1 : World) (a1 : Option Addr) (c1 : Nat), RL .bool w1 a1 n c1 l → Calls Try.prog 65 #[.slice a1 n c1] w1 fun e w' => e = .returned (.bool true) ∧ Below w1.heap.size w1 w' := fun w1 a1 c1 h => hcp ▸ complete_any w1 a1 n c1 l h (by omega)
    simp only [Bool.true_and]
    clear hcp
    by_cases h5 : m1 = 5
    · simp only [decide_eq_true h5] at hdu ⊢
      simp only [Bool.not_true, Bool.false_eq_true, if_false]
      clear hon h5
      go_enter Try.func41, Try.ntmps41
      go_wp2_with (first
        | (go_at_call 36; rw [hw0.out]; (with_reducible refine (hn' _).mono ?_); rintro e w1 ⟨rfl, g1⟩; clear c0 c1 c2 c3 c4; have hI := In7.start hol hB ht hrr hb0 g1 #[.bool b1, .int .u8 (m1 : Int)]; obtain ⟨c0, c1, c2, c3, c4⟩ := bx5 hI.t; obtain ⟨d0, d1, d2, d3⟩ := bx hI.u; have f0 := bx_thaw hI.t)
        | (go_at_call 65; have hK := (hI.set 0 (.bool b1)).set 1 (.int .u8 (m1 : Int)); (with_reducible refine (hcm _ _ _ hK.own.rl).mono ?_); rintro e w5 ⟨rfl, g5⟩; clear c0 c1 c2 c3 c4 f0; have hL := hK.call g5; obtain ⟨c0, c1, c2, c3, c4⟩ := bx5 hL.t; obtain ⟨r0, r1, r2, r3, r4⟩ := bx5 hL.r; have f0 := bx_thaw hL.r)
        | (go_at_call 27; (with_reducible refine (hdu _ _ _).mono ?_); rintro e w6 ⟨rfl, g6⟩; clear c0 c1 c2 c3 c4 f0 r0 r1 r2 r3 r4; have hM := hL.call g6; obtain ⟨c0, c1, c2, c3, c4⟩ := bx5 hM.t; obtain ⟨r0, r1, r2, r3, r4⟩ := bx5 hM.r; have f0 := bx_thaw hM.r))
      exact bodyPost_ret (v := .tuple #[.agg #[.bool b1, .int .u8 (m1 : Int), .slice a n c, .int .u8 0, .bool fi], .int .u8 0]) (by simp [results, Try.results41, go_sem, r0, r1, r2, r3, r4]) rfl ⟨_, _, rfl, hM.fin _ _ _ _ _⟩
    · simp only [decide_eq_false h5] at hdu ⊢
      simp only [Bool.not_false, if_true]
      clear h5
      go_enter Try.func41, Try.ntmps41
      go_wp2_with (first
        | (go_at_call 36; rw [hw0.out]; (with_reducible refine (hn' _).mono ?_); rintro e w1 ⟨rfl, g1⟩; clear c0 c1 c2 c3 c4; have hI := In7.start hol hB ht hrr hb0 g1 #[.bool b1, .int .u8 (m1 : Int)]; obtain ⟨c0, c1, c2, c3, c4⟩ := bx5 hI.t; obtain ⟨d0, d1, d2, d3⟩ := bx hI.u; have f0 := bx_thaw hI.t)
        | (go_at_call 65; have hK := (hI.set 0 (.bool b1)).set 1 (.int .u8 (m1 : Int)); (with_reducible refine (hcm _ _ _ hK.own.rl).mono ?_); rintro e w5 ⟨rfl, g5⟩; clear c0 c1 c2 c3 c4 f0; have hL := hK.call g5; obtain ⟨c0, c1, c2, c3, c4⟩ := bx5 hL.t; obtain ⟨r0, r1, r2, r3, r4⟩ := bx5 hL.r; have f0 := bx_thaw hL.r)
        | (go_at_call 27; (with_reducible refine (hdu _ _ _).mono ?_); rintro e w6 ⟨rfl, g6⟩; clear c0 c1 c2 c3 c4 f0 r0 r1 r2 r3 r4; have hM := hL.call g6; obtain ⟨c0, c1, c2, c3, c4⟩ := bx5 hM.t; obtain ⟨r0, r1, r2, r3, r4⟩ := bx5 hM.r; have f0 := bx_thaw hM.r)
        | (go_at_call 66; (with_reducible refine (hon _ _ _).mono ?_); rintro e w7 ⟨rfl, g7⟩; clear c0 c1 c2 c3 c4 f0 r0 r1 r2 r3 r4; have hO := hM.call g7; obtain ⟨c0, c1, c2, c3, c4⟩ := bx5 hO.r; have f0 := bx_thaw hO.r))
      exact bodyPost_ret (v := .tuple #[.agg #[.bool b1, .int .u8 (m1 : Int), .slice a n c, .int .u8 1, .bool fi], .int .u8 0]) (by simp [results, Try.results41, go_sem, c0, c1, c2, c3, c4]) rfl ⟨_, _, rfl, hO.fin _ _ _ _ _⟩

set_option maxHeartbeats 4000000 in
theorem inBody_plain (B : Nat) (w : World) (b : Bool) (m : Nat) (a : Option Addr) (n c : Nat) (l : List Bool) (fi x : Bool) (hol : OL .bool 4 B w a n c l) (hB : B ≤ w.heap.size) (hn1 : n ≤ 10000) (hr : rightA b m) (hk : (nxt b m x).2 = 0) :
    Calls Try.prog 41 #[.agg #[.bool b, .int .u8 (m : Int), .slice a n c, .int .u8 0, .bool fi], .bool x] w fun e w' => ∃ a' c', e = .returned (.tuple #[.agg #[.bool (nxt b m x).1.1, .int .u8 ((nxt b m x).1.2 : Int), .slice a' (n + 1) c', .int .u8 (if (cmpL (l ++ [x]) && !decide ((nxt b m x).1.2 = 5)) = true then 1 else 0), .bool (fitL (l ++ [x]))], .int .u8 0]) ∧ OL .bool 4 B w' a' (n + 1) c' (l ++ [x]) ∧ Below B w w' := by
  have hn := fun w1 => next_any w1 b m x hr
  have hm1 := (nxt_right (x := x) hr).1.1
  have hfit : Hid (fitL (l ++ [x]) = (peU (l ++ [x]) == 0)) := by
    show _ = _
    unfold fitL peU
    cases paK (l ++ [x])
    · rfl
    · by_cases hs : suV (l ++ [x]) = 0#15 <;> simp [hs]
  obtain ⟨fi', hfi'⟩ : ∃ fi', fi' = fitL (l ++ [x]) := ⟨_, rfl⟩
  rw [← hfi'] at hfit ⊢
  have hpa : ∀ (w1 : World) (a1 : Option Addr) (c1 : Nat), RL .bool w1 a1 (n + 1) c1 (l ++ [x]) → _ := fun w1 a1 c1 h => parse_U w1 a1 (n + 1) c1 (l ++ [x]) h (by omega)
  generalize peU (l ++ [x]) = pe at hpa hfit
  generalize paU (l ++ [x]) = pf at hpa
  obtain ⟨pid, pext, prem, pdlc, pdata⟩ := pf
  dsimp only at hpa
  generalize hlen : pdata.length = plen at hpa
  have hpe : (pe == 0) = fi' := hfit.out.symm
  replace hpa : ∀ (w1 : World) (a1 : Option Addr) (c1 : Nat), RL .bool w1 a1 (n + 1) c1 (l ++ [x]) → Calls Try.prog 28 #[.slice a1 (n + 1) c1] w1 fun e w' => ∃ a' c', e = .returned (.tuple #[.agg #[.int .u32 (pid : Int), .bool pext, .bool prem, .int .u8 (pdlc : Int), .slice a' plen c'], .int .i64 pe]) ∧ Below w1.heap.size w1 w' := fun w1 a1 c1 h => (hpa w1 a1 c1 h).mono fun e w' ⟨a', c', h1, _, h2⟩ => ⟨a', c', h1, h2⟩
  clear hlen hfit hfi'
  generalize nxt b m x = N at hn hk hm1
  obtain ⟨⟨b1, m1⟩, kd⟩ := N
  dsimp only at hn hk hm1
  subst hk
  have hn' : ∀ (w1 : World), Calls Try.prog 36 #[.agg #[.bool b, .int .u8 (m : Int)], .bool x] w1 fun e w' => e = .returned (.tuple #[.agg #[.bool b1, .int .u8 (m1 : Int)], .int .u8 0]) ∧ Below w1.heap.size w1 w' := hn
  clear hn
  obtain ⟨w0, hw0, ht, hrr, hb0⟩ := boxed5 w 29 (.bool b) (.int .u8 (m : Int)) (.slice a n c) (.int .u8 0) (.bool fi) (.bool false) (.int .u8 0) (.slice none 0 0) (.int .u8 0) (.bool false)
  obtain ⟨c0, c1, c2, c3, c4⟩ := bx5 ht
  have hm256 : m1 < 256 := by omega
  have hdu := fun (w1 : World) (a1 : Option Addr) (c1 : Nat) => due_any w1 b1 m1 a1 (n + 1) c1 0 fi' hm256
  have hon := fun (w1 : World) (a1 : Option Addr) (c1 : Nat) => onward_any w1 b1 m1 a1 (n + 1) c1 0 fi' 0 1 rfl (by omega)
  clear hm1 hm256
  cases hcp : cmpL (l ++ [x])
  · have hcm : ∀ (w1 : World) (a1 : Option Addr) (c1 : Nat), RL .bool w1 a1 (n + 1) c1 (l ++ [x]) → Calls Try.prog 65 #[.slice a1 (n + 1) c1] w1 fun e w' => e = .returned (.bool false) ∧ Below w1.heap.size w1 w' := fun w1 a1 c1 h => hcp ▸ complete_any w1 a1 (n + 1) c1 (l ++ [x]) h (by omega)
    simp only [Bool.false_and, Bool.false_eq_true, if_false]
    clear hcp hdu hon
    go_enter Try.func41, Try.ntmps41
    go_wp2_with (first
      | (go_at_call 36; rw [hw0.out]; (with_reducible refine (hn' _).mono ?_); rintro e w1 ⟨rfl, g1⟩; clear c0 c1 c2 c3 c4; have hI := In7.start hol hB ht hrr hb0 g1 #[.bool b1, .int .u8 (m1 : Int)]; obtain ⟨c0, c1, c2, c3, c4⟩ := bx5 hI.t; obtain ⟨d0, d1, d2, d3⟩ := bx hI.u; have f0 := bx_thaw hI.t)
      | (at_builtin; refine wpList_appg (f := Value.bool) tB rfl _ _ rfl rfl (hI.own.alloc _) rfl (lit7 _ _ _) (by omega) (fun _ => rfl) (by omega) (by omega) (by have := hI.size; simp only [heap_size_alloc] at this ⊢; omega) ?_; intro w3 a3 k3 hol3 hb3 hk3 hs3; clear c0 c1 c2 c3 c4 f0 d0 d1 d2 d3; have hA := (hI.alloc _).app hol3 hb3 hk3; obtain ⟨c0, c1, c2, c3, c4⟩ := bx5 hA.t; have f0 := bx_thaw hA.t; have hA2 := hA.set 2 (.slice a3 (n + 1) k3))
      | (go_at_call 28; (with_reducible refine (hpa _ _ _ hA2.own.rl).mono ?_); rintro e w4 ⟨pa4, pc4, rfl, g4⟩; clear c0 c1 c2 c3 c4 f0; have hP := (hA2.call g4).alloc (.cells #[.int .u32 (pid : Int), .bool pext, .bool prem, .int .u8 (pdlc : Int), .slice pa4 plen pc4] 36); have hP4 := hP.set 4 (.bool fi'); obtain ⟨c0, c1, c2, c3, c4⟩ := bx5 hP.t; obtain ⟨d0, d1, d2, d3⟩ := bx hP.u; have f0 := bx_thaw hP.t)
      | (go_at_call 65; have hK := (hP4.set 0 (.bool b1)).set 1 (.int .u8 (m1 : Int)); (with_reducible refine (hcm _ _ _ hK.own.rl).mono ?_); rintro e w5 ⟨rfl, g5⟩; clear c0 c1 c2 c3 c4 f0; have hL := hK.call g5; obtain ⟨c0, c1, c2, c3, c4⟩ := bx5 hL.t; obtain ⟨r0, r1, r2, r3, r4⟩ := bx5 hL.r; have f0 := bx_thaw hL.r))
    exact bodyPost_ret (v := .tuple #[.agg #[.bool b1, .int .u8 (m1 : Int), .slice a3 (n + 1) k3, .int .u8 0, .bool fi'], .int .u8 0]) (by simp [results, Try.results41, go_sem, r0, r1, r2, r3, r4]) rfl ⟨_, _, rfl, hL.fin _ _ _ _ _⟩
  · have hcm : ∀ (w1 : World) (a1 : Option Addr) (c1 : Nat), RL .bool w1 a1 (n + 1) c1 (l ++ [x]) → Calls Try.prog 65 #[.slice a1 (n + 1) c1] w1 fun e w' => e = .returned (.bool true) ∧ Below w1.heap.size w1 w' := fun w1 a1 c1 h => hcp ▸ complete_any w1 a1 (n + 1) c1 (l ++ [x]) h (by omega)
    simp only [Bool.true_and]
    clear hcp
    by_cases h5 : m1 = 5
    · simp only [decide_eq_true h5] at hdu ⊢
      simp only [Bool.not_true, Bool.false_eq_true, if_false]
      clear hon h5
      go_enter Try.func41, Try.ntmps41
      go_wp2_with (first
        | (go_at_call 36; rw [hw0.out]; (with_reducible refine (hn' _).mono ?_); rintro e w1 ⟨rfl, g1⟩; clear c0 c1 c2 c3 c4; have hI := In7.start hol hB ht hrr hb0 g1 #[.bool b1, .int .u8 (m1 : Int)]; obtain ⟨c0, c1, c2, c3, c4⟩ := bx5 hI.t; obtain ⟨d0, d1, d2, d3⟩ := bx hI.u; have f0 := bx_thaw hI.t)
        | (at_builtin; refine wpList_appg (f := Value.bool) tB rfl _ _ rfl rfl (hI.own.alloc _) rfl (lit7 _ _ _) (by omega) (fun _ => rfl) (by omega) (by omega) (by have := hI.size; simp only [heap_size_alloc] at this ⊢; omega) ?_; intro w3 a3 k3 hol3 hb3 hk3 hs3; clear c0 c1 c2 c3 c4 f0 d0 d1 d2 d3; have hA := (hI.alloc _).app hol3 hb3 hk3; obtain ⟨c0, c1, c2, c3, c4⟩ := bx5 hA.t; have f0 := bx_thaw hA.t; have hA2 := hA.set 2 (.slice a3 (n + 1) k3))
        | (go_at_call 28; (with_reducible refine (hpa _ _ _ hA2.own.rl).mono ?_); rintro e w4 ⟨pa4, pc4, rfl, g4⟩; clear c0 c1 c2 c3 c4 f0; have hP := (hA2.call g4).alloc (.cells #[.int .u32 (pid : Int), .bool pext, .bool prem, .int .u8 (pdlc : Int), .slice pa4 plen pc4] 36); have hP4 := hP.set 4 (.bool fi'); obtain ⟨c0, c1, c2, c3, c4⟩ := bx5 hP.t; obtain ⟨d0, d1, d2, d3⟩ := bx hP.u; have f0 := bx_thaw hP.t)
        | (go_at_call 65; have hK := (hP4.set 0 (.bool b1)).set 1 (.int .u8 (m1 : Int)); (with_reducible refine (hcm _ _ _ hK.own.rl).mono ?_); rintro e w5 ⟨rfl, g5⟩; clear c0 c1 c2 c3 c4 f0; have hL := hK.call g5; obtain ⟨c0, c1, c2, c3, c4⟩ := bx5 hL.t; obtain ⟨r0, r1, r2, r3, r4⟩ := bx5 hL.r; have f0 := bx_thaw hL.r)
        | (go_at_call 27; (with_reducible refine (hdu _ _ _).mono ?_); rintro e w6 ⟨rfl, g6⟩; clear c0 c1 c2 c3 c4 f0 r0 r1 r2 r3 r4; have hM := hL.call g6; obtain ⟨c0, c1, c2, c3, c4⟩ := bx5 hM.t; obtain ⟨r0, r1, r2, r3, r4⟩ := bx5 hM.r; have f0 := bx_thaw hM.r))
      exact bodyPost_ret (v := .tuple #[.agg #[.bool b1, .int .u8 (m1 : Int), .slice a3 (n + 1) k3, .int .u8 0, .bool fi'], .int .u8 0]) (by simp [results, Try.results41, go_sem, r0, r1, r2, r3, r4]) rfl ⟨_, _, rfl, hM.fin _ _ _ _ _⟩
    · simp only [decide_eq_false h5] at hdu ⊢
      simp only [Bool.not_false, if_true]
      clear h5
      go_enter Try.func41, Try.ntmps41
      go_wp2_with (first
        | (go_at_call 36; rw [hw0.out]; (with_reducible refine (hn' _).mono ?_); rintro e w1 ⟨rfl, g1⟩; clear c0 c1 c2 c3 c4; have hI := In7.start hol hB ht hrr hb0 g1 #[.bool b1, .int .u8 (m1 : Int)]; obtain ⟨c0, c1, c2, c3, c4⟩ := bx5 hI.t; obtain ⟨d0, d1, d2, d3⟩ := bx hI.u; have f0 := bx_thaw hI.t)
        | (at_builtin; refine wpList_appg (f := Value.bool) tB rfl _ _ rfl rfl (hI.own.alloc _) rfl (lit7 _ _ _) (by omega) (fun _ => rfl) (by omega) (by omega) (by have := hI.size; simp only [heap_size_alloc] at this ⊢; omega) ?_; intro w3 a3 k3 hol3 hb3 hk3 hs3; clear c0 c1 c2 c3 c4 f0 d0 d1 d2 d3; have hA := (hI.alloc _).app hol3 hb3 hk3; obtain ⟨c0, c1, c2, c3, c4⟩ := bx5 hA.t; have f0 := bx_thaw hA.t; have hA2 := hA.set 2 (.slice a3 (n + 1) k3))
        | (go_at_call 28; (with_reducible refine (hpa _ _ _ hA2.own.rl).mono ?_); rintro e w4 ⟨pa4, pc4, rfl, g4⟩; clear c0 c1 c2 c3 c4 f0; have hP := (hA2.call g4).alloc (.cells #[.int .u32 (pid : Int), .bool pext, .bool prem, .int .u8 (pdlc : Int), .slice pa4 plen pc4] 36); have hP4 := hP.set 4 (.bool fi'); obtain ⟨c0, c1, c2, c3, c4⟩ := bx5 hP.t; obtain ⟨d0, d1, d2, d3⟩ := bx hP.u; have f0 := bx_thaw hP.t)
        | (go_at_call 65; have hK := (hP4.set 0 (.bool b1)).set 1 (.int .u8 (m1 : Int)); (with_reducible refine (hcm _ _ _ hK.own.rl).mono ?_); rintro e w5 ⟨rfl, g5⟩; clear c0 c1 c2 c3 c4 f0; have hL := hK.call g5; obtain ⟨c0, c1, c2, c3, c4⟩ := bx5 hL.t; obtain ⟨r0, r1, r2, r3, r4⟩ := bx5 hL.r; have f0 := bx_thaw hL.r)
        | (go_at_call 27; (with_reducible refine (hdu _ _ _).mono ?_); rintro e w6 ⟨rfl, g6⟩; clear c0 c1 c2 c3 c4 f0 r0 r1 r2 r3 r4; have hM := hL.call g6; obtain ⟨c0, c1, c2, c3, c4⟩ := bx5 hM.t; obtain ⟨r0, r1, r2, r3, r4⟩ := bx5 hM.r; have f0 := bx_thaw hM.r)
        | (go_at_call 66; (with_reducible refine (hon _ _ _).mono ?_); rintro e w7 ⟨rfl, g7⟩; clear c0 c1 c2 c3 c4 f0 r0 r1 r2 r3 r4; have hO := hM.call g7; obtain ⟨c0, c1, c2, c3, c4⟩ := bx5 hO.r; have f0 := bx_thaw hO.r))
      exact bodyPost_ret (v := .tuple #[.agg #[.bool b1, .int .u8 (m1 : Int), .slice a3 (n + 1) k3, .int .u8 1, .bool fi'], .int .u8 0]) (by simp [results, Try.results41, go_sem, c0, c1, c2, c3, c4]) rfl ⟨_, _, rfl, hO.fin _ _ _ _ _⟩
end Go.Proofs.Ythpgcgkgokfnpaa
