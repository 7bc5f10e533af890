/-
  Contracts: the library's clone of bits; the spans; what a bit leads to at each place, as the plain function says.
  Contract of take.Next: the state behind a bit, and what it says, as the plain function has it, in memory of its own.
  Contracts of take.Next at a state, of take.Drive and of take.Frame.
-/
import Derived.Test.YthpgcgkgokfnpaaB7d
import Derived.Lib.SliceRun
import Derived.Laws.EntriesVeiled
namespace Go.Proofs.Ythpgcgkgokfnpaa
open Go.RowKit
set_option linter.unusedVariables false

theorem clone7_any (w : World) (a : Option Addr) (n c : Nat) (l : List Bool) (h : RL .bool w a n c l) (hn : n ≤ 1000000) :
    Calls Try.prog 25 #[.slice a n c] w fun e w' => ∃ a' c', e = .returned (.slice a' n c') ∧ OL .bool 4 w.heap.size w' a' n c' l ∧ Below w.heap.size w w' := by
  have q22 : ∀ (w : World) (a : Option Addr) (n c n' c' : Nat), (binOp .eql 22 (.slice a n c) (.slice none n' c')).run Try.prog w = .ok (.bool a.isNone) w := fun w a n c n' c' => Lib.run_eql_slice_nil w _ _ a n c n' c' tB.und
  cases a with
  | none =>
    obtain rfl : n = 0 := by
      by_cases h0 : n = 0
      · exact h0
      · obtain ⟨b, off, e, _⟩ := h.cell (by omega); cases e
    obtain rfl : l = [] := List.eq_nil_of_length_eq_zero h.len
    go_enter Try.func25, Try.ntmps25
    go_wp2
    go_ret
    exact ⟨none, 0, rfl, OL.nil _ _ _ _, Below.refl _ _⟩
  | some ad =>
    have h1 := h.below (bnew0 w (.cells #[] 4))
    have ho := ol_lit Value.bool 4 w.heap.size w [] #[] 0 rfl rfl (by omega) (Nat.le_refl _)
    go_enter Try.func25, Try.ntmps25
    go_wp2_with (at_builtin; refine wpList_app (f := Value.bool) tB rfl _ _ rfl rfl ho rfl h1 (fun _ => rfl) (by omega) (by omega) (by simp) ?_; intro w10 a10 c10 hol10 hb10)
    go_ret
    rw [Nat.zero_add, List.nil_append] at hol10
    exact ⟨a10, c10, rfl, hol10, (bnew0 w _).trans hb10⟩

/-- The cells of the spans. -/
def spC : Array Value := #[.int .u8 0, .int .u8 0, .func (.func 41) #[] #[], .int .u8 1, .int .u8 1, .func (.func 42) #[] #[], .int .u8 2, .int .u8 2, .func (.func 43) #[] #[],
  .int .u8 3, .int .u8 3, .func (.func 44) #[] #[], .int .u8 4, .int .u8 9, .func (.func 45) #[] #[], .int .u8 10, .int .u8 10, .func (.func 46) #[] #[]]

theorem spans_any (w : World) :
    Calls Try.prog 26 #[] w fun e w' => e = .returned (.slice (some ⟨w.heap.size, 0, none⟩) 6 6) ∧ w'.heap[w.heap.size]? = some (.cells spC 60 (0, 0)) ∧ Below w.heap.size w w' := by
  go_enter Try.func26, Try.ntmps26
  go_wp2
  go_ret
  exact ⟨rfl, heap_alloc_new _ _, bnew0 _ _⟩

section
variable {s : Tk} {x : Bool}

theorem nx_two (h : s.p = 2) : nxT s x = (⟨s.b, s.m, s.l, 3, s.fi⟩, 0) := by unfold nxT; rw [if_neg (by omega), if_pos h]
theorem nx_ten (h : s.p = 10) : nxT s x = (⟨s.b, s.m, s.l, 11, s.fi⟩, if x then 6 else 5) := by unfold nxT; rw [if_neg (by omega), if_neg (by omega), if_pos h]
theorem nx_over (h : 10 < s.p) : nxT s x = (s, 6) := by unfold nxT; rw [if_neg (by omega), if_neg (by omega), if_neg (by omega), if_pos h]
theorem nx_dom (h0 : s.p ≠ 0) (h2 : s.p ≠ 2) (h10 : s.p < 10) : nxT s false = (⟨s.b, s.m, s.l, 11, s.fi⟩, 2) := by
  unfold nxT; rw [if_neg h0, if_neg h2, if_neg (by omega), if_neg (by omega), if_pos rfl]
theorem nx_bad (h : s.p = 3) (hf : s.fi = false) : nxT s true = (⟨s.b, s.m, s.l, 11, s.fi⟩, 3) := by
  unfold nxT; rw [if_neg (by omega), if_neg (by omega), if_neg (by omega), if_neg (by omega), if_neg (show ¬ (true = false) by simp), if_pos ⟨h, hf⟩]
theorem nx_on (h0 : s.p ≠ 0) (h2 : s.p ≠ 2) (h10 : s.p < 10) (hf : s.p = 3 → s.fi = true) : nxT s true = (⟨s.b, s.m, s.l, s.p + 1, s.fi⟩, if s.p = 9 then 4 else 0) := by
  unfold nxT; rw [if_neg h0, if_neg h2, if_neg (by omega), if_neg (by omega), if_neg (show ¬ (true = false) by simp), if_neg (fun h => by rw [hf h.1] at h; simp at h)]
end

/-- What a function that a bit leads to returns: the plain function's state and what it says. -/
def Lead (f : FuncId) (B : Nat) (s : Tk) (x : Bool) : Prop := ∀ (w : World) (a : Option Addr) (n c : Nat), n = s.l.length → OL .bool 4 B w a n c s.l → B ≤ w.heap.size →
    Calls Try.prog f #[.agg #[.bool s.b, .int .u8 (s.m : Int), .slice a n c, .int .u8 (s.p : Int), .bool s.fi], .bool x] w fun e w' => ∃ a' c',
      e = .returned (.tuple #[.agg #[.bool (nxT s x).1.b, .int .u8 ((nxT s x).1.m : Int), .slice a' (nxT s x).1.l.length c', .int .u8 ((nxT s x).1.p : Int), .bool (nxT s x).1.fi], .int .u8 ((nxT s x).2 : Int)]) ∧
      OL .bool 4 B w' a' (nxT s x).1.l.length c' (nxT s x).1.l ∧ Below B w w'

theorem lead_body (B : Nat) (s : Tk) (x : Bool) (hp : s.p = 0) (hl : s.l.length ≤ 10000) (hr : rightA s.b s.m) : Lead 41 B s x := by
  intro w a n c hn hol hB
  have h2 : (nxt s.b s.m x).2 = 0 ∨ (nxt s.b s.m x).2 = 1 ∨ (nxt s.b s.m x).2 = 2 := by
    unfold nxt; split <;> split <;> simp
  subst hn
  rw [hp]
  unfold nxT
  rw [if_pos hp]
  rcases h2 with h | h | h
  · rw [if_neg (by omega), if_neg (by omega)]
    refine (inBody_plain B w s.b s.m a _ c s.l s.fi x hol hB hl hr h).mono ?_
    rintro e w' ⟨a', c', rfl, ho, hb⟩
    dsimp only
    rw [List.length_append]
    refine ⟨a', c', ?_, ho, hb⟩
    split <;> rfl
  · rw [if_neg (by omega), if_pos h]
    refine (inBody_stuff B w s.b s.m a _ c s.l s.fi x hol hB hl hr h).mono ?_
    rintro e w' ⟨a', c', rfl, ho, hb⟩
    dsimp only
    refine ⟨a', c', ?_, ho, hb⟩
    split <;> rfl
  · rw [if_pos h]
    refine (inBody_wrong B w s.b s.m a _ c s.l s.fi x hol hB hr h).mono ?_
    rintro e w' ⟨rfl, ho, hb⟩
    exact ⟨a, c, rfl, ho, hb⟩

theorem lead_fixed (B : Nat) (s : Tk) (x : Bool) (hp : s.p = 1) : Lead 42 B s x := by
  intro w a n c hn hol hB
  subst hn
  rw [hp]
  refine (atFixed_any w s.b s.m a _ c 1 2 s.fi x rfl (by omega)).mono ?_
  rintro e w' ⟨rfl, hb⟩
  cases x
  · rw [nx_dom (by omega) (by omega) (by omega)]
    exact ⟨a, c, rfl, hol.below hb, hb.mono hB⟩
  · rw [nx_on (by omega) (by omega) (by omega) (by omega), hp]
    exact ⟨a, c, rfl, hol.below hb, hb.mono hB⟩

theorem lead_ack (B : Nat) (s : Tk) (x : Bool) (hp : s.p = 2) : Lead 43 B s x := by
  intro w a n c hn hol hB
  subst hn
  rw [hp]
  refine (atAck_any w s.b s.m a _ c s.fi x).mono ?_
  rintro e w' ⟨rfl, hb⟩
  rw [nx_two hp]
  exact ⟨a, c, rfl, hol.below hb, hb.mono hB⟩

theorem lead_done (B : Nat) (s : Tk) (x : Bool) (hp : s.p = 3) : Lead 44 B s x := by
  intro w a n c hn hol hB
  subst hn
  rw [hp]
  refine (atDone_any w s.b s.m a _ c s.fi x).mono ?_
  rintro e w' ⟨rfl, hb⟩
  cases x
  · rw [nx_dom (by omega) (by omega) (by omega)]
    exact ⟨a, c, rfl, hol.below hb, hb.mono hB⟩
  · cases hf : s.fi
    · rw [nx_bad hp hf, hf]
      exact ⟨a, c, rfl, hol.below hb, hb.mono hB⟩
    · rw [nx_on (by omega) (by omega) (by omega) (fun _ => hf), hp, hf]
      exact ⟨a, c, rfl, hol.below hb, hb.mono hB⟩

theorem lead_end (B : Nat) (s : Tk) (x : Bool) (hp : 4 ≤ s.p) (hp9 : s.p ≤ 9) : Lead 45 B s x := by
  intro w a n c hn hol hB
  subst hn
  refine (atEnd_any w s.b s.m a _ c (s.p : Int) ((s.p + 1 : Nat) : Int) s.fi x (by omega) (by omega)).mono ?_
  rintro e w' ⟨rfl, hb⟩
  cases x
  · rw [nx_dom (by omega) (by omega) (by omega)]
    exact ⟨a, c, rfl, hol.below hb, hb.mono hB⟩
  · rw [nx_on (by omega) (by omega) (by omega) (by omega)]
    refine ⟨a, c, ?_, hol.below hb, hb.mono hB⟩
    by_cases h9 : s.p = 9
    · rw [if_pos (show (s.p : Int) = 9 by omega), if_pos h9]; rfl
    · rw [if_neg (show ¬ (s.p : Int) = 9 by omega), if_neg h9]; rfl

theorem lead_last (B : Nat) (s : Tk) (x : Bool) (hp : s.p = 10) : Lead 46 B s x := by
  intro w a n c hn hol hB
  subst hn
  rw [hp]
  refine (atLast_any w s.b s.m a _ c s.fi x).mono ?_
  rintro e w' ⟨rfl, hb⟩
  rw [nx_ten hp]
  refine ⟨a, c, ?_, hol.below hb, hb.mono hB⟩
  cases x <;> rfl
end Go.Proofs.Ythpgcgkgokfnpaa

namespace Go.Proofs.Ythpgcgkgokfnpaa
open Go.RowKit
set_option linter.unusedVariables false

/-- The state's box, the result's, the spans, and the copy of the bits. -/
structure Nx (w wr : World) (gs : Nat) (t r : Array Value) (a : Option Addr) (n c : Nat) (l : List Bool) : Prop where
  t : wr.heap[w.heap.size]? = some (.cells t 29 (0, 0))
  r : wr.heap[w.heap.size + 1]? = some (.cells r 29 (0, 0))
  sp : wr.heap[gs]? = some (.cells spC 60 (0, 0))
  own : OL .bool 4 (w.heap.size + 2) wr a n c l
  bel : Below w.heap.size w wr

section
variable {w wr w2 : World} {gs : Nat} {t r : Array Value} {a a2 : Option Addr} {n c n2 c2 : Nat} {l l2 : List Bool}
theorem Nx.alloc (h : Nx w wr gs t r a n c l) (o : Obj) : Nx w (wr.alloc o) gs t r a n c l := ⟨bx_alloc _ h.t, bx_alloc _ h.r, bx_alloc _ h.sp, h.own.alloc _, bnew h.bel _⟩
theorem Nx.size (h : Nx w wr gs t r a n c l) : w.heap.size + 2 ≤ wr.heap.size := by have := bx_lt h.r; omega
theorem Nx.cells (h : Nx w wr gs t r a n c l) (i : Nat) (v : Value) (hv : spC[i]? = some v) : wr.cell? ⟨gs, i, none⟩ = some v := by rw [cell_of_row wr gs i _ _ _ h.sp]; exact hv
theorem Nx.lead (h : Nx w wr gs t r a n c l) (g : Below (w.heap.size + 2) wr w2) : w2.heap[w.heap.size + 1]? = some (.cells r 29 (0, 0)) ∧ Below w.heap.size w w2 :=
  ⟨by rw [g.block _ (by omega)]; exact h.r, h.bel.trans (g.mono (by omega))⟩
end

theorem nx_start {w w0 w1 w2 : World} {b : Bool} {m P : Value} {t : Array Value} {r : Array Value} {a1 : Option Addr} {n c1 : Nat} {l : List Bool} {v : Value} (ht : w0.heap[w.heap.size]? = some (.cells t 29 (0, 0))) (hr : w0.heap[w.heap.size + 1]? = some (.cells r 29 (0, 0)))
    (hb0 : Below w.heap.size w w0) (hs0 : w0.heap.size = w.heap.size + 2) (hol : OL .bool 4 w0.heap.size w1 a1 n c1 l) (g1 : Below w0.heap.size w0 w1)
    (hsp : w2.heap[(w1.setCell ⟨w.heap.size, 2, none⟩ v).heap.size]? = some (.cells spC 60 (0, 0))) (g2 : Below (w1.setCell ⟨w.heap.size, 2, none⟩ v).heap.size (w1.setCell ⟨w.heap.size, 2, none⟩ v) w2) :
    Nx w w2 w1.heap.size (t.setIfInBounds 2 v) r a1 n c1 l := by
  refine ⟨bx_below (heap_setCell_same w1 _ 2 _ _ v (bx_below ht g1)) g2, bx_below (by rw [heap_setCell_other _ _ _ _ (by simp)]; exact bx_below hr g1) g2, by simpa using hsp, ?_, ?_⟩
  · rw [hs0] at hol
    refine (hol.kept fun k hk => heap_setCell_other _ _ _ _ ?_).below g2
    have := (hol.ltB hk).2
    simp at this ⊢; omega
  · exact bstep ((hb0.trans (g1.mono hb0.size)).setCell (Nat.le_refl _) _) g2

theorem nx_fin {w wr : World} {a : Option Addr} {n c : Nat} {l : List Bool} (h : OL .bool 4 (w.heap.size + 2) wr a n c l) (v0 v1 v2 v3 v4 : Value) : OL .bool 4 w.heap.size (((((wr.setCell ⟨w.heap.size + 1, 0, none⟩ v0).setCell ⟨w.heap.size + 1, 1, none⟩ v1).setCell ⟨w.heap.size + 1, 2, none⟩ v2).setCell ⟨w.heap.size + 1, 3, none⟩ v3).setCell ⟨w.heap.size + 1, 4, none⟩ v4) a n c l := by
  refine (h.kept fun k hk => ?_).mono (by omega)
  have hn : k ≠ w.heap.size + 1 := by have := (h.ltB hk).2; simp at this; omega
  rw [heap_setCell_other _ _ _ _ hn, heap_setCell_other _ _ _ _ hn, heap_setCell_other _ _ _ _ hn, heap_setCell_other _ _ _ _ hn, heap_setCell_other _ _ _ _ hn]

/-- The first place that the span k and those behind it ask for. -/
def loI (k : Int) : Int := if k = 0 then 0 else if k = 1 then 1 else if k = 2 then 2 else if k = 3 then 3 else if k = 4 then 4 else if k = 5 then 10 else 11

set_option maxHeartbeats 4000000 in
theorem next7_core (w : World) (sb sf x rb rf : Bool) (sm : Nat) (P rm rp rd : Int) (hPb : 0 ≤ P ∧ P ≤ 255) (sl rl : List Bool) (N RN : Nat) (a : Option Addr) (c : Nat) (h : RL .bool w a N c sl) (HN : N ≤ 10000)
    (L0 : (0 : Int) ≤ P → P < 1 → ∀ (w1 : World) (a1 : Option Addr) (c1 : Nat), OL .bool 4 (w.heap.size + 2) w1 a1 N c1 sl → w.heap.size + 2 ≤ w1.heap.size → Calls Try.prog 41 #[.agg #[.bool sb, .int .u8 (sm : Int), .slice a1 N c1, .int .u8 P, .bool sf], .bool x] w1 fun e w' => ∃ a' c', e = .returned (.tuple #[.agg #[.bool rb, .int .u8 rm, .slice a' RN c', .int .u8 rp, .bool rf], .int .u8 rd]) ∧ OL .bool 4 (w.heap.size + 2) w' a' RN c' rl ∧ Below (w.heap.size + 2) w1 w')
    (L1 : (1 : Int) ≤ P → P < 2 → ∀ (w1 : World) (a1 : Option Addr) (c1 : Nat), OL .bool 4 (w.heap.size + 2) w1 a1 N c1 sl → w.heap.size + 2 ≤ w1.heap.size → Calls Try.prog 42 #[.agg #[.bool sb, .int .u8 (sm : Int), .slice a1 N c1, .int .u8 P, .bool sf], .bool x] w1 fun e w' => ∃ a' c', e = .returned (.tuple #[.agg #[.bool rb, .int .u8 rm, .slice a' RN c', .int .u8 rp, .bool rf], .int .u8 rd]) ∧ OL .bool 4 (w.heap.size + 2) w' a' RN c' rl ∧ Below (w.heap.size + 2) w1 w')
    (L2 : (2 : Int) ≤ P → P < 3 → ∀ (w1 : World) (a1 : Option Addr) (c1 : Nat), OL .bool 4 (w.heap.size + 2) w1 a1 N c1 sl → w.heap.size + 2 ≤ w1.heap.size → Calls Try.prog 43 #[.agg #[.bool sb, .int .u8 (sm : Int), .slice a1 N c1, .int .u8 P, .bool sf], .bool x] w1 fun e w' => ∃ a' c', e = .returned (.tuple #[.agg #[.bool rb, .int .u8 rm, .slice a' RN c', .int .u8 rp, .bool rf], .int .u8 rd]) ∧ OL .bool 4 (w.heap.size + 2) w' a' RN c' rl ∧ Below (w.heap.size + 2) w1 w')
    (L3 : (3 : Int) ≤ P → P < 4 → ∀ (w1 : World) (a1 : Option Addr) (c1 : Nat), OL .bool 4 (w.heap.size + 2) w1 a1 N c1 sl → w.heap.size + 2 ≤ w1.heap.size → Calls Try.prog 44 #[.agg #[.bool sb, .int .u8 (sm : Int), .slice a1 N c1, .int .u8 P, .bool sf], .bool x] w1 fun e w' => ∃ a' c', e = .returned (.tuple #[.agg #[.bool rb, .int .u8 rm, .slice a' RN c', .int .u8 rp, .bool rf], .int .u8 rd]) ∧ OL .bool 4 (w.heap.size + 2) w' a' RN c' rl ∧ Below (w.heap.size + 2) w1 w')
    (L4 : (4 : Int) ≤ P → P < 10 → ∀ (w1 : World) (a1 : Option Addr) (c1 : Nat), OL .bool 4 (w.heap.size + 2) w1 a1 N c1 sl → w.heap.size + 2 ≤ w1.heap.size → Calls Try.prog 45 #[.agg #[.bool sb, .int .u8 (sm : Int), .slice a1 N c1, .int .u8 P, .bool sf], .bool x] w1 fun e w' => ∃ a' c', e = .returned (.tuple #[.agg #[.bool rb, .int .u8 rm, .slice a' RN c', .int .u8 rp, .bool rf], .int .u8 rd]) ∧ OL .bool 4 (w.heap.size + 2) w' a' RN c' rl ∧ Below (w.heap.size + 2) w1 w')
    (L5 : (10 : Int) ≤ P → P < 11 → ∀ (w1 : World) (a1 : Option Addr) (c1 : Nat), OL .bool 4 (w.heap.size + 2) w1 a1 N c1 sl → w.heap.size + 2 ≤ w1.heap.size → Calls Try.prog 46 #[.agg #[.bool sb, .int .u8 (sm : Int), .slice a1 N c1, .int .u8 P, .bool sf], .bool x] w1 fun e w' => ∃ a' c', e = .returned (.tuple #[.agg #[.bool rb, .int .u8 rm, .slice a' RN c', .int .u8 rp, .bool rf], .int .u8 rd]) ∧ OL .bool 4 (w.heap.size + 2) w' a' RN c' rl ∧ Below (w.heap.size + 2) w1 w')
    (HOV : Hid (11 ≤ P → rb = sb ∧ rm = (sm : Int) ∧ rl = sl ∧ RN = N ∧ rp = P ∧ rf = sf ∧ rd = 6)) :
    Calls Try.prog 9 #[.agg #[.bool sb, .int .u8 (sm : Int), .slice a N c, .int .u8 P, .bool sf], .bool x] w fun e w' => ∃ a' c',
      e = .returned (.tuple #[.agg #[.bool rb, .int .u8 rm, .slice a' RN c', .int .u8 rp, .bool rf], .int .u8 rd]) ∧ OL .bool 4 w.heap.size w' a' RN c' rl ∧ Below w.heap.size w w' := by
  obtain ⟨w0, hw0, ht, hrr, hb0⟩ := boxed5 w 29 (.bool sb) (.int .u8 (sm : Int)) (.slice a N c) (.int .u8 P) (.bool sf) (.bool false) (.int .u8 0) (.slice none 0 0) (.int .u8 0) (.bool false)
  have hs0 : w0.heap.size = w.heap.size + 2 := by rw [← hw0.out]; simp
  have HS0 := hid hs0; clear hs0
  obtain ⟨c0, c1, c2, c3, c4⟩ := bx5 ht
  have h0 := h.below hb0
  go_enter Try.func9, Try.ntmps9
  go_wp2_with (first
    | (go_at_call 25; rw [hw0.out]; (with_reducible refine (clone7_any _ _ _ _ _ h0 (by omega)).mono ?_); rintro e w1 ⟨a1, k1, rfl, hol1, g1⟩; clear c0 c1 c2 c3 c4; have ht1 := bx_below ht g1; obtain ⟨c0, c1, c2, c3, c4⟩ := bx5 ht1; have f0 := bx_thaw ht1)
    | (go_at_call 26; (with_reducible refine (spans_any _).mono ?_); rintro e w2 ⟨rfl, hsp2, g2⟩; clear c0 c1 c2 c3 c4 f0; have hX : Nx w w2 w1.heap.size _ _ a1 N k1 sl := nx_start (b := true) (m := .bool true) (P := .bool true) ht hrr hb0 HS0.out hol1 g1 hsp2 g2))
  obtain ⟨gs, hgs⟩ : ∃ gs, gs = w1.heap.size := ⟨_, rfl⟩
  rw [← hgs] at hX
  simp only [← hgs]
  clear hgs ht hrr hb0 hol1 g1 hsp2 g2 hw0 h0 h ht1
  go_loopw [14] (fun i wr => ∃ k : Int, 0 ≤ k ∧ k ≤ 6 ∧ i = .int .i64 k ∧ loI k ≤ P ∧ Nx w wr gs #[.bool sb, .int .u8 (sm : Int), .slice a1 N k1, .int .u8 P, .bool sf] #[.bool false, .int .u8 0, .slice none 0 0, .int .u8 0, .bool false] a1 N k1 sl) (fun i _ => 6 - (intOf i).toNat)
  case atStart => exact ⟨0, by omega, by omega, rfl, by simp only [loI, if_true]; exact hPb.1, hX⟩
  case round =>
    obtain ⟨k, hk0, hk6, rfl, hlo, hN⟩ := hrel
    have hs := hN.size
    have hk : k = 0 ∨ k = 1 ∨ k = 2 ∨ k = 3 ∨ k = 4 ∨ k = 5 ∨ k = 6 := by omega
    clear hk0 hk6
    rcases hk with rfl | rfl | rfl | rfl | rfl | rfl | rfl
    · have hlo' : (0 : Int) ≤ P := by simpa [loI] using hlo
      clear hlo
      have e0 := hN.cells 0 (.int .u8 0) rfl
      have e1 := hN.cells 1 (.int .u8 0) rfl
      have e2 := hN.cells 2 (.func (.func 41) #[] #[]) rfl
      have hA := hN.alloc (.cells #[.int .u8 0, .int .u8 0, .func (.func 41) #[] #[]] 60)
      obtain ⟨c0, c1, c2, c3, c4⟩ := bx5 hA.t
      by_cases hin : P < 1
      · have hL := L0 hlo' hin
        clear L0 L1 L2 L3 L4 L5
        go_wp2_with (go_at_call 41; (with_reducible refine (hL _ _ _ hA.own hA.size).mono ?_); rintro e w3 ⟨a3, k3, rfl, hol3, g3⟩; clear c0 c1 c2 c3 c4; obtain ⟨hr3, hb3⟩ := hA.lead g3; obtain ⟨r0, r1, r2, r3, r4⟩ := bx5 hr3; have f3 := bx_thaw hr3)
        exact bodyPost_ret (v := .tuple #[.agg #[.bool rb, .int .u8 rm, .slice a3 RN k3, .int .u8 rp, .bool rf], .int .u8 rd]) (by simp [results, Try.results9, go_sem, r0, r1, r2, r3, r4]) rfl ⟨_, _, rfl, nx_fin hol3 _ _ _ _ _, below7 hb3 (by omega) _ _ _ _ _⟩
      · clear L0 L1 L2 L3 L4 L5
        have hin' : (1 : Int) ≤ P := by omega
        go_wp2
        go_roundw
        case rel => exact ⟨1, by omega, by omega, rfl, by simpa [loI] using hin', hA⟩
        case measure => simp [intOf]
    · have hlo' : (1 : Int) ≤ P := by simpa [loI] using hlo
      clear hlo
      have e0 := hN.cells 3 (.int .u8 1) rfl
      have e1 := hN.cells 4 (.int .u8 1) rfl
      have e2 := hN.cells 5 (.func (.func 42) #[] #[]) rfl
      have hA := hN.alloc (.cells #[.int .u8 1, .int .u8 1, .func (.func 42) #[] #[]] 60)
      obtain ⟨c0, c1, c2, c3, c4⟩ := bx5 hA.t
      by_cases hin : P < 2
      · have hL := L1 hlo' hin
        clear L0 L1 L2 L3 L4 L5
        go_wp2_with (go_at_call 42; (with_reducible refine (hL _ _ _ hA.own hA.size).mono ?_); rintro e w3 ⟨a3, k3, rfl, hol3, g3⟩; clear c0 c1 c2 c3 c4; obtain ⟨hr3, hb3⟩ := hA.lead g3; obtain ⟨r0, r1, r2, r3, r4⟩ := bx5 hr3; have f3 := bx_thaw hr3)
        exact bodyPost_ret (v := .tuple #[.agg #[.bool rb, .int .u8 rm, .slice a3 RN k3, .int .u8 rp, .bool rf], .int .u8 rd]) (by simp [results, Try.results9, go_sem, r0, r1, r2, r3, r4]) rfl ⟨_, _, rfl, nx_fin hol3 _ _ _ _ _, below7 hb3 (by omega) _ _ _ _ _⟩
      · clear L0 L1 L2 L3 L4 L5
        have hin' : (2 : Int) ≤ P := by omega
        go_wp2
        go_roundw
        case rel => exact ⟨2, by omega, by omega, rfl, by simpa [loI] using hin', hA⟩
        case measure => simp [intOf]
    · have hlo' : (2 : Int) ≤ P := by simpa [loI] using hlo
      clear hlo
      have e0 := hN.cells 6 (.int .u8 2) rfl
      have e1 := hN.cells 7 (.int .u8 2) rfl
      have e2 := hN.cells 8 (.func (.func 43) #[] #[]) rfl
      have hA := hN.alloc (.cells #[.int .u8 2, .int .u8 2, .func (.func 43) #[] #[]] 60)
      obtain ⟨c0, c1, c2, c3, c4⟩ := bx5 hA.t
      by_cases hin : P < 3
      · have hL := L2 hlo' hin
        clear L0 L1 L2 L3 L4 L5
        go_wp2_with (go_at_call 43; (with_reducible refine (hL _ _ _ hA.own hA.size).mono ?_); rintro e w3 ⟨a3, k3, rfl, hol3, g3⟩; clear c0 c1 c2 c3 c4; obtain ⟨hr3, hb3⟩ := hA.lead g3; obtain ⟨r0, r1, r2, r3, r4⟩ := bx5 hr3; have f3 := bx_thaw hr3)
        exact bodyPost_ret (v := .tuple #[.agg #[.bool rb, .int .u8 rm, .slice a3 RN k3, .int .u8 rp, .bool rf], .int .u8 rd]) (by simp [results, Try.results9, go_sem, r0, r1, r2, r3, r4]) rfl ⟨_, _, rfl, nx_fin hol3 _ _ _ _ _, below7 hb3 (by omega) _ _ _ _ _⟩
      · clear L0 L1 L2 L3 L4 L5
        have hin' : (3 : Int) ≤ P := by omega
        go_wp2
        go_roundw
        case rel => exact ⟨3, by omega, by omega, rfl, by simpa [loI] using hin', hA⟩
        case measure => simp [intOf]
    · have hlo' : (3 : Int) ≤ P := by simpa [loI] using hlo
      clear hlo
      have e0 := hN.cells 9 (.int .u8 3) rfl
      have e1 := hN.cells 10 (.int .u8 3) rfl
      have e2 := hN.cells 11 (.func (.func 44) #[] #[]) rfl
      have hA := hN.alloc (.cells #[.int .u8 3, .int .u8 3, .func (.func 44) #[] #[]] 60)
      obtain ⟨c0, c1, c2, c3, c4⟩ := bx5 hA.t
      by_cases hin : P < 4
      · have hL := L3 hlo' hin
        clear L0 L1 L2 L3 L4 L5
        go_wp2_with (go_at_call 44; (with_reducible refine (hL _ _ _ hA.own hA.size).mono ?_); rintro e w3 ⟨a3, k3, rfl, hol3, g3⟩; clear c0 c1 c2 c3 c4; obtain ⟨hr3, hb3⟩ := hA.lead g3; obtain ⟨r0, r1, r2, r3, r4⟩ := bx5 hr3; have f3 := bx_thaw hr3)
        exact bodyPost_ret (v := .tuple #[.agg #[.bool rb, .int .u8 rm, .slice a3 RN k3, .int .u8 rp, .bool rf], .int .u8 rd]) (by simp [results, Try.results9, go_sem, r0, r1, r2, r3, r4]) rfl ⟨_, _, rfl, nx_fin hol3 _ _ _ _ _, below7 hb3 (by omega) _ _ _ _ _⟩
      · clear L0 L1 L2 L3 L4 L5
        have hin' : (4 : Int) ≤ P := by omega
        go_wp2
        go_roundw
        case rel => exact ⟨4, by omega, by omega, rfl, by simpa [loI] using hin', hA⟩
        case measure => simp [intOf]
    · have hlo' : (4 : Int) ≤ P := by simpa [loI] using hlo
      clear hlo
      have e0 := hN.cells 12 (.int .u8 4) rfl
      have e1 := hN.cells 13 (.int .u8 9) rfl
      have e2 := hN.cells 14 (.func (.func 45) #[] #[]) rfl
      have hA := hN.alloc (.cells #[.int .u8 4, .int .u8 9, .func (.func 45) #[] #[]] 60)
      obtain ⟨c0, c1, c2, c3, c4⟩ := bx5 hA.t
      by_cases hin : P < 10
      · have hL := L4 hlo' hin
        clear L0 L1 L2 L3 L4 L5
        go_wp2_with (go_at_call 45; (with_reducible refine (hL _ _ _ hA.own hA.size).mono ?_); rintro e w3 ⟨a3, k3, rfl, hol3, g3⟩; clear c0 c1 c2 c3 c4; obtain ⟨hr3, hb3⟩ := hA.lead g3; obtain ⟨r0, r1, r2, r3, r4⟩ := bx5 hr3; have f3 := bx_thaw hr3)
        exact bodyPost_ret (v := .tuple #[.agg #[.bool rb, .int .u8 rm, .slice a3 RN k3, .int .u8 rp, .bool rf], .int .u8 rd]) (by simp [results, Try.results9, go_sem, r0, r1, r2, r3, r4]) rfl ⟨_, _, rfl, nx_fin hol3 _ _ _ _ _, below7 hb3 (by omega) _ _ _ _ _⟩
      · clear L0 L1 L2 L3 L4 L5
        have hin' : (10 : Int) ≤ P := by omega
        go_wp2
        go_roundw
        case rel => exact ⟨5, by omega, by omega, rfl, by simpa [loI] using hin', hA⟩
        case measure => simp [intOf]
    · have hlo' : (10 : Int) ≤ P := by simpa [loI] using hlo
      clear hlo
      have e0 := hN.cells 15 (.int .u8 10) rfl
      have e1 := hN.cells 16 (.int .u8 10) rfl
      have e2 := hN.cells 17 (.func (.func 46) #[] #[]) rfl
      have hA := hN.alloc (.cells #[.int .u8 10, .int .u8 10, .func (.func 46) #[] #[]] 60)
      obtain ⟨c0, c1, c2, c3, c4⟩ := bx5 hA.t
      by_cases hin : P < 11
      · have hL := L5 hlo' hin
        clear L0 L1 L2 L3 L4 L5
        go_wp2_with (go_at_call 46; (with_reducible refine (hL _ _ _ hA.own hA.size).mono ?_); rintro e w3 ⟨a3, k3, rfl, hol3, g3⟩; clear c0 c1 c2 c3 c4; obtain ⟨hr3, hb3⟩ := hA.lead g3; obtain ⟨r0, r1, r2, r3, r4⟩ := bx5 hr3; have f3 := bx_thaw hr3)
        exact bodyPost_ret (v := .tuple #[.agg #[.bool rb, .int .u8 rm, .slice a3 RN k3, .int .u8 rp, .bool rf], .int .u8 rd]) (by simp [results, Try.results9, go_sem, r0, r1, r2, r3, r4]) rfl ⟨_, _, rfl, nx_fin hol3 _ _ _ _ _, below7 hb3 (by omega) _ _ _ _ _⟩
      · clear L0 L1 L2 L3 L4 L5
        have hin' : (11 : Int) ≤ P := by omega
        go_wp2
        go_roundw
        case rel => exact ⟨6, by omega, by omega, rfl, by simpa [loI] using hin', hA⟩
        case measure => simp [intOf]
    · have hlo' : (11 : Int) ≤ P := by simpa [loI] using hlo
      clear hlo L0 L1 L2 L3 L4 L5
      obtain ⟨rfl, rfl, rfl, rfl, rfl, rfl, rfl⟩ := HOV.out hlo'
      obtain ⟨c0, c1, c2, c3, c4⟩ := bx5 hN.t
      obtain ⟨r0, r1, r2, r3, r4⟩ := bx5 hN.r
      have f3 := bx_thaw hN.r
      go_wp2
      exact bodyPost_ret (v := .tuple #[.agg #[.bool rb, .int .u8 (sm : Int), .slice a1 RN k1, .int .u8 rp, .bool rf], .int .u8 6]) (by simp [results, Try.results9, go_sem, r0, r1, r2, r3, r4]) rfl ⟨_, _, rfl, nx_fin hN.own _ _ _ _ _, below7 hN.bel (by omega) _ _ _ _ _⟩
end Go.Proofs.Ythpgcgkgokfnpaa

namespace Go.Proofs.Ythpgcgkgokfnpaa
open Go.RowKit
set_option linter.unusedVariables false

theorem next7_any (w : World) (s : Tk) (x : Bool) (a : Option Addr) (n c : Nat) (hn : n = s.l.length) (h : RL .bool w a n c s.l) (hl : s.l.length ≤ 10000) (hr : rightA s.b s.m) (hp : s.p ≤ 255) :
    Calls Try.prog 9 #[.agg #[.bool s.b, .int .u8 (s.m : Int), .slice a n c, .int .u8 (s.p : Int), .bool s.fi], .bool x] w fun e w' => ∃ a' c',
      e = .returned (.tuple #[.agg #[.bool (nxT s x).1.b, .int .u8 ((nxT s x).1.m : Int), .slice a' (nxT s x).1.l.length c', .int .u8 ((nxT s x).1.p : Int), .bool (nxT s x).1.fi], .int .u8 ((nxT s x).2 : Int)]) ∧
      OL .bool 4 w.heap.size w' a' (nxT s x).1.l.length c' (nxT s x).1.l ∧ Below w.heap.size w w' := by
  subst hn
  exact next7_core w s.b s.fi x (nxT s x).1.b (nxT s x).1.fi s.m s.p (nxT s x).1.m (nxT s x).1.p (nxT s x).2 (by omega) s.l (nxT s x).1.l s.l.length (nxT s x).1.l.length a c h hl
    (fun h1 h2 w1 a1 c1 ho hs => lead_body (w.heap.size + 2) s x (by omega) hl hr w1 a1 _ c1 rfl ho hs)
    (fun h1 h2 w1 a1 c1 ho hs => lead_fixed (w.heap.size + 2) s x (by omega) w1 a1 _ c1 rfl ho hs)
    (fun h1 h2 w1 a1 c1 ho hs => lead_ack (w.heap.size + 2) s x (by omega) w1 a1 _ c1 rfl ho hs)
    (fun h1 h2 w1 a1 c1 ho hs => lead_done (w.heap.size + 2) s x (by omega) w1 a1 _ c1 rfl ho hs)
    (fun h1 h2 w1 a1 c1 ho hs => lead_end (w.heap.size + 2) s x (by omega) (by omega) w1 a1 _ c1 rfl ho hs)
    (fun h1 h2 w1 a1 c1 ho hs => lead_last (w.heap.size + 2) s x (by omega) w1 a1 _ c1 rfl ho hs)
    (hid fun h11 => by rw [nx_over (s := s) (x := x) (by omega)]; exact ⟨rfl, rfl, rfl, rfl, rfl, rfl, rfl⟩)

/-- What a receiver drives. -/
def drT (p : Nat) (fi : Bool) : Bool := !decide (p = 2) || !fi

theorem drive7_any (w : World) (b : Bool) (m : Nat) (a : Option Addr) (n c : Nat) (p : Nat) (fi : Bool) :
    Calls Try.prog 10 #[.agg #[.bool b, .int .u8 (m : Int), .slice a n c, .int .u8 (p : Int), .bool fi]] w fun e w' => e = .returned (.bool (drT p fi)) ∧ Below w.heap.size w w' := by
  unfold drT
  by_cases h2 : p = 2
  · subst h2
    go_enter Try.func10, Try.ntmps10
    go_wp2
    go_ret
    exact ⟨rfl, bnew0 _ _⟩
  · have hd : decide (p = 2) = false := decide_eq_false h2
    rw [hd]
    have h2' : ¬ (p : Int) = 2 := by omega
    clear hd h2
    go_enter Try.func10, Try.ntmps10
    go_wp2
    go_ret
    exact ⟨rfl, bnew0 _ _⟩

def zeroFr : Fr := ⟨0, false, false, 0, []⟩
/-- Whether take.Frame is asked for nothing. -/
def frN (m p : Nat) (fi : Bool) : Bool := decide (p = 0) || !fi || decide (m = 5)
/-- The frame that was read, and whether. -/
def frF (m : Nat) (l : List Bool) (p : Nat) (fi : Bool) : Fr := if frN m p fi then zeroFr else paU l
def frK (m : Nat) (l : List Bool) (p : Nat) (fi : Bool) : Bool := !frN m p fi && fitL l

theorem fitL_pe (l : List Bool) : fitL l = (peU l == 0) := by
  unfold fitL peU
  cases paK l
  · rfl
  · by_cases hs : suV l = 0#15 <;> simp [hs]

theorem below5 {B g : Nat} {w w1 : World} (h : Below B w w1) (hg : B ≤ g) (v0 v1 v2 v3 v4 : Value) : Below B w (((((w1.setCell ⟨g, 0, none⟩ v0).setCell ⟨g, 1, none⟩ v1).setCell ⟨g, 2, none⟩ v2).setCell ⟨g, 3, none⟩ v3).setCell ⟨g, 4, none⟩ v4) := below7 h hg _ _ _ _ _

theorem boxed57 (w : World) (t u : Array Value) : ∃ w0, Hid ((w.alloc (.cells t 29)).alloc (.cells u 36) = w0) ∧ w0.heap[w.heap.size]? = some (.cells t 29 (0, 0)) ∧ w0.heap[w.heap.size + 1]? = some (.cells u 36 (0, 0)) ∧ Below w.heap.size w w0 := by
  refine ⟨_, rfl, bx_alloc _ (heap_alloc_new _ _), ?_, bnew (bnew0 _ _) _⟩
  have := heap_alloc_new (w.alloc (.cells t 29)) (.cells u 36)
  simpa using this

set_option maxHeartbeats 2000000 in
theorem frame7_any (w : World) (b : Bool) (m : Nat) (a : Option Addr) (n c : Nat) (l : List Bool) (p : Nat) (fi : Bool) (h : RL .bool w a n c l) (hn : n ≤ 10000) (hm : m < 256) :
    Calls Try.prog 12 #[.agg #[.bool b, .int .u8 (m : Int), .slice a n c, .int .u8 (p : Int), .bool fi]] w fun e w' => ∃ a' c',
      e = .returned (.tuple #[.agg #[.int .u32 ((frF m l p fi).id : Int), .bool (frF m l p fi).ext, .bool (frF m l p fi).rem, .int .u8 ((frF m l p fi).dlc : Int), .slice a' (frF m l p fi).data.length c'], .bool (frK m l p fi)]) ∧
      RL bv w' a' (frF m l p fi).data.length c' (frF m l p fi).data ∧ Below w.heap.size w w' := by
  obtain ⟨w0, hw0, ht, hrr, hb0⟩ := boxed57 w #[.bool b, .int .u8 (m : Int), .slice a n c, .int .u8 (p : Int), .bool fi] #[.int .u32 0, .bool false, .bool false, .int .u8 0, .slice none 0 0]
  have hdu := fun w1 => due_any w1 b m a n c (p : Int) fi hm
  have hpa := fun (w1 : World) (h1 : RL .bool w1 a n c l) => parse_W w1 a n c l h1 (by omega)
  have h0 := h.below hb0
  have hF : frK m l p fi = (!frN m p fi && (peU l == 0)) := by unfold frK; rw [fitL_pe]
  rw [hF]
  unfold frF
  clear hF
  cases hN : frN m p fi
  · unfold frN at hN
    simp only [Bool.or_eq_false_iff, decide_eq_false_iff_not, Bool.not_eq_false'] at hN
    obtain ⟨⟨hp0, rfl⟩, hm5⟩ := hN
    simp only [Bool.false_eq_true, if_false, Bool.not_false, Bool.true_and]
    generalize peU l = pe at *
    generalize paU l = F at *
    obtain ⟨fid, fext, frem, fdlc, fdata⟩ := F
    dsimp only at *
    generalize hlen : fdata.length = N at *
    have hm5' : decide (m = 5) = false := decide_eq_false hm5
    simp only [hm5'] at hdu
    have hp0' : ¬ (p : Int) = 0 := by omega
    clear hm5 hm5' hp0 hlen
    go_enter Try.func12, Try.ntmps12
    go_wp2_with (first
      | (go_at_call 27; (with_reducible refine (hdu _).mono ?_); rintro e w1 ⟨rfl, g1⟩; rw [hw0.out] at g1; have ht1 := bx_below ht g1; have hr1 := bx_below hrr g1; have h1 := h0.below g1; have gg1 := bstep hb0 g1; obtain ⟨c0, c1, c2, c3, c4⟩ := bx5 ht1)
      | (go_at_call 28; (with_reducible refine (hpa _ h1).mono ?_); rintro e w2 ⟨a2, c2', rfl, hd2, g2⟩; have hs2 := g2.size; have hsr := bx_lt hr1; clear c0 c1 c2 c3 c4; have hr2 := bx_alloc (.cells #[.int .u32 (fid : Int), .bool fext, .bool frem, .int .u8 (fdlc : Int), .slice a2 N c2'] 36) (bx_below hr1 g2); have gg2 := bnew (bstep gg1 g2) (.cells #[.int .u32 (fid : Int), .bool fext, .bool frem, .int .u8 (fdlc : Int), .slice a2 N c2'] 36); obtain ⟨c0, c1, c2, c3, c4⟩ := bx5 hr2; have f0 := bx_thaw hr2))
    refine bodyPost_ret (v := .tuple #[.agg #[.int .u32 (fid : Int), .bool fext, .bool frem, .int .u8 (fdlc : Int), .slice a2 N c2'], .bool (pe == 0)]) (by simp [results, Try.results12, go_sem, c0, c1, c2, c3, c4]) rfl ⟨a2, c2', rfl, ((hd2.alloc (.cells #[.int .u32 (fid : Int), .bool fext, .bool frem, .int .u8 (fdlc : Int), .slice a2 N c2'] 36)).kept fun j hj => ?_).rl, below7 gg2 (by omega) _ _ _ _ _⟩
    have hj2 := (hd2.ltB hj).2
    have hn : j ≠ w.heap.size + 1 := by dsimp only at hj2; omega
    rw [heap_setCell_other _ _ _ _ hn, heap_setCell_other _ _ _ _ hn, heap_setCell_other _ _ _ _ hn, heap_setCell_other _ _ _ _ hn, heap_setCell_other _ _ _ _ hn]
  · have hcases : p = 0 ∨ (p ≠ 0 ∧ fi = false) ∨ (p ≠ 0 ∧ fi = true ∧ m = 5) := by
      unfold frN at hN
      by_cases h0 : p = 0
      · exact .inl h0
      · cases fi
        · exact .inr (.inl ⟨h0, rfl⟩)
        · refine .inr (.inr ⟨h0, rfl, ?_⟩)
          simpa [h0] using hN
    simp only [if_true, Bool.not_true, Bool.false_and]
    unfold zeroFr
    clear hpa hN
    obtain ⟨c0, c1, c2, c3, c4⟩ := bx5 ht
    obtain ⟨r0, r1, r2, r3, r4⟩ := bx5 hrr
    rcases hcases with rfl | ⟨hp0, rfl⟩ | ⟨hp0, rfl, rfl⟩
    · clear hdu ht hrr hb0 c0 c1 c2 c3 c4 r0 r1 r2 r3 r4
      go_enter Try.func12, Try.ntmps12
      go_wp2
      exact bodyPost_ret (v := .tuple #[.agg #[.int .u32 0, .bool false, .bool false, .int .u8 0, .slice none 0 0], .bool false]) (by simp [results, Try.results12, go_sem]) rfl ⟨none, 0, rfl, RL.nil _ _ _ _, bnew (bnew0 _ _) _⟩
    · have hp0' : ¬ (p : Int) = 0 := by omega
      clear hdu hp0 ht hrr hb0 c0 c1 c2 c3 c4 r0 r1 r2 r3 r4
      go_enter Try.func12, Try.ntmps12
      go_wp2
      exact bodyPost_ret (v := .tuple #[.agg #[.int .u32 0, .bool false, .bool false, .int .u8 0, .slice none 0 0], .bool false]) (by simp [results, Try.results12, go_sem]) rfl ⟨none, 0, rfl, RL.nil _ _ _ _, bnew (bnew0 _ _) _⟩
    · have hp0' : ¬ (p : Int) = 0 := by omega
      have h55 : ((5 : Nat) : Int) = 5 := rfl
      simp only [decide_true, h55] at hdu hw0 ht ⊢
      clear hp0 h55 c0 c1 c2 c3 c4 r0 r1 r2 r3 r4
      go_enter Try.func12, Try.ntmps12
      go_wp2_with (go_at_call 27; (with_reducible refine (hdu _).mono ?_); rintro e w1 ⟨rfl, g1⟩; rw [hw0.out] at g1; have hr1 := bx_below hrr g1; have gg1 := bstep hb0 g1; obtain ⟨r0, r1, r2, r3, r4⟩ := bx5 hr1; have f0 := bx_thaw hr1)
      exact bodyPost_ret (v := .tuple #[.agg #[.int .u32 0, .bool false, .bool false, .int .u8 0, .slice none 0 0], .bool false]) (by simp [results, Try.results12, go_sem, r0, r1, r2, r3, r4]) rfl ⟨none, 0, rfl, RL.nil _ _ _ _, below7 gg1 (by omega) _ _ _ _ _⟩
end Go.Proofs.Ythpgcgkgokfnpaa
