/-
  Contracts of the document's OfBytes and Bytes (layer 1).
  Plain mathematics of layer 2: runs, stuffing and unstuffing as functions on lists. Nothing of the program is spoken of here.
  Contracts of stuff.Put and stuff.Take.
  Contracts of the document's own answers of layer 2.
  Contracts of the document's own answers of layer 2: Put and Take.
  Contract of the document's Next (layer 2).
  Plain mathematics of layer 3: check sums as numbers of 15 bits. Nothing of the program is spoken of here.
  Plain mathematics for the statement CrcFinds: lists told by a function, bits that are turned about in them, and how many differ.
  Contracts of the functions of layer 3 that touch no memory: crc.Next.
  The contract of crc.Sum: a loop over an iterator that yields the bits one by one. It returns the check sum of the bits.
  Contracts of layer 3, more of them: crc.Bits, and the document's own answers, Sum and Bits.
  The contract of the document's own Sum of layer 3: a division of polynomials, done in place. It returns the check sum of the bits.
  Frames: what the functions of layer 4 say as plain functions; contracts of Long and Right (the program's and the document's).
-/
import Derived.Test.YtffbkcjkmhjfnaaB1f
import Derived.WalkSmall
import Derived.Laws.BitsAllLaws
import Derived.RangeFuncNested
import Derived.RangeFuncBound
import Derived.RangeFuncCalls
import Derived.RangeFuncLeaves
import Derived.Shelf.Abstract
import Derived.Shelf.RegionOpen
import Derived.OwnWalkIn
import Derived.TacticsInMore
import Derived.LoopNIn
import Derived.LoopIn
import Derived.BigGuard
import Derived.Deep.Light
import Derived.Lib.QuietBelow
namespace Go.Proofs.Ytffbkcjkmhjfnaa
open Go.RowKit
set_option linter.unusedVariables false

theorem ofL_take_succ (x m j : Nat) (h : j < m) : (ofL x m).take (j + 1) = (ofL x m).take j ++ [x.testBit (m - 1 - j)] := take_snoc (ofL_get x m j h)

theorem obL_take_chunk (l : List UInt8) (k : Nat) (x : UInt8) (h : l[k]? = some x) : (obL l).take (8 * (k + 1)) = (obL l).take (8 * k) ++ ofL x.toNat 8 := by
  rw [← obL_chunk l k x h, show 8 * (k + 1) = 8 * k + 8 from by omega, List.take_add]

theorem drop_chunk {α : Type} (l : List α) (m n : Nat) : (l.take (m + n)).drop m = (l.drop m).take n := by
  rw [List.drop_take, Nat.add_sub_cancel_left]

theorem chunk_len {l : List Bool} {i : Nat} (h : i < l.length / 8) : ((l.drop (8 * i)).take 8).length = 8 := by simp; omega

theorem u8_of_num (m : Nat) : (Value.int .u8 (((m % 4294967296 : Nat) : Int) % 256)) = bv (UInt8.ofNat m) := by
  unfold bv
  congr 1
  simp

end Go.Proofs.Ytffbkcjkmhjfnaa

namespace Go.Proofs.Ytffbkcjkmhjfnaa

/-- A run that may be: how many of the last bits are alike, and of which kind. -/
def rightA (b : Bool) (m : Nat) : Prop := m ≤ 5 ∧ (m = 0 → b = false)

/-- The run behind one more bit of a right run, and the bit's kind: 0 plain, 1 stuffed, 2 wrong. -/
def nxt (b : Bool) (m : Nat) (x : Bool) : (Bool × Nat) × Nat :=
  if m = 5 then (if x = b then ((b, 5), 2) else ((x, 1), 1)) else if x = b then ((x, m + 1), 0) else ((x, 1), 0)

/-- What is put behind a run. -/
def putF (b : Bool) (m : Nat) : List Bool → List Bool
  | [] => []
  | x :: l => if (nxt b m x).1.2 = 5 then x :: (!x) :: putF (!x) 1 l else x :: putF (nxt b m x).1.1 (nxt b m x).1.2 l

/-- What is taken, from bit i on, behind what was taken. -/
def tkF (b : Bool) (m : Nat) (i : Nat) (out : List Bool) : List Bool → List Bool × Int
  | [] => (out, -1)
  | x :: l => if (nxt b m x).2 = 2 then (out, (i : Int)) else if (nxt b m x).2 = 1 then tkF (nxt b m x).1.1 (nxt b m x).1.2 (i + 1) out l else tkF (nxt b m x).1.1 (nxt b m x).1.2 (i + 1) (out ++ [x]) l

def putL (l : List Bool) : List Bool := putF false 0 l
def tkL (l : List Bool) : List Bool × Int := tkF false 0 0 [] l

theorem nxt_right {b : Bool} {m : Nat} {x : Bool} (h : rightA b m) : rightA (nxt b m x).1.1 (nxt b m x).1.2 ∧ 1 ≤ (nxt b m x).1.2 := by
  unfold rightA nxt at *
  split
  · split <;> (simp)
  · split
    · simp; omega
    · simp

theorem nxt_fst {b : Bool} {m : Nat} {x : Bool} (h : (nxt b m x).2 ≠ 2) : (nxt b m x).1.1 = x := by
  unfold nxt at *
  split
  · split
    · rename_i h1 h2; simp [h1, h2] at h
    · rfl
  · split <;> rfl

theorem nxt_plain {b : Bool} {m : Nat} {x : Bool} (h : m ≠ 5) : (nxt b m x).2 = 0 := by
  unfold nxt; rw [if_neg h]; split <;> rfl

theorem nxt_five {b : Bool} {m : Nat} {x : Bool} (hm : m ≤ 4) (h : (nxt b m x).1.2 = 5) : nxt b m x = ((x, 5), 0) ∧ m = 4 := by
  unfold nxt at *
  rw [if_neg (by omega)] at *
  split at h
  · rename_i hx
    simp only at h
    rw [if_pos hx]
    exact ⟨by rw [h], by omega⟩
  · simp at h

theorem nxt_owed (x : Bool) : nxt x 5 (!x) = ((!x, 1), 1) := by cases x <;> rfl

theorem nxt_le {b : Bool} {m : Nat} {x : Bool} (hm : m ≤ 4) (h : (nxt b m x).1.2 ≠ 5) : (nxt b m x).1.2 ≤ 4 ∧ (nxt b m x).1.2 - 1 ≤ (m - 1) + 1 := by
  unfold nxt at *
  rw [if_neg (by omega)] at *
  split at h
  · simp only at h; rename_i hx; rw [if_pos hx]; simp only; omega
  · rename_i hx; rw [if_neg hx]; simp only; omega

/-- What was put is taken. -/
theorem tk_put (l : List Bool) : ∀ b m i out, m ≤ 4 → tkF b m i out (putF b m l) = (out ++ l, -1) := by
  induction l with
  | nil => intro b m i out _; simp [putF, tkF]
  | cons x l ih =>
    intro b m i out hm
    have hp := nxt_plain (b := b) (x := x) (show m ≠ 5 by omega)
    unfold putF
    split
    · rename_i h5
      obtain ⟨e, _⟩ := nxt_five hm h5
      rw [tkF, e]
      simp only [show ¬ ((0 : Nat) = 2) from by decide, show ¬ ((0 : Nat) = 1) from by decide, if_false]
      rw [tkF, nxt_owed]
      simp only [show ¬ ((1 : Nat) = 2) from by decide, if_false, if_true]
      rw [ih _ _ _ _ (by omega)]
      simp
    · rename_i h5
      rw [tkF, hp]
      simp only [show ¬ ((0 : Nat) = 2) from by decide, show ¬ ((0 : Nat) = 1) from by decide, if_false]
      rw [ih _ _ _ _ (nxt_le hm h5).1]
      simp

theorem tkL_putL (l : List Bool) : tkL (putL l) = (l, -1) := by
  unfold tkL putL; rw [tk_put _ _ _ _ _ (by omega)]; simp

theorem putF_len (l : List Bool) : ∀ b m, m ≤ 4 → l.length ≤ (putF b m l).length ∧ 4 * (putF b m l).length ≤ 5 * l.length + (m - 1) := by
  induction l with
  | nil => intro b m _; simp [putF]
  | cons x l ih =>
    intro b m hm
    unfold putF
    split
    · rename_i h5
      obtain ⟨_, e⟩ := nxt_five hm h5
      have := ih (!x) 1 (by omega)
      simp only [List.length_cons]; omega
    · rename_i h5
      have h1 := nxt_le hm h5
      have := ih (nxt b m x).1.1 (nxt b m x).1.2 h1.1
      simp only [List.length_cons]; omega

theorem putL_len (l : List Bool) : l.length ≤ (putL l).length ∧ (putL l).length - l.length ≤ l.length / 4 := by
  have := putF_len l false 0 (by omega)
  unfold putL; omega

/-- The run that bits end with, counted without end. -/
def cst (s : Bool × Nat) (x : Bool) : Bool × Nat := if x = s.1 then (x, s.2 + 1) else (x, 1)
def cnt (s : Bool × Nat) (l : List Bool) : Bool × Nat := l.foldl cst s

theorem nxt_cst {b : Bool} {m : Nat} {x : Bool} (h : (nxt b m x).2 ≠ 2) : (nxt b m x).1 = cst (b, m) x := by
  unfold nxt cst at *
  simp only at *
  split
  · rename_i h5
    rw [if_pos h5] at h
    split
    · rename_i hx; simp [hx] at h
    · rfl
  · split <;> rfl

/-- As long as nothing is wrong runs are at most five long. -/
theorem tk_runs (l : List Bool) : ∀ b m i out, m ≤ 5 → (tkF b m i out l).2 = -1 → ∀ k, (cnt (b, m) (l.take k)).2 ≤ 5 := by
  induction l with
  | nil => intro b m i out hm _ k; simp [cnt]; omega
  | cons x l ih =>
    intro b m i out hm h k
    cases k with
    | zero => simp [cnt]; omega
    | succ k =>
      unfold tkF at h
      split at h
      · simp only at h; omega
      · rename_i h2
        have hn := nxt_cst h2
        have hle : (nxt b m x).1.2 ≤ 5 := by
          unfold nxt
          split
          · split <;> simp
          · split
            · simp only; omega
            · simp only; omega
        simp only [List.take_succ_cons, cnt, List.foldl_cons]
        rw [← hn]
        split at h
        · exact ih _ _ _ _ hle h k
        · exact ih _ _ _ _ hle h k

theorem cnt_snoc (s : Bool × Nat) {l : List Bool} {k : Nat} {x : Bool} (h : l[k]? = some x) : cnt s (l.take (k + 1)) = cst (cnt s (l.take k)) x := by
  unfold cnt; rw [take_snoc h, List.foldl_append]; rfl

theorem putL_runs (l : List Bool) (k : Nat) : (cnt (false, 0) ((putL l).take k)).2 ≤ 5 := by
  refine tk_runs (putL l) false 0 0 [] (by omega) ?_ k
  have := tkL_putL l
  unfold tkL at this
  rw [this]

/-- The run that bits end with, up to five. -/
def rst (s : Bool × Nat) (x : Bool) : Bool × Nat := if x = s.1 then (x, min 5 (s.2 + 1)) else (x, 1)
def rowL (l : List Bool) : Bool × Nat := l.foldl rst (false, 0)

theorem rowL_snoc (l : List Bool) (x : Bool) : rowL (l ++ [x]) = rst (rowL l) x := by unfold rowL; rw [List.foldl_append]; rfl

theorem rowL_right (l : List Bool) : rightA (rowL l).1 (rowL l).2 := by
  have key : ∀ (l : List Bool) (s : Bool × Nat), rightA s.1 s.2 → rightA (l.foldl rst s).1 (l.foldl rst s).2 := by
    intro l
    induction l with
    | nil => intro s h; exact h
    | cons x l ih =>
      intro s h
      refine ih _ ?_
      unfold rightA rst at *
      split
      · simp only; omega
      · simp
  exact key l _ ⟨by simp, fun _ => rfl⟩

theorem rst_nxt {b : Bool} {m : Nat} (x : Bool) (h : m ≤ 4) : rst (b, m) x = (nxt b m x).1 := by
  unfold rst nxt
  rw [if_neg (show ¬ m = 5 by omega)]
  by_cases hx : x = b
  · simp [hx]; omega
  · simp [hx]

theorem rst_rep (n : Nat) (b : Bool) : ∀ s : Bool × Nat, (List.replicate n b).foldl rst s = if n = 0 then s else if b = s.1 then (b, min 5 (s.2 + n)) else (b, min 5 n) := by
  induction n with
  | zero => intro s; simp
  | succ n ih =>
    intro s
    rw [List.replicate_succ, List.foldl_cons, ih]
    unfold rst
    by_cases hb : b = s.1
    · rw [if_pos hb]
      by_cases hn : n = 0
      · subst hn; simp [← hb]
      · simp [hn, ← hb]; omega
    · rw [if_neg hb]
      by_cases hn : n = 0
      · subst hn; simp [hb]
      · simp [hn, hb]; omega

/-- What Row finds by looking back. -/
theorem rowL_back (p : List Bool) (b : Bool) (n : Nat) (hn : 1 ≤ n) (h5 : n ≤ 5) (h : n = 5 ∨ p = [] ∨ ∃ q, p = q ++ [!b]) : rowL (p ++ List.replicate n b) = (b, n) := by
  unfold rowL
  rw [List.foldl_append, rst_rep, if_neg (by omega)]
  rcases h with rfl | rfl | ⟨q, rfl⟩
  · split <;> simp
  · show (if b = false then (b, min 5 (0 + n)) else (b, min 5 n)) = (b, n)
    cases b <;> simp <;> omega
  · have e : (List.foldl rst (false, 0) (q ++ [!b])).1 = !b := by
      rw [List.foldl_append]
      simp only [List.foldl_cons, List.foldl_nil, rst]
      split <;> rfl
    rw [if_neg (by rw [e]; cases b <;> simp)]
    congr 1; omega

theorem tkF_len (l : List Bool) : ∀ b m i out, (tkF b m i out l).1.length ≤ out.length + l.length := by
  induction l with
  | nil => intro b m i out; simp [tkF]
  | cons x l ih =>
    intro b m i out
    unfold tkF
    split
    · simp only [List.length_cons]; omega
    · split
      · have := ih (nxt b m x).1.1 (nxt b m x).1.2 (i + 1) out; simp only [List.length_cons]; omega
      · have := ih (nxt b m x).1.1 (nxt b m x).1.2 (i + 1) (out ++ [x]); simp only [List.length_append, List.length_cons, List.length_nil] at *; omega

theorem tkL_len (l : List Bool) : (tkL l).1.length ≤ l.length := by have := tkF_len l false 0 0 []; unfold tkL; simpa using this


theorem tkF_out (l : List Bool) : ∀ b m i out, tkF b m i out l = (out ++ (tkF b m i [] l).1, (tkF b m i [] l).2) := by
  induction l with
  | nil => intro b m i out; simp [tkF]
  | cons x l ih =>
    intro b m i out
    unfold tkF
    split
    · simp
    · split
      · rw [ih]
      · rw [ih _ _ _ (out ++ [x]), ih _ _ _ ([] ++ [x])]; simp

/-- Where it stops, five bits alike stand ahead, and one more of them. -/
theorem tkF_stop (l : List Bool) : ∀ b m i out, (tkF b m i out l).2 = -1 ∨ ∃ d y, (tkF b m i out l).2 = ((i + d : Nat) : Int) ∧ d < l.length ∧ cnt (b, m) (l.take d) = (y, 5) ∧ l[d]? = some y := by
  induction l with
  | nil => intro b m i out; exact .inl rfl
  | cons x l ih =>
    intro b m i out
    unfold tkF
    split
    · rename_i h2
      refine .inr ⟨0, x, rfl, by simp, ?_, rfl⟩
      unfold nxt at h2
      split at h2
      · rename_i h5
        split at h2
        · rename_i hx; simp [cnt, h5, hx]
        · simp at h2
      · split at h2 <;> simp at h2
    · rename_i h2
      have hn := nxt_cst h2
      have key : ∀ out', (tkF (nxt b m x).1.1 (nxt b m x).1.2 (i + 1) out' l).2 = -1 ∨ ∃ d y, (tkF (nxt b m x).1.1 (nxt b m x).1.2 (i + 1) out' l).2 = ((i + d : Nat) : Int) ∧ d < (x :: l).length ∧ cnt (b, m) ((x :: l).take d) = (y, 5) ∧ (x :: l)[d]? = some y := by
        intro out'
        rcases ih (nxt b m x).1.1 (nxt b m x).1.2 (i + 1) out' with h | ⟨d, y, h1, h3, h4, h5⟩
        · exact .inl h
        · refine .inr ⟨d + 1, y, by rw [h1]; congr 1; omega, by simp; omega, ?_, by simpa using h5⟩
          rw [List.take_succ_cons]
          unfold cnt at h4 ⊢
          rw [List.foldl_cons, ← hn]
          exact h4
      split
      · exact key out
      · exact key _

theorem cnt_at (l : List Bool) : ∀ k, k ≤ l.length → (cnt (false, 0) (l.take k)).2 ≤ k ∧ ∀ j, j < (cnt (false, 0) (l.take k)).2 → l[k - 1 - j]? = some (cnt (false, 0) (l.take k)).1 := by
  intro k
  induction k with
  | zero => intro _; simp [cnt]
  | succ k ih =>
    intro hk
    obtain ⟨x, hx⟩ : ∃ x, l[k]? = some x := ⟨l[k], by simp⟩
    obtain ⟨h1, h2⟩ := ih (by omega)
    rw [cnt_snoc _ hx]
    unfold cst
    split
    · rename_i he
      refine ⟨by simp only; omega, fun j hj => ?_⟩
      simp only at hj ⊢
      by_cases h0 : j = 0
      · subst h0; simpa using hx
      · have := h2 (j - 1) (by omega)
        rw [he, ← this]; congr 1; omega
    · refine ⟨by simp only; omega, fun j hj => ?_⟩
      simp only at hj ⊢
      obtain rfl : j = 0 := by omega
      simpa using hx

/-- Read up to its end, or up to the first sixth bit alike. -/
theorem tkL_stop (l : List Bool) : (tkL l).2 = -1 ∨ ∃ j y, (tkL l).2 = ((j + 5 : Nat) : Int) ∧ j + 5 < l.length ∧ l[j + 5]? = some y ∧ l[j + 4]? = some y ∧ l[j]? = some y := by
  rcases tkF_stop l false 0 0 [] with h | ⟨d, y, h1, h2, h3, h4⟩
  · exact .inl h
  · obtain ⟨e1, e2⟩ := cnt_at l d (by omega)
    rw [h3] at e1 e2
    simp only at e1 e2
    obtain ⟨j, rfl⟩ : ∃ j, d = j + 5 := ⟨d - 5, by omega⟩
    refine .inr ⟨j, y, by unfold tkL; rw [h1, Nat.zero_add], h2, h4, ?_, ?_⟩
    · rw [← e2 0 (by omega)]; congr 1
    · rw [← e2 4 (by omega)]; congr 1

/-- Cut ahead of where it stops nothing is wrong, and it is the begin of what is taken. -/
theorem tkF_cut (l : List Bool) : ∀ b m i out k, k ≤ l.length → (∀ d : Nat, (tkF b m i out l).2 = ((i + d : Nat) : Int) → k ≤ d) → (tkF b m i out (l.take k)).2 = -1 ∧ ∃ t, (tkF b m i out l).1 = (tkF b m i out (l.take k)).1 ++ t := by
  induction l with
  | nil => intro b m i out k hk _; simp at hk; subst hk; exact ⟨rfl, [], by simp⟩
  | cons x l ih =>
    intro b m i out k hk hd
    cases k with
    | zero => refine ⟨rfl, ?_⟩; rw [tkF_out]; exact ⟨_, rfl⟩
    | succ k =>
      rw [List.take_succ_cons]
      unfold tkF at hd ⊢
      split
      · rename_i h2
        rw [if_pos h2] at hd
        have := hd 0 rfl
        omega
      · rename_i h2
        rw [if_neg h2] at hd
        split
        · rename_i h1
          rw [if_pos h1] at hd
          exact ih _ _ _ _ k (by simpa using hk) (fun d h => by have := hd (d + 1) (by rw [h]; congr 1; omega); omega)
        · rename_i h1
          rw [if_neg h1] at hd
          exact ih _ _ _ _ k (by simpa using hk) (fun d h => by have := hd (d + 1) (by rw [h]; congr 1; omega); omega)

/-- What was taken, and nothing wrong in it, put again: it is as it was, but for a stuff bit that is owed at the end. -/
theorem tk_again : ∀ (N : Nat) (l : List Bool), l.length ≤ N → ∀ b m i, m ≤ 4 → (tkF b m i [] l).2 = -1 → putF b m (tkF b m i [] l).1 = l ∨ ∃ y, putF b m (tkF b m i [] l).1 = l ++ [y] := by
  intro N
  induction N with
  | zero => intro l hl b m i _ _; obtain rfl : l = [] := List.eq_nil_of_length_eq_zero (by omega); exact .inl rfl
  | succ N ih =>
    intro l hl b m i hm h
    cases l with
    | nil => exact .inl rfl
    | cons x l =>
      simp only [List.length_cons] at hl
      have hp := nxt_plain (b := b) (x := x) (show m ≠ 5 by omega)
      rw [tkF, hp, if_neg (by decide), if_neg (by decide), tkF_out] at h ⊢
      simp only [List.nil_append, List.cons_append] at h ⊢
      rw [putF]
      by_cases h5 : (nxt b m x).1.2 = 5
      · rw [if_pos h5]
        obtain ⟨e, _⟩ := nxt_five hm h5
        rw [e] at h ⊢
        simp only at h ⊢
        cases l with
        | nil => exact .inr ⟨!x, rfl⟩
        | cons y l =>
          rw [tkF] at h ⊢
          by_cases hy : y = x
          · rw [show nxt x 5 y = ((x, 5), 2) from by unfold nxt; rw [if_pos rfl, if_pos hy], if_pos rfl] at h
            simp only at h
            omega
          · obtain rfl : y = !x := by cases x <;> cases y <;> simp_all
            rw [nxt_owed, if_neg (show ¬ ((1 : Nat) = 2) by decide), if_pos rfl] at h ⊢
            simp only [List.length_cons] at hl
            rcases ih l (by omega) (!x) 1 (i + 1 + 1) (by omega) h with e1 | ⟨z, e1⟩
            · left; rw [e1]
            · right; exact ⟨z, by rw [e1]; rfl⟩
      · rw [if_neg h5]
        rcases ih l (by omega) _ _ (i + 1) (nxt_le hm h5).1 h with e1 | ⟨z, e1⟩
        · left; rw [e1]
        · right; exact ⟨z, by rw [e1]⟩

theorem tkL_again {l : List Bool} (h : (tkL l).2 = -1) : putL (tkL l).1 = l ∨ ∃ y, putL (tkL l).1 = l ++ [y] := tk_again l.length l (Nat.le_refl _) false 0 0 (by omega) h

theorem tkL_cut {l : List Bool} {k : Nat} (hk : k ≤ l.length) (h : ∀ d : Nat, (tkL l).2 = (d : Int) → k ≤ d) : (tkL (l.take k)).2 = -1 ∧ (tkL (l.take k)).1 = (tkL l).1.take (tkL (l.take k)).1.length ∧ (tkL (l.take k)).1.length ≤ (tkL l).1.length := by
  obtain ⟨h1, t, h2⟩ := tkF_cut l false 0 0 [] k hk (fun d hd => h d (by unfold tkL; rw [hd, Nat.zero_add]))
  refine ⟨h1, ?_, ?_⟩
  · unfold tkL; rw [h2, List.take_left]
  · unfold tkL; rw [h2, List.length_append]; omega
end Go.Proofs.Ytffbkcjkmhjfnaa

namespace Go.Proofs.Ytffbkcjkmhjfnaa
open Go.RowKit
set_option linter.unusedVariables false

theorem drop_at {l : List Bool} {k : Nat} {x : Bool} (h : l[k]? = some x) : l.drop k = x :: l.drop (k + 1) := by
  obtain ⟨h1, h2⟩ := List.getElem?_eq_some_iff.1 h
  rw [List.drop_eq_getElem_cons h1, h2]

theorem nxt_kind (b : Bool) (m : Nat) (x : Bool) : (nxt b m x).2 = 0 ∨ (nxt b m x).2 = 1 ∨ (nxt b m x).2 = 2 := by
  unfold nxt; split <;> split <;> simp

end Go.Proofs.Ytffbkcjkmhjfnaa

namespace Go.Proofs.Ytffbkcjkmhjfnaa
open Go.RowKit
set_option linter.unusedVariables false

theorem rep_of {l : List Bool} {b : Bool} {n : Nat} (hn : n ≤ l.length) (h : ∀ j, j < n → l[l.length - 1 - j]? = some b) : l.drop (l.length - n) = List.replicate n b := by
  apply List.ext_getElem?
  intro i
  rw [List.getElem?_drop, List.getElem?_replicate]
  by_cases hi : i < n
  · rw [if_pos hi]
    have := h (n - 1 - i) (by omega)
    rw [← this]; congr 1; omega
  · rw [if_neg hi, List.getElem?_eq_none (by omega)]

/-- What looking back from the end finds: n bits alike, and then the begin, or five of them, or another one. -/
theorem rowL_at {l : List Bool} {b : Bool} {n : Nat} (hn : n ≤ l.length) (h1 : 1 ≤ n) (h5 : n ≤ 5) (h : ∀ j, j < n → l[l.length - 1 - j]? = some b) (hs : n = 5 ∨ n = l.length ∨ l[l.length - 1 - n]? = some (!b)) : rowL l = (b, n) := by
  have e : l = l.take (l.length - n) ++ List.replicate n b := by rw [← rep_of hn h, List.take_append_drop]
  rw [e]
  refine rowL_back _ b n h1 h5 ?_
  rcases hs with hs | hs | hs
  · exact .inl hs
  · exact .inr (.inl (by rw [hs]; simp))
  · refine .inr (.inr ⟨l.take (l.length - n - 1), ?_⟩)
    have hlt : l.length - 1 - n < l.length := (List.getElem?_eq_some_iff.1 hs).1
    by_cases hz : n = l.length
    · have h0 := h (n - 1) (by omega)
      rw [show l.length - 1 - (n - 1) = l.length - 1 - n from by omega, hs] at h0
      cases b <;> simp at h0
    · rw [show l.length - n = l.length - n - 1 + 1 from by omega]
      exact take_snoc (by rw [← hs]; congr 1; omega)

end Go.Proofs.Ytffbkcjkmhjfnaa

namespace Go.Proofs.Ytffbkcjkmhjfnaa
open Go.RowKit
set_option linter.unusedVariables false

theorem rowL_snoc_drop {out : List Bool} {fr : Nat} {b : Bool} {m : Nat} (x : Bool) (hf : fr ≤ out.length) (h : rowL (out.drop fr) = (b, m)) (hm : m ≤ 4) : rowL ((out ++ [x]).drop fr) = (nxt b m x).1 := by
  rw [List.drop_append_of_le_length hf, rowL_snoc, h, rst_nxt x hm]

theorem rowL_one (x : Bool) : rowL [x] = (x, 1) := by cases x <;> rfl

theorem rowL_last {t : List Bool} {b : Bool} {m : Nat} (h : rowL t = (b, m)) (hm : m ≠ 0) : t[t.length - 1]? = some b := by
  have hne : t ≠ [] := by rintro rfl; simp [rowL] at h; omega
  have e : t = t.dropLast ++ [t.getLast hne] := (List.dropLast_concat_getLast hne).symm
  have h2 : (rowL t).1 = t.getLast hne := by
    have := rowL_snoc t.dropLast (t.getLast hne)
    rw [← e] at this
    rw [this]
    unfold rst
    split
    · rfl
    · rfl
  rw [h] at h2
  rw [← List.getLast?_eq_getElem?, List.getLast?_eq_some_getLast hne, ← h2]

end Go.Proofs.Ytffbkcjkmhjfnaa

namespace Go.Proofs.Ytffbkcjkmhjfnaa
open Go.RowKit
set_option linter.unusedVariables false

theorem rowL_rep {b : Bool} {m : Nat} (h : rightA b m) : rowL (List.replicate m b) = (b, m) := by
  obtain ⟨h1, h2⟩ := h
  by_cases h0 : m = 0
  · subst h0; rw [h2 rfl]; rfl
  · have := rowL_back [] b m (by omega) h1 (.inr (.inl rfl))
    simpa using this

end Go.Proofs.Ytffbkcjkmhjfnaa

namespace Go.Proofs.Ytffbkcjkmhjfnaa

/-- The check sum after one more bit. -/
def nxV (s : BitVec 15) (b : Bool) : BitVec 15 := (s <<< 1) ^^^ (if s.msb != b then 0x4599#15 else 0#15)

/-- The check sum behind more bits. -/
def foV (s : BitVec 15) (l : List Bool) : BitVec 15 := l.foldl nxV s

/-- The check sum of bits. -/
def suV (l : List Bool) : BitVec 15 := foV 0#15 l

theorem foV_append (s : BitVec 15) (l m : List Bool) : foV s (l ++ m) = foV (foV s l) m := by simp [foV]
theorem foV_nil (s : BitVec 15) : foV s [] = s := rfl
theorem foV_cons (s : BitVec 15) (b : Bool) (l : List Bool) : foV s (b :: l) = foV (nxV s b) l := rfl
theorem suV_append (l m : List Bool) : suV (l ++ m) = foV (suV l) m := foV_append _ _ _
theorem suV_snoc (l : List Bool) (x : Bool) : suV (l ++ [x]) = nxV (suV l) x := by rw [suV_append]; rfl

theorem nxV_xor (a c : BitVec 15) (x y : Bool) : nxV (a ^^^ c) (x != y) = nxV a x ^^^ nxV c y := by
  have hm : (a ^^^ c).msb = (a.msb != c.msb) := by simp [BitVec.msb_xor]
  have hs : (a ^^^ c) <<< 1 = a <<< 1 ^^^ c <<< 1 := by
    exact BitVec.shiftLeft_xor_distrib a c 1
  unfold nxV
  rw [hm, hs]
  generalize a <<< 1 = p
  generalize c <<< 1 = q
  ext i hi
  simp only [BitVec.getElem_xor]
  generalize p[i] = u
  generalize q[i] = v
  cases a.msb <;> cases c.msb <;> cases x <;> cases y <;> simp only [bne_self_eq_false, Bool.bne_false, Bool.bne_true, Bool.not_false, if_true, if_false, Bool.false_eq_true, BitVec.getElem_zero] <;> generalize (0x4599#15)[i] = t <;> cases u <;> cases v <;> (try cases t) <;> rfl

/-- Two lists of one length, turned about by each other. -/
def xoL (l m : List Bool) : List Bool := List.zipWith (fun x y => x != y) l m

theorem foV_xor : ∀ (l m : List Bool) (a c : BitVec 15), l.length = m.length → foV (a ^^^ c) (xoL l m) = foV a l ^^^ foV c m := by
  intro l
  induction l with
  | nil => intro m a c h; cases m with
    | nil => rfl
    | cons y m => simp at h
  | cons x l ih =>
    intro m a c h
    cases m with
    | nil => simp at h
    | cons y m =>
      show foV (nxV (a ^^^ c) (x != y)) (xoL l m) = _
      rw [nxV_xor, ih m _ _ (by simpa using h)]
      rfl

theorem suV_xor (l m : List Bool) (h : l.length = m.length) : suV (xoL l m) = suV l ^^^ suV m := by
  have := foV_xor l m 0#15 0#15 h
  rw [BitVec.xor_self] at this
  exact this

/-- The 15 bits of a sum. -/
def biV (s : BitVec 15) : List Bool := ofL s.toNat 15

theorem nxV_own (s : BitVec 15) : nxV s s.msb = s <<< 1 := by simp [nxV]

theorem foV_bits (s : BitVec 15) : ∀ k, k ≤ 15 → foV s (ofL s.toNat 15 |>.take k) = s <<< k := by
  intro k
  induction k with
  | zero => intro _; simp [foV]
  | succ k ih =>
    intro hk
    rw [take_snoc (x := s.toNat.testBit (14 - k)) (by rw [ofL_get _ _ _ (by omega)]), foV_append, ih (by omega)]
    have hm : s.toNat.testBit (14 - k) = (s <<< k).msb := by
      rw [BitVec.msb_eq_getLsbD_last, BitVec.getLsbD_shiftLeft, BitVec.testBit_toNat]
      simp [show ¬ (14 < k) by omega]
    rw [hm]
    show nxV (s <<< k) (s <<< k).msb = _
    rw [nxV_own, ← BitVec.shiftLeft_add]

theorem foV_own (s : BitVec 15) : foV s (biV s) = 0#15 := by
  have := foV_bits s 15 (Nat.le_refl _)
  rw [List.take_of_length_le (by simp)] at this
  unfold biV
  rw [this]
  ext i hi
  simp

theorem suV_whole (l : List Bool) : suV (l ++ biV (suV l)) = 0#15 := by rw [suV_append, foV_own]

/-- Dominant bits ahead say nothing. -/
theorem suV_zeros (k : Nat) : suV (List.replicate k false) = 0#15 := by
  induction k with
  | zero => rfl
  | succ k ih => rw [List.replicate_succ', suV_snoc, ih]; rfl

theorem suV_ahead (k : Nat) (l : List Bool) : suV (List.replicate k false ++ l) = suV l := by rw [suV_append, suV_zeros]; rfl

/-- Whatever is not 0 is not 0 behind one more dominant bit: the lowest bit of the polynomial is set. -/
theorem nxV_zero {s : BitVec 15} (h : nxV s false = 0#15) : s = 0#15 := by
  have h0 : (nxV s false).getLsbD 0 = false := by rw [h]; rfl
  have hm : s.msb = false := by
    unfold nxV at h0
    cases hs : s.msb
    · rfl
    · rw [hs] at h0
      simp at h0
  have h1 : s <<< 1 = 0#15 := by
    unfold nxV at h
    rw [hm] at h
    simpa using h
  ext i hi
  by_cases h14 : i = 14
  · subst h14
    rw [BitVec.msb_eq_getLsbD_last] at hm
    simpa using hm
  · have h2 : (s <<< 1).getLsbD (i + 1) = false := by rw [h1]; simp
    rw [BitVec.getLsbD_shiftLeft] at h2
    simp [show i + 1 < 15 by omega] at h2
    rw [← BitVec.getLsbD_eq_getElem, h2]; simp

theorem foV_zeros_ne {s : BitVec 15} (h : s ≠ 0#15) (k : Nat) : foV s (List.replicate k false) ≠ 0#15 := by
  induction k with
  | zero => exact h
  | succ k ih =>
    rw [List.replicate_succ', foV_append]
    exact fun e => ih (nxV_zero e)

/-- Bits within 15 beside one another, not all of them dominant, have a sum that is not 0. -/
theorem suV_burst {b : List Bool} (hb : b.length ≤ 15) (ht : true ∈ b) : suV b ≠ 0#15 := by
  obtain ⟨c, hc⟩ : ∃ c, c = List.replicate (15 - b.length) false ++ b := ⟨_, rfl⟩
  have hl : c.length = 15 := by rw [hc]; simp; omega
  have hs : suV b = suV c := by rw [hc, suV_ahead]
  obtain ⟨B, hB⟩ : ∃ B : BitVec 15, B = BitVec.ofNat 15 (numL c) := ⟨_, rfl⟩
  have hlt := numL_lt c
  rw [hl] at hlt
  have hBn : B.toNat = numL c := by rw [hB, BitVec.toNat_ofNat, Nat.mod_eq_of_lt hlt]
  have hbi : biV B = c := by unfold biV; rw [hBn, ← hl, ofL_numL]
  have hx := foV_xor (List.replicate 15 false) (biV B) B 0#15 (by simp [biV])
  have hz : xoL (List.replicate 15 false) (biV B) = biV B := by
    apply List.ext_getElem?
    intro i
    unfold xoL
    rw [List.getElem?_zipWith]
    by_cases hi : i < 15
    · rw [List.getElem?_replicate, if_pos hi]
      cases hq : (biV B)[i]? <;> simp
    · rw [List.getElem?_replicate, if_neg hi, List.getElem?_eq_none (by simp [biV]; omega)]
  rw [hz, BitVec.xor_zero, foV_own, hbi] at hx
  have hne : B ≠ 0#15 := by
    intro e
    have h0 : numL c = 0 := by rw [← hBn, e]; rfl
    have hall : c = List.replicate 15 false := by
      have := ofL_numL c
      rw [h0, hl] at this
      rw [← this]; decide
    have hm : true ∈ c := by rw [hc]; exact List.mem_append.2 (.inr ht)
    rw [hall] at hm
    simp at hm
  have h2 := foV_zeros_ne hne 15
  intro e
  rw [hs] at e
  have e2 : foV 0#15 c = 0#15 := e
  rw [e2, BitVec.xor_zero] at hx
  exact h2 hx.symm

/-- How many are true, as a bit. -/
def paL (l : List Bool) : Bool := l.foldl (fun p b => p != b) false
def paV (s : BitVec 15) : Bool := paL (biV s)

theorem paL_foldl (l : List Bool) : ∀ p, l.foldl (fun p b => p != b) p = (p != paL l) := by
  induction l with
  | nil => intro p; cases p <;> rfl
  | cons b l ih =>
    intro p
    show l.foldl _ (p != b) = (p != l.foldl _ (false != b))
    rw [ih, ih]
    cases p <;> cases b <;> cases paL l <;> rfl

theorem paL_append (l m : List Bool) : paL (l ++ m) = (paL l != paL m) := by
  show (l ++ m).foldl _ _ = _
  rw [List.foldl_append, paL_foldl]; rfl

theorem paL_cons (b : Bool) (m : List Bool) : paL (b :: m) = (b != paL m) := by
  have := paL_append [b] m
  simpa [paL] using this

theorem paL_xor : ∀ (l m : List Bool), l.length = m.length → paL (xoL l m) = (paL l != paL m) := by
  intro l
  induction l with
  | nil => intro m h; cases m with
    | nil => rfl
    | cons y m => simp at h
  | cons x l ih =>
    intro m h
    cases m with
    | nil => simp at h
    | cons y m =>
      show paL ((x != y) :: xoL l m) = _
      rw [paL_cons, paL_cons, paL_cons, ih m (by simpa using h)]
      cases x <;> cases y <;> cases paL l <;> cases paL m <;> rfl

theorem biV_xor (a c : BitVec 15) : biV (a ^^^ c) = xoL (biV a) (biV c) := by
  apply List.ext_getElem?
  intro i
  unfold biV xoL
  rw [List.getElem?_zipWith]
  by_cases hi : i < 15
  · rw [ofL_get _ _ _ hi, ofL_get _ _ _ hi, ofL_get _ _ _ hi]
    simp
  · rw [List.getElem?_eq_none (by simp; omega), List.getElem?_eq_none (by simp; omega)]

theorem paV_xor (a c : BitVec 15) : paV (a ^^^ c) = (paV a != paV c) := by
  unfold paV
  rw [biV_xor, paL_xor _ _ (by simp [biV])]

theorem biV_shift (s : BitVec 15) : s.msb :: biV (s <<< 1) = biV s ++ [false] := by
  apply List.ext_getElem?
  intro i
  unfold biV
  cases i with
  | zero =>
    rw [List.getElem?_append_left (by simp), ofL_get _ _ _ (by omega), List.getElem?_cons_zero, BitVec.msb_eq_getLsbD_last, BitVec.testBit_toNat]
  | succ i =>
    rw [List.getElem?_cons_succ]
    by_cases hi : i + 1 < 15
    · rw [List.getElem?_append_left (by simp; omega), ofL_get _ _ _ (by omega), ofL_get _ _ _ (by omega), BitVec.testBit_toNat, BitVec.testBit_toNat, BitVec.getLsbD_shiftLeft]
      simp [show ¬ (15 - 1 - i < 1) by omega, show 15 - 1 - i < 15 by omega]
      congr 1
      omega
    · by_cases h14 : i = 14
      · subst h14
        rw [ofL_get _ _ _ (by omega), List.getElem?_append_right (by simp), BitVec.testBit_toNat]
        simp
      · rw [List.getElem?_eq_none (by simp; omega), List.getElem?_eq_none (by simp; omega)]

theorem paV_nx (s : BitVec 15) (b : Bool) : paV (nxV s b) = (paV s != b) := by
  have h := congrArg paL (biV_shift s)
  rw [paL_cons, paL_append] at h
  have h2 : paV (s <<< 1) = (paV s != s.msb) := by
    have : paL [false] = false := rfl
    rw [this] at h
    unfold paV
    revert h
    cases s.msb <;> cases paL (biV (s <<< 1)) <;> cases paL (biV s) <;> simp
  unfold nxV
  rw [paV_xor, h2]
  have e1 : paV 0x4599#15 = true := by decide
  have e0 : paV 0#15 = false := by decide
  cases s.msb <;> cases b <;> simp [e1, e0]

theorem paV_fo (l : List Bool) : ∀ s, paV (foV s l) = (paV s != paL l) := by
  induction l with
  | nil => intro s; simp [foV, paL]
  | cons b l ih =>
    intro s
    rw [foV_cons, ih, paV_nx, paL_cons]
    cases paV s <;> cases b <;> cases paL l <;> rfl

theorem paV_su (l : List Bool) : paV (suV l) = paL l := by
  unfold suV
  rw [paV_fo]
  have e0 : paV 0#15 = false := by decide
  rw [e0]; simp

/-- Lists that differ in an odd number of places have sums that differ. -/
theorem suV_odd {l m : List Bool} (h : l.length = m.length) (ho : paL (xoL l m) = true) : suV l ≠ suV m := by
  intro e
  rw [paL_xor _ _ h, ← paV_su, ← paV_su, e] at ho
  simp at ho

/-- Lists that differ, and only within 15 bits beside one another, have sums that differ. -/
theorem suV_near {l m : List Bool} (h : l.length = m.length) {p q : Nat} {b : List Bool} (hb : b.length ≤ 15) (ht : true ∈ b) (hx : xoL l m = List.replicate p false ++ (b ++ List.replicate q false)) : suV l ≠ suV m := by
  intro e
  have h1 := suV_xor l m h
  rw [e, BitVec.xor_self, hx, suV_ahead, suV_append] at h1
  exact foV_zeros_ne (suV_burst hb ht) q h1
end Go.Proofs.Ytffbkcjkmhjfnaa

namespace Go.Proofs.Ytffbkcjkmhjfnaa

/-- The list of the first n values of F. -/
def mkL (n : Nat) (F : Nat → Bool) : List Bool := (List.range n).map F

@[simp] theorem mkL_length (n : Nat) (F : Nat → Bool) : (mkL n F).length = n := by simp [mkL]
theorem mkL_get {n : Nat} (F : Nat → Bool) {j : Nat} (h : j < n) : (mkL n F)[j]? = some (F j) := by simp [mkL, h]
theorem mkL_congr {n : Nat} {F G : Nat → Bool} (h : ∀ j, j < n → F j = G j) : mkL n F = mkL n G := by
  apply List.ext_getElem?
  intro j
  by_cases hj : j < n
  · rw [mkL_get F hj, mkL_get G hj, h j hj]
  · rw [List.getElem?_eq_none (by simp; omega), List.getElem?_eq_none (by simp; omega)]
theorem mkL_set {n : Nat} (F : Nat → Bool) (i : Nat) (v : Bool) : (mkL n F).set i v = mkL n (fun j => if j = i then v else F j) := by
  apply List.ext_getElem?
  intro j
  rw [List.getElem?_set]
  by_cases hj : j < n
  · by_cases hi : i = j
    · subst hi; rw [if_pos rfl, mkL_get _ hj, if_pos (by simpa using hj), if_pos rfl]
    · rw [if_neg hi, mkL_get _ hj, mkL_get _ hj, if_neg (fun e => hi e.symm)]
  · by_cases hi : i = j
    · subst hi
      rw [if_pos rfl, if_neg (by simpa using hj), List.getElem?_eq_none (by simp; omega)]
    · rw [if_neg hi, List.getElem?_eq_none (by simp; omega), List.getElem?_eq_none (by simp; omega)]
theorem mkL_own (l : List Bool) : mkL l.length (fun j => l[j]?.getD false) = l := by
  apply List.ext_getElem?
  intro j
  by_cases hj : j < l.length
  · rw [mkL_get _ hj]; simp [hj]
  · rw [List.getElem?_eq_none (by simp; omega), List.getElem?_eq_none (by omega)]

/-- Which places are turned about by the first i bits of a burst from place k on. -/
def tuB (b : List Bool) (k i j : Nat) : Bool := decide (k ≤ j) && decide (j < k + i) && decide (j < k + 15) && (b[j - k]?.getD false)

theorem tuB_zero (b : List Bool) (k j : Nat) : tuB b k 0 j = false := by
  unfold tuB
  by_cases h : k ≤ j
  · rw [decide_eq_false (show ¬ j < k + 0 by omega)]; simp
  · rw [decide_eq_false h]; simp

theorem tuB_other {b : List Bool} {k i j : Nat} (h : j ≠ k + i) : tuB b k (i + 1) j = tuB b k i j := by
  unfold tuB
  rw [show decide (j < k + (i + 1)) = decide (j < k + i) from by rw [Bool.eq_iff_iff]; simp; omega]

theorem tuB_new (b : List Bool) (k i : Nat) : tuB b k i (k + i) = false := by
  unfold tuB
  rw [decide_eq_false (show ¬ k + i < k + i by omega)]; simp

theorem tuB_at {b : List Bool} {k i : Nat} {x : Bool} (hx : b[i]? = some x) : tuB b k (i + 1) (k + i) = (decide (i < 15) && x) := by
  unfold tuB
  rw [decide_eq_true (show k ≤ k + i by omega), decide_eq_true (show k + i < k + (i + 1) by omega), show k + i - k = i from by omega, hx,
    show decide (k + i < k + 15) = decide (i < 15) from by rw [Bool.eq_iff_iff]; simp]
  simp

theorem tuB_skip {b : List Bool} {k i n : Nat} {x : Bool} (hx : b[i]? = some x) (h : ¬ (i < 15 ∧ x = true ∧ k + i < n)) : ∀ j, j < n → tuB b k (i + 1) j = tuB b k i j := by
  intro j hj
  by_cases e : j = k + i
  · subst e
    rw [tuB_new, tuB_at hx]
    by_cases h15 : i < 15
    · cases x
      · simp
      · exact absurd ⟨h15, rfl, hj⟩ h
    · simp [h15]
  · exact tuB_other e

theorem xoL_get {l m : List Bool} {j : Nat} {x y : Bool} (hx : l[j]? = some x) (hy : m[j]? = some y) : (xoL l m)[j]? = some (x != y) := by
  unfold xoL; rw [List.getElem?_zipWith, hx, hy]

theorem xoL_len {l m : List Bool} (h : l.length = m.length) : (xoL l m).length = l.length := by
  unfold xoL; rw [List.length_zipWith]; omega

/-- A list, and what becomes of it where E says so. -/
theorem xoL_mk (l : List Bool) (E : Nat → Bool) : xoL l (mkL l.length (fun j => (l[j]?.getD false) != E j)) = mkL l.length E := by
  apply List.ext_getElem?
  intro j
  by_cases hj : j < l.length
  · rw [xoL_get (x := l[j]?.getD false) (by simp [hj]) (mkL_get _ hj), mkL_get _ hj]
    cases l[j]?.getD false <;> cases E j <;> rfl
  · rw [List.getElem?_eq_none (by rw [xoL_len (by simp)]; omega), List.getElem?_eq_none (by simp; omega)]

theorem suV_turned {l : List Bool} {b : List Bool} {k i : Nat} (hk : k ≤ l.length) {j : Nat} (hj : j < l.length) (ht : tuB b k i j = true) : suV (mkL l.length (fun j => (l[j]?.getD false) != tuB b k i j)) ≠ suV l := by
  intro e
  have hx := xoL_mk l (tuB b k i)
  obtain ⟨d, hd⟩ : ∃ d, d = mkL l.length (tuB b k i) := ⟨_, rfl⟩
  rw [← hd] at hx
  have hdl : d.length = l.length := by rw [hd]; simp
  have hget : ∀ j, j < l.length → d[j]? = some (tuB b k i j) := fun j hj => by rw [hd, mkL_get _ hj]
  have hmem : true ∈ d := List.mem_of_getElem? (by rw [hget j hj, ht])
  have e1 : d.take k = List.replicate k false := by
    rw [List.eq_replicate_iff]
    refine ⟨by rw [List.length_take]; omega, fun v hv => ?_⟩
    obtain ⟨t, hte⟩ := List.mem_iff_getElem?.1 hv
    have htl := (List.getElem?_eq_some_iff.1 hte).1
    rw [List.length_take] at htl
    rw [List.getElem?_take, if_pos (by omega), hget t (by omega)] at hte
    simp only [Option.some.injEq] at hte
    rw [← hte]
    unfold tuB
    rw [decide_eq_false (show ¬ k ≤ t by omega)]; simp
  obtain ⟨q, hq⟩ : ∃ q, q = ((d.drop k).drop 15).length := ⟨_, rfl⟩
  have e2 : (d.drop k).drop 15 = List.replicate q false := by
    rw [List.eq_replicate_iff]
    refine ⟨hq.symm, fun v hv => ?_⟩
    obtain ⟨t, hte⟩ := List.mem_iff_getElem?.1 hv
    have htl := (List.getElem?_eq_some_iff.1 hte).1
    rw [List.length_drop, List.length_drop] at htl
    rw [List.getElem?_drop, List.getElem?_drop, hget _ (by omega)] at hte
    simp only [Option.some.injEq] at hte
    rw [← hte]
    unfold tuB
    rw [decide_eq_false (show ¬ k + (15 + t) < k + 15 by omega)]; simp
  have e3 : d = List.replicate k false ++ ((d.drop k).take 15 ++ List.replicate q false) := by
    rw [← e2, List.take_append_drop, ← e1, List.take_append_drop]
  have hm2 : true ∈ (d.drop k).take 15 := by
    rw [e3] at hmem
    simp only [List.mem_append, List.mem_replicate] at hmem
    rcases hmem with h | h | h
    · exact absurd h.2 (by simp)
    · exact h
    · exact absurd h.2 (by simp)
  exact suV_near (l := l) (m := mkL l.length (fun j => (l[j]?.getD false) != tuB b k i j)) (by simp) (p := k) (q := q) (b := (d.drop k).take 15) (by rw [List.length_take]; omega) hm2 (hx.trans e3) e.symm

theorem suV_calm {l : List Bool} {E : Nat → Bool} (h : ∀ j, j < l.length → E j = false) : mkL l.length (fun j => (l[j]?.getD false) != E j) = l := by
  rw [mkL_congr (G := fun j => l[j]?.getD false) (fun j hj => by rw [h j hj]; simp), mkL_own]

/-- How many are true. -/
def trL (l : List Bool) : Nat := (l.filter id).length

theorem trL_snoc {l : List Bool} {k : Nat} {x : Bool} (h : l[k]? = some x) : trL (l.take (k + 1)) = trL (l.take k) + x.toNat := by
  unfold trL; rw [take_snoc h, List.filter_append]; cases x <;> simp

theorem trL_le (l : List Bool) : trL l ≤ l.length := List.length_filter_le _ _

theorem paL_tr (l : List Bool) : paL l = decide (trL l % 2 = 1) := by
  induction l with
  | nil => rfl
  | cons b l ih =>
    rw [paL_cons, ih]
    unfold trL
    cases b
    · simp
    · rw [show List.filter id (true :: l) = true :: l.filter id from rfl, List.length_cons, Bool.eq_iff_iff]
      simp
      omega

theorem suV_odd' {l m : List Bool} (h : l.length = m.length) (ho : ¬ trL (xoL l m) % 2 = 0) : suV m ≠ suV l := by
  refine fun e => suV_odd h ?_ e.symm
  rw [paL_tr, decide_eq_true_eq]
  omega
end Go.Proofs.Ytffbkcjkmhjfnaa

namespace Go.Proofs.Ytffbkcjkmhjfnaa
open Go.RowKit
set_option linter.unusedVariables false

theorem and14 (x : Nat) : x &&& 16384 = if x.testBit 14 then 16384 else 0 := by
  apply Nat.eq_of_testBit_eq
  intro i
  rw [Nat.testBit_and, show (16384 : Nat) = 2 ^ 14 from rfl, Nat.testBit_two_pow]
  by_cases h : 14 = i
  · subst h
    cases x.testBit 14
    · rfl
    · decide
  · rw [decide_eq_false h, Bool.and_false]
    cases x.testBit 14
    · simp
    · rw [if_pos rfl, Nat.testBit_two_pow, decide_eq_false h]

theorem nxV_toNat (x : Nat) (b : Bool) : (nxV (BitVec.ofNat 15 x) b).toNat = (x * 2 % 32768) ^^^ (if x.testBit 14 != b then 17817 else 0) := by
  have hm : (BitVec.ofNat 15 x).msb = x.testBit 14 := by
    rw [BitVec.msb_eq_getLsbD_last, BitVec.getLsbD_ofNat]; simp
  unfold nxV
  rw [hm, BitVec.toNat_xor, BitVec.toNat_shiftLeft, BitVec.toNat_ofNat, Nat.shiftLeft_eq]
  congr 1
  · show (x % 32768 * 2 ^ 1) % 32768 = _
    omega
  · cases x.testBit 14 != b <;> rfl

end Go.Proofs.Ytffbkcjkmhjfnaa

namespace Go.Proofs.Ytffbkcjkmhjfnaa
open Go.RowKit Go.Shelf
set_option linter.unusedVariables false

attribute [local go_sem] Oper.semAt_some

theorem one_new {w : World} (E : TypeId) (v : Value) : (w.alloc (.cells #[v] E)).cell? ⟨w.heap.size, 0, none⟩ = some v ∧ (w.alloc (.cells #[v] E)).frozen? ⟨w.heap.size, 0, none⟩ = false := by
  have h := heap_alloc_new w (.cells #[v] E)
  exact ⟨by rw [cell_of_row _ _ 0 _ _ _ h]; rfl, frozen_of_row _ _ 0 _ _ h⟩

theorem one_new2 {w : World} (E : TypeId) (v : Value) (o : Obj) : ((w.alloc (.cells #[v] E)).alloc o).cell? ⟨w.heap.size, 0, none⟩ = some v ∧ ((w.alloc (.cells #[v] E)).alloc o).frozen? ⟨w.heap.size, 0, none⟩ = false := by
  have h : ((w.alloc (.cells #[v] E)).alloc o).heap[w.heap.size]? = some (.cells #[v] E) := by
    rw [Below.heap_alloc _ o w.heap.size (by simp)]; exact heap_alloc_new w _
  exact ⟨by rw [cell_of_row _ _ 0 _ _ _ h]; rfl, frozen_of_row _ _ 0 _ _ h⟩

set_option maxRecDepth 100000 in
set_option maxHeartbeats 2000000 in
theorem nxV_nat (s : BitVec 15) (x : Bool) : nxV (BitVec.ofNat 15 s.toNat) x = nxV s x := by rw [BitVec.ofNat_toNat, BitVec.setWidth_eq]

end Go.Proofs.Ytffbkcjkmhjfnaa

namespace Go.Proofs.Ytffbkcjkmhjfnaa
open Go.RowKit
set_option linter.unusedVariables false

theorem half14 (k : Nat) (hk : k ≤ 15) : 16384 / 2 ^ k = if k = 15 then 0 else 2 ^ (14 - k) := by
  by_cases h : k = 15
  · subst h; rfl
  · rw [if_neg h, show (16384 : Nat) = 2 ^ 14 from rfl, Nat.pow_div (by omega) (by decide)]

end Go.Proofs.Ytffbkcjkmhjfnaa

namespace Go.Proofs.Ytffbkcjkmhjfnaa
open Go.RowKit
set_option linter.unusedVariables false

/-- What stands at place j when i steps of the division are done. -/
def refF (l : List Bool) (i j : Nat) : Bool := (suV (l.take i)).getMsbD (j - i) != (l[j]?.getD false)

/-- The polynomial, its highest bit first. -/
def pol (k : Nat) : Bool := k == 0 || (0x4599#15).getMsbD (k - 1)

theorem refF_zero (l : List Bool) (j : Nat) : refF l 0 j = l[j]?.getD false := by
  have h : suV (l.take 0) = 0#15 := by rw [List.take_zero]; rfl
  unfold refF
  rw [h, BitVec.getMsbD_zero]; simp

theorem refF_at {l : List Bool} {i : Nat} {x : Bool} (h : l[i]? = some x) : refF l i i = ((suV (l.take i)).msb != x) := by
  unfold refF
  rw [h, Nat.sub_self, Option.getD_some, BitVec.msb_eq_getMsbD_zero]

theorem refF_step {l : List Bool} {i j : Nat} {x : Bool} (h : l[i]? = some x) (hj : i + 1 ≤ j) : refF l (i + 1) j = (refF l i j != (refF l i i && pol (j - i))) := by
  have h1 : ∀ s : BitVec 15, (s <<< 1).getMsbD (j - (i + 1)) = s.getMsbD (j - i) := fun s => by
    rw [BitVec.getMsbD_shiftLeft]; congr 1; omega
  have h2 : pol (j - i) = (0x4599#15).getMsbD (j - (i + 1)) := by
    unfold pol
    rw [show (j - i == 0) = false from by simp; omega, Bool.false_or, show j - i - 1 = j - (i + 1) from by omega]
  rw [refF_at h, h2]
  unfold refF
  rw [take_snoc h, suV_snoc]
  unfold nxV
  rw [BitVec.getMsbD_xor, h1]
  cases (suV (l.take i)).msb != x
  · simp
  · simp only [if_true, Bool.true_and]
    cases (suV (l.take i)).getMsbD (j - i) <;> cases (0x4599#15).getMsbD (j - (i + 1)) <;> cases l[j]?.getD false <;> rfl

theorem refF_end {l : List Bool} {j : Nat} (h : l.length ≤ j) : refF l l.length j = (suV l).getMsbD (j - l.length) := by
  unfold refF
  rw [List.take_length, List.getElem?_eq_none h]; simp

theorem biV_get (s : BitVec 15) {t : Nat} (h : t < 15) : (biV s)[t]? = some (s.getMsbD t) := by
  unfold biV
  rw [ofL_get _ _ _ h, BitVec.testBit_toNat]
  unfold BitVec.getMsbD
  simp [h]

theorem numL_biV (s : BitVec 15) : numL (biV s) = s.toNat := by
  unfold biV
  rw [numL_ofL, Nat.mod_eq_of_lt s.isLt]

/-- The polynomial as the cells of an array. -/
def polA : Array Value := #[.bool true, .bool true, .bool false, .bool false, .bool false, .bool true, .bool false, .bool true, .bool true, .bool false, .bool false, .bool true, .bool true, .bool false, .bool false, .bool true]

theorem polA_get : ∀ k, k < 16 → polA[k]? = some (.bool (pol k)) := by
  intro k hk
  match k, hk with
  | 0, _ => rfl
  | 1, _ => rfl
  | 2, _ => rfl
  | 3, _ => rfl
  | 4, _ => rfl
  | 5, _ => rfl
  | 6, _ => rfl
  | 7, _ => rfl
  | 8, _ => rfl
  | 9, _ => rfl
  | 10, _ => rfl
  | 11, _ => rfl
  | 12, _ => rfl
  | 13, _ => rfl
  | 14, _ => rfl
  | 15, _ => rfl
  | k + 16, h => exact absurd h (by omega)

section
variable {w wr : World} {g c N : Nat} {F F' : Nat → Bool} {lo lo' : Nat}
end

theorem pol_far {t : Nat} (h : 16 ≤ t) : pol t = false := by
  unfold pol BitVec.getMsbD
  rw [show (t == 0) = false from by simp; omega, decide_eq_false (by omega)]; rfl

theorem half_lt {s : BitVec 15} {t : Nat} (h : t < 15) : numL ((biV s).take t) < 16384 := by
  have h1 := numL_lt ((biV s).take t)
  rw [List.length_take] at h1
  exact Nat.lt_of_lt_of_le h1 (Nat.pow_le_pow_right (n := 2) (j := 14) (by decide) (by omega))

theorem biV_length (s : BitVec 15) : (biV s).length = 15 := by simp [biV]

end Go.Proofs.Ytffbkcjkmhjfnaa

namespace Go.Proofs.Ytffbkcjkmhjfnaa
open Go.RowKit Go.Sort
set_option linter.unusedVariables false

/-- How many bytes a frame has. -/
def lonF (rem : Bool) (dlc : Nat) : Nat := if rem then 0 else min dlc 8

/-- Whether a frame with n bytes is right. -/
def riF (id : Nat) (ext rem : Bool) (dlc n : Nat) : Bool := decide (id ≤ if ext then 536870911 else 2047) && decide (dlc ≤ 15) && decide (n = lonF rem dlc)

/-- A frame that was laid in a new box: its cells, in every world that has only grown and drawn since. -/
theorem boxed (w : World) (E : TypeId) (v0 v1 v2 v3 v4 : Value) : ∃ w0, Hid (w.alloc (.cells #[v0, v1, v2, v3, v4] E) = w0) ∧ w0.heap[w.heap.size]? = some (.cells #[v0, v1, v2, v3, v4] E (0, 0)) ∧
    (∀ d os, (grow (redrawn w0 d) os).cell? ⟨w.heap.size, 0, none⟩ = some v0) ∧ (∀ d os, (grow (redrawn w0 d) os).cell? ⟨w.heap.size, 1, none⟩ = some v1) ∧ (∀ d os, (grow (redrawn w0 d) os).cell? ⟨w.heap.size, 2, none⟩ = some v2) ∧
    (∀ d os, (grow (redrawn w0 d) os).cell? ⟨w.heap.size, 3, none⟩ = some v3) ∧ (∀ d os, (grow (redrawn w0 d) os).cell? ⟨w.heap.size, 4, none⟩ = some v4) ∧ Below w.heap.size w w0 := by
  have h := heap_alloc_new w (.cells #[v0, v1, v2, v3, v4] E)
  obtain ⟨k0, k1, k2, k3, k4⟩ := bx5 h
  exact ⟨_, rfl, h, fun d os => cell_regrown k0 d os, fun d os => cell_regrown k1 d os, fun d os => cell_regrown k2 d os, fun d os => cell_regrown k3 d os, fun d os => cell_regrown k4 d os, bnew0 _ _⟩

theorem frLong_any (w : World) (id : Nat) (ext rem : Bool) (dlc : Nat) (a : Option Addr) (n c : Nat) (hd : dlc < 256) :
    Calls Try.prog 32 #[.agg #[.int .u32 (id : Int), .bool ext, .bool rem, .int .u8 (dlc : Int), .slice a n c]] w fun e w' => e = .returned (.int .i64 (lonF rem dlc : Int)) ∧ Below w.heap.size w w' := by
  obtain ⟨p, hp⟩ : ∃ p, p = min dlc 8 := ⟨_, rfl⟩
  have hp8 : p ≤ 8 := by omega
  have hmin : ∀ (ts : Array TypeId) (t : TypeId) (w' : World), (Builtin.min_ ts t #[.int .u8 (dlc : Int), .int .u8 8]).run Try.prog w' = .ok (.int .u8 (p : Int)) w' := fun ts t w' => by
    rw [run_min_int2]; congr 2; split <;> omega
  cases rem
  · have hl : lonF false dlc = p := by rw [hp]; rfl
    rw [hl]
    clear hl hp
    go_enter Try.func32, Try.ntmps32
    go_wp2
    go_ret
    exact ⟨rfl, bnew0 _ _⟩
  · go_enter Try.func32, Try.ntmps32
    go_wp2
    go_ret
    exact ⟨rfl, bnew0 _ _⟩

theorem refLong_any (w : World) (id : Nat) (ext rem : Bool) (dlc : Nat) (a : Option Addr) (n c : Nat) (hd : dlc < 256) :
    Calls Try.prog 43 #[.agg #[.int .u32 (id : Int), .bool ext, .bool rem, .int .u8 (dlc : Int), .slice a n c]] w fun e w' => e = .returned (.int .i64 (lonF rem dlc : Int)) ∧ Below w.heap.size w w' := by
  cases rem
  · by_cases h8 : dlc > 8
    · have hl : lonF false dlc = 8 := by unfold lonF; simp; omega
      rw [hl]
      clear hl
      go_enter Try.func43, Try.ntmps43
      go_wp2
      go_ret
      exact ⟨rfl, bnew0 _ _⟩
    · have hl : lonF false dlc = dlc := by unfold lonF; simp; omega
      rw [hl]
      clear hl
      go_enter Try.func43, Try.ntmps43
      go_wp2
      go_ret
      exact ⟨rfl, bnew0 _ _⟩
  · go_enter Try.func43, Try.ntmps43
    go_wp2
    go_ret
    exact ⟨rfl, bnew0 _ _⟩
end Go.Proofs.Ytffbkcjkmhjfnaa
