/-
  Contracts of jackstaylow.Alike and bits.Number (layer 1).
  Plain mathematics of layer 2: runs, stuffing and unstuffing as functions on lists. Nothing of the program is spoken of here.
  Contracts of the functions of layer 2: each returns what a plain function on lists says.
-/
import Derived.Test.YtgpmhmdofefdcaaGreatB1f
namespace Go.Proofs.YtgpmhmdofefdcaaGreat
open Go.RowKit
set_option linter.unusedVariables false

theorem alike_any (w : World) (a : Option Addr) (n c : Nat) (l : List UInt8) (a2 : Option Addr) (n2 c2 : Nat) (l2 : List UInt8) (h : RL bv w a n c l) (h2 : RL bv w a2 n2 c2 l2) :
    Calls Tryz.prog 38 #[.slice a n c, .slice a2 n2 c2] w fun e w' => e = .returned (.bool (decide (l = l2))) ∧ w = w' := by
  have e1 := run_bstr (S := 9) tY (by kernel_rfl) (by kernel_rfl) h
  have e2 := run_bstr (S := 9) tY (by kernel_rfl) (by kernel_rfl) h2
  go_enter Tryz.func38, Tryz.ntmps38
  go_wp2
  go_ret
  exact ⟨ret_bool (by rw [Bool.eq_iff_iff]; simp), rfl⟩

theorem number_any (w : World) (a : Option Addr) (n c : Nat) (l : List Bool) (h : RL .bool w a n c l) (hn : n ≤ 1000000) :
    Calls Tryz.prog 107 #[.slice a n c] w fun e w' => e = .returned (.int .u32 ((numL l % 4294967296 : Nat) : Int)) ∧ w = w' := by
  go_enter Tryz.func107, Tryz.ntmps107
  go_wp2
  go_loop [3, 8] (fun m i => ∃ k m' : Nat, k ≤ n ∧ i = .int .i64 k ∧ m = .int .u32 (m' : Int) ∧ m' < 4294967296 ∧ m' = numL (l.take k) % 4294967296) (fun _ i => n - (intOf i).toNat)
  case atStart => exact ⟨0, 0, Nat.zero_le _, rfl, rfl, by omega, rfl⟩
  case round =>
    obtain ⟨k, m', hk, rfl, rfl, hm, hall⟩ := hrel
    have HA := hid hall; clear hall
    by_cases hlt : k < n
    · obtain ⟨b, off, x, rfl, hx, hck⟩ := h.at hlt
      have HX := hid hx; clear hx
      cases x
      · go_wp2
        go_round
        case rel => exact ⟨k + 1, m' * 2 % 4294967296, by omega, by go_num, by go_num, by omega, by have := num_step HX.out HA.out; simpa using this⟩
        case measure => simp [intOf]; omega
      · go_wp2
        go_round
        case rel =>
          have hs := num_step HX.out HA.out
          have hb := (u32_bits (m' * 2 % 4294967296) 1 (by omega) (by omega)).2
          refine ⟨k + 1, (m' * 2 % 4294967296) ||| 1, by omega, by go_num, ?_, ?_, hs⟩
          · rw [← hb]; congr 2
          · rw [show (1 : Nat) = true.toNat from rfl, hs]; omega
        case measure => simp [intOf]; omega
    · have HE : Hid (m' = numL l % 4294967296) := by
        have e := HA.out; rwa [List.take_of_length_le (by rw [h.len]; omega)] at e
      go_wp2
      go_ret
      exact ⟨ret_int (congrArg (fun q : Nat => (q : Int)) HE.out), rfl⟩

end Go.Proofs.YtgpmhmdofefdcaaGreat

namespace Go.Proofs.YtgpmhmdofefdcaaGreat

/-- A run that may be: how many of the last bits are alike, and of which kind. -/
def rightA (b : Bool) (m : Nat) : Prop := m ≤ 5 ∧ (m = 0 → b = false)

/-- The run behind one more bit of a right run, and the bit's kind: 0 plain, 1 stuffed, 2 wrong. -/
def nxt (b : Bool) (m : Nat) (x : Bool) : (Bool × Nat) × Nat :=
  if m = 5 then (if x = b then ((b, 5), 2) else ((x, 1), 1)) else if x = b then ((x, m + 1), 0) else ((x, 1), 0)

/-- What is put behind a run. -/
def putF (b : Bool) (m : Nat) : List Bool → List Bool
  | [] => []
  | x :: l => if (nxt b m x).1.2 = 5 then x :: (!x) :: putF (!x) 1 l else x :: putF (nxt b m x).1.1 (nxt b m x).1.2 l

/-- What is taken, from bit i on, behind what was taken. -/
def tkF (b : Bool) (m : Nat) (i : Nat) (out : List Bool) : List Bool → List Bool × Int
  | [] => (out, -1)
  | x :: l => if (nxt b m x).2 = 2 then (out, (i : Int)) else if (nxt b m x).2 = 1 then tkF (nxt b m x).1.1 (nxt b m x).1.2 (i + 1) out l else tkF (nxt b m x).1.1 (nxt b m x).1.2 (i + 1) (out ++ [x]) l

def putL (l : List Bool) : List Bool := putF false 0 l
def tkL (l : List Bool) : List Bool × Int := tkF false 0 0 [] l

theorem nxt_right {b : Bool} {m : Nat} {x : Bool} (h : rightA b m) : rightA (nxt b m x).1.1 (nxt b m x).1.2 ∧ 1 ≤ (nxt b m x).1.2 := by
  unfold rightA nxt at *
  split
  · split <;> (simp)
  · split
    · simp; omega
    · simp

theorem nxt_fst {b : Bool} {m : Nat} {x : Bool} (h : (nxt b m x).2 ≠ 2) : (nxt b m x).1.1 = x := by
  unfold nxt at *
  split
  · split
    · rename_i h1 h2; simp [h1, h2] at h
    · rfl
  · split <;> rfl

theorem nxt_plain {b : Bool} {m : Nat} {x : Bool} (h : m ≠ 5) : (nxt b m x).2 = 0 := by
  unfold nxt; rw [if_neg h]; split <;> rfl

theorem nxt_five {b : Bool} {m : Nat} {x : Bool} (hm : m ≤ 4) (h : (nxt b m x).1.2 = 5) : nxt b m x = ((x, 5), 0) ∧ m = 4 := by
  unfold nxt at *
  rw [if_neg (by omega)] at *
  split at h
  · rename_i hx
    simp only at h
    rw [if_pos hx]
    exact ⟨by rw [h], by omega⟩
  · simp at h

theorem nxt_owed (x : Bool) : nxt x 5 (!x) = ((!x, 1), 1) := by cases x <;> rfl

theorem nxt_le {b : Bool} {m : Nat} {x : Bool} (hm : m ≤ 4) (h : (nxt b m x).1.2 ≠ 5) : (nxt b m x).1.2 ≤ 4 ∧ (nxt b m x).1.2 - 1 ≤ (m - 1) + 1 := by
  unfold nxt at *
  rw [if_neg (by omega)] at *
  split at h
  · simp only at h; rename_i hx; rw [if_pos hx]; simp only; omega
  · rename_i hx; rw [if_neg hx]; simp only; omega

/-- What was put is taken. -/
theorem tk_put (l : List Bool) : ∀ b m i out, m ≤ 4 → tkF b m i out (putF b m l) = (out ++ l, -1) := by
  induction l with
  | nil => intro b m i out _; simp [putF, tkF]
  | cons x l ih =>
    intro b m i out hm
    have hp := nxt_plain (b := b) (x := x) (show m ≠ 5 by omega)
    unfold putF
    split
    · rename_i h5
      obtain ⟨e, _⟩ := nxt_five hm h5
      rw [tkF, e]
      simp only [show ¬ ((0 : Nat) = 2) from by decide, show ¬ ((0 : Nat) = 1) from by decide, if_false]
      rw [tkF, nxt_owed]
      simp only [show ¬ ((1 : Nat) = 2) from by decide, if_false, if_true]
      rw [ih _ _ _ _ (by omega)]
      simp
    · rename_i h5
      rw [tkF, hp]
      simp only [show ¬ ((0 : Nat) = 2) from by decide, show ¬ ((0 : Nat) = 1) from by decide, if_false]
      rw [ih _ _ _ _ (nxt_le hm h5).1]
      simp

theorem tkL_putL (l : List Bool) : tkL (putL l) = (l, -1) := by
  unfold tkL putL; rw [tk_put _ _ _ _ _ (by omega)]; simp

theorem putF_len (l : List Bool) : ∀ b m, m ≤ 4 → l.length ≤ (putF b m l).length ∧ 4 * (putF b m l).length ≤ 5 * l.length + (m - 1) := by
  induction l with
  | nil => intro b m _; simp [putF]
  | cons x l ih =>
    intro b m hm
    unfold putF
    split
    · rename_i h5
      obtain ⟨_, e⟩ := nxt_five hm h5
      have := ih (!x) 1 (by omega)
      simp only [List.length_cons]; omega
    · rename_i h5
      have h1 := nxt_le hm h5
      have := ih (nxt b m x).1.1 (nxt b m x).1.2 h1.1
      simp only [List.length_cons]; omega

theorem putL_len (l : List Bool) : l.length ≤ (putL l).length ∧ (putL l).length - l.length ≤ l.length / 4 := by
  have := putF_len l false 0 (by omega)
  unfold putL; omega

/-- The run that bits end with, counted without end. -/
def cst (s : Bool × Nat) (x : Bool) : Bool × Nat := if x = s.1 then (x, s.2 + 1) else (x, 1)
def cnt (s : Bool × Nat) (l : List Bool) : Bool × Nat := l.foldl cst s

theorem nxt_cst {b : Bool} {m : Nat} {x : Bool} (h : (nxt b m x).2 ≠ 2) : (nxt b m x).1 = cst (b, m) x := by
  unfold nxt cst at *
  simp only at *
  split
  · rename_i h5
    rw [if_pos h5] at h
    split
    · rename_i hx; simp [hx] at h
    · rfl
  · split <;> rfl

/-- As long as nothing is wrong runs are at most five long. -/
theorem tk_runs (l : List Bool) : ∀ b m i out, m ≤ 5 → (tkF b m i out l).2 = -1 → ∀ k, (cnt (b, m) (l.take k)).2 ≤ 5 := by
  induction l with
  | nil => intro b m i out hm _ k; simp [cnt]; omega
  | cons x l ih =>
    intro b m i out hm h k
    cases k with
    | zero => simp [cnt]; omega
    | succ k =>
      unfold tkF at h
      split at h
      · simp only at h; omega
      · rename_i h2
        have hn := nxt_cst h2
        have hle : (nxt b m x).1.2 ≤ 5 := by
          unfold nxt
          split
          · split <;> simp
          · split
            · simp only; omega
            · simp only; omega
        simp only [List.take_succ_cons, cnt, List.foldl_cons]
        rw [← hn]
        split at h
        · exact ih _ _ _ _ hle h k
        · exact ih _ _ _ _ hle h k

theorem cnt_snoc (s : Bool × Nat) {l : List Bool} {k : Nat} {x : Bool} (h : l[k]? = some x) : cnt s (l.take (k + 1)) = cst (cnt s (l.take k)) x := by
  unfold cnt; rw [take_snoc h, List.foldl_append]; rfl

theorem putL_runs (l : List Bool) (k : Nat) : (cnt (false, 0) ((putL l).take k)).2 ≤ 5 := by
  refine tk_runs (putL l) false 0 0 [] (by omega) ?_ k
  have := tkL_putL l
  unfold tkL at this
  rw [this]

/-- The run that bits end with, up to five. -/
def rst (s : Bool × Nat) (x : Bool) : Bool × Nat := if x = s.1 then (x, min 5 (s.2 + 1)) else (x, 1)
def rowL (l : List Bool) : Bool × Nat := l.foldl rst (false, 0)

theorem rowL_snoc (l : List Bool) (x : Bool) : rowL (l ++ [x]) = rst (rowL l) x := by unfold rowL; rw [List.foldl_append]; rfl

theorem rowL_right (l : List Bool) : rightA (rowL l).1 (rowL l).2 := by
  have key : ∀ (l : List Bool) (s : Bool × Nat), rightA s.1 s.2 → rightA (l.foldl rst s).1 (l.foldl rst s).2 := by
    intro l
    induction l with
    | nil => intro s h; exact h
    | cons x l ih =>
      intro s h
      refine ih _ ?_
      unfold rightA rst at *
      split
      · simp only; omega
      · simp
  exact key l _ ⟨by simp, fun _ => rfl⟩

theorem rst_nxt {b : Bool} {m : Nat} (x : Bool) (h : m ≤ 4) : rst (b, m) x = (nxt b m x).1 := by
  unfold rst nxt
  rw [if_neg (show ¬ m = 5 by omega)]
  by_cases hx : x = b
  · simp [hx]; omega
  · simp [hx]

theorem rst_rep (n : Nat) (b : Bool) : ∀ s : Bool × Nat, (List.replicate n b).foldl rst s = if n = 0 then s else if b = s.1 then (b, min 5 (s.2 + n)) else (b, min 5 n) := by
  induction n with
  | zero => intro s; simp
  | succ n ih =>
    intro s
    rw [List.replicate_succ, List.foldl_cons, ih]
    unfold rst
    by_cases hb : b = s.1
    · rw [if_pos hb]
      by_cases hn : n = 0
      · subst hn; simp [← hb]
      · simp [hn, ← hb]; omega
    · rw [if_neg hb]
      by_cases hn : n = 0
      · subst hn; simp [hb]
      · simp [hn, hb]; omega

/-- What Row finds by looking back. -/
theorem rowL_back (p : List Bool) (b : Bool) (n : Nat) (hn : 1 ≤ n) (h5 : n ≤ 5) (h : n = 5 ∨ p = [] ∨ ∃ q, p = q ++ [!b]) : rowL (p ++ List.replicate n b) = (b, n) := by
  unfold rowL
  rw [List.foldl_append, rst_rep, if_neg (by omega)]
  rcases h with rfl | rfl | ⟨q, rfl⟩
  · split <;> simp
  · show (if b = false then (b, min 5 (0 + n)) else (b, min 5 n)) = (b, n)
    cases b <;> simp <;> omega
  · have e : (List.foldl rst (false, 0) (q ++ [!b])).1 = !b := by
      rw [List.foldl_append]
      simp only [List.foldl_cons, List.foldl_nil, rst]
      split <;> rfl
    rw [if_neg (by rw [e]; cases b <;> simp)]
    congr 1; omega

theorem tkF_len (l : List Bool) : ∀ b m i out, (tkF b m i out l).1.length ≤ out.length + l.length := by
  induction l with
  | nil => intro b m i out; simp [tkF]
  | cons x l ih =>
    intro b m i out
    unfold tkF
    split
    · simp only [List.length_cons]; omega
    · split
      · have := ih (nxt b m x).1.1 (nxt b m x).1.2 (i + 1) out; simp only [List.length_cons]; omega
      · have := ih (nxt b m x).1.1 (nxt b m x).1.2 (i + 1) (out ++ [x]); simp only [List.length_append, List.length_cons, List.length_nil] at *; omega

theorem tkL_len (l : List Bool) : (tkL l).1.length ≤ l.length := by have := tkF_len l false 0 0 []; unfold tkL; simpa using this


theorem tkF_out (l : List Bool) : ∀ b m i out, tkF b m i out l = (out ++ (tkF b m i [] l).1, (tkF b m i [] l).2) := by
  induction l with
  | nil => intro b m i out; simp [tkF]
  | cons x l ih =>
    intro b m i out
    unfold tkF
    split
    · simp
    · split
      · rw [ih]
      · rw [ih _ _ _ (out ++ [x]), ih _ _ _ ([] ++ [x])]; simp

/-- Where it stops, five bits alike stand ahead, and one more of them. -/
theorem tkF_stop (l : List Bool) : ∀ b m i out, (tkF b m i out l).2 = -1 ∨ ∃ d y, (tkF b m i out l).2 = ((i + d : Nat) : Int) ∧ d < l.length ∧ cnt (b, m) (l.take d) = (y, 5) ∧ l[d]? = some y := by
  induction l with
  | nil => intro b m i out; exact .inl rfl
  | cons x l ih =>
    intro b m i out
    unfold tkF
    split
    · rename_i h2
      refine .inr ⟨0, x, rfl, by simp, ?_, rfl⟩
      unfold nxt at h2
      split at h2
      · rename_i h5
        split at h2
        · rename_i hx; simp [cnt, h5, hx]
        · simp at h2
      · split at h2 <;> simp at h2
    · rename_i h2
      have hn := nxt_cst h2
      have key : ∀ out', (tkF (nxt b m x).1.1 (nxt b m x).1.2 (i + 1) out' l).2 = -1 ∨ ∃ d y, (tkF (nxt b m x).1.1 (nxt b m x).1.2 (i + 1) out' l).2 = ((i + d : Nat) : Int) ∧ d < (x :: l).length ∧ cnt (b, m) ((x :: l).take d) = (y, 5) ∧ (x :: l)[d]? = some y := by
        intro out'
        rcases ih (nxt b m x).1.1 (nxt b m x).1.2 (i + 1) out' with h | ⟨d, y, h1, h3, h4, h5⟩
        · exact .inl h
        · refine .inr ⟨d + 1, y, by rw [h1]; congr 1; omega, by simp; omega, ?_, by simpa using h5⟩
          rw [List.take_succ_cons]
          unfold cnt at h4 ⊢
          rw [List.foldl_cons, ← hn]
          exact h4
      split
      · exact key out
      · exact key _

theorem cnt_at (l : List Bool) : ∀ k, k ≤ l.length → (cnt (false, 0) (l.take k)).2 ≤ k ∧ ∀ j, j < (cnt (false, 0) (l.take k)).2 → l[k - 1 - j]? = some (cnt (false, 0) (l.take k)).1 := by
  intro k
  induction k with
  | zero => intro _; simp [cnt]
  | succ k ih =>
    intro hk
    obtain ⟨x, hx⟩ : ∃ x, l[k]? = some x := ⟨l[k], by simp⟩
    obtain ⟨h1, h2⟩ := ih (by omega)
    rw [cnt_snoc _ hx]
    unfold cst
    split
    · rename_i he
      refine ⟨by simp only; omega, fun j hj => ?_⟩
      simp only at hj ⊢
      by_cases h0 : j = 0
      · subst h0; simpa using hx
      · have := h2 (j - 1) (by omega)
        rw [he, ← this]; congr 1; omega
    · refine ⟨by simp only; omega, fun j hj => ?_⟩
      simp only at hj ⊢
      obtain rfl : j = 0 := by omega
      simpa using hx

/-- Read up to its end, or up to the first sixth bit alike. -/
theorem tkL_stop (l : List Bool) : (tkL l).2 = -1 ∨ ∃ j y, (tkL l).2 = ((j + 5 : Nat) : Int) ∧ j + 5 < l.length ∧ l[j + 5]? = some y ∧ l[j + 4]? = some y ∧ l[j]? = some y := by
  rcases tkF_stop l false 0 0 [] with h | ⟨d, y, h1, h2, h3, h4⟩
  · exact .inl h
  · obtain ⟨e1, e2⟩ := cnt_at l d (by omega)
    rw [h3] at e1 e2
    simp only at e1 e2
    obtain ⟨j, rfl⟩ : ∃ j, d = j + 5 := ⟨d - 5, by omega⟩
    refine .inr ⟨j, y, by unfold tkL; rw [h1, Nat.zero_add], h2, h4, ?_, ?_⟩
    · rw [← e2 0 (by omega)]; congr 1
    · rw [← e2 4 (by omega)]; congr 1

/-- Cut ahead of where it stops nothing is wrong, and it is the begin of what is taken. -/
theorem tkF_cut (l : List Bool) : ∀ b m i out k, k ≤ l.length → (∀ d : Nat, (tkF b m i out l).2 = ((i + d : Nat) : Int) → k ≤ d) → (tkF b m i out (l.take k)).2 = -1 ∧ ∃ t, (tkF b m i out l).1 = (tkF b m i out (l.take k)).1 ++ t := by
  induction l with
  | nil => intro b m i out k hk _; simp at hk; subst hk; exact ⟨rfl, [], by simp⟩
  | cons x l ih =>
    intro b m i out k hk hd
    cases k with
    | zero => refine ⟨rfl, ?_⟩; rw [tkF_out]; exact ⟨_, rfl⟩
    | succ k =>
      rw [List.take_succ_cons]
      unfold tkF at hd ⊢
      split
      · rename_i h2
        rw [if_pos h2] at hd
        have := hd 0 rfl
        omega
      · rename_i h2
        rw [if_neg h2] at hd
        split
        · rename_i h1
          rw [if_pos h1] at hd
          exact ih _ _ _ _ k (by simpa using hk) (fun d h => by have := hd (d + 1) (by rw [h]; congr 1; omega); omega)
        · rename_i h1
          rw [if_neg h1] at hd
          exact ih _ _ _ _ k (by simpa using hk) (fun d h => by have := hd (d + 1) (by rw [h]; congr 1; omega); omega)

/-- What was taken, and nothing wrong in it, put again: it is as it was, but for a stuff bit that is owed at the end. -/
theorem tk_again : ∀ (N : Nat) (l : List Bool), l.length ≤ N → ∀ b m i, m ≤ 4 → (tkF b m i [] l).2 = -1 → putF b m (tkF b m i [] l).1 = l ∨ ∃ y, putF b m (tkF b m i [] l).1 = l ++ [y] := by
  intro N
  induction N with
  | zero => intro l hl b m i _ _; obtain rfl : l = [] := List.eq_nil_of_length_eq_zero (by omega); exact .inl rfl
  | succ N ih =>
    intro l hl b m i hm h
    cases l with
    | nil => exact .inl rfl
    | cons x l =>
      simp only [List.length_cons] at hl
      have hp := nxt_plain (b := b) (x := x) (show m ≠ 5 by omega)
      rw [tkF, hp, if_neg (by decide), if_neg (by decide), tkF_out] at h ⊢
      simp only [List.nil_append, List.cons_append] at h ⊢
      rw [putF]
      by_cases h5 : (nxt b m x).1.2 = 5
      · rw [if_pos h5]
        obtain ⟨e, _⟩ := nxt_five hm h5
        rw [e] at h ⊢
        simp only at h ⊢
        cases l with
        | nil => exact .inr ⟨!x, rfl⟩
        | cons y l =>
          rw [tkF] at h ⊢
          by_cases hy : y = x
          · rw [show nxt x 5 y = ((x, 5), 2) from by unfold nxt; rw [if_pos rfl, if_pos hy], if_pos rfl] at h
            simp only at h
            omega
          · obtain rfl : y = !x := by cases x <;> cases y <;> simp_all
            rw [nxt_owed, if_neg (show ¬ ((1 : Nat) = 2) by decide), if_pos rfl] at h ⊢
            simp only [List.length_cons] at hl
            rcases ih l (by omega) (!x) 1 (i + 1 + 1) (by omega) h with e1 | ⟨z, e1⟩
            · left; rw [e1]
            · right; exact ⟨z, by rw [e1]; rfl⟩
      · rw [if_neg h5]
        rcases ih l (by omega) _ _ (i + 1) (nxt_le hm h5).1 h with e1 | ⟨z, e1⟩
        · left; rw [e1]
        · right; exact ⟨z, by rw [e1]⟩

theorem tkL_again {l : List Bool} (h : (tkL l).2 = -1) : putL (tkL l).1 = l ∨ ∃ y, putL (tkL l).1 = l ++ [y] := tk_again l.length l (Nat.le_refl _) false 0 0 (by omega) h

theorem tkL_cut {l : List Bool} {k : Nat} (hk : k ≤ l.length) (h : ∀ d : Nat, (tkL l).2 = (d : Int) → k ≤ d) : (tkL (l.take k)).2 = -1 ∧ (tkL (l.take k)).1 = (tkL l).1.take (tkL (l.take k)).1.length ∧ (tkL (l.take k)).1.length ≤ (tkL l).1.length := by
  obtain ⟨h1, t, h2⟩ := tkF_cut l false 0 0 [] k hk (fun d hd => h d (by unfold tkL; rw [hd, Nat.zero_add]))
  refine ⟨h1, ?_, ?_⟩
  · unfold tkL; rw [h2, List.take_left]
  · unfold tkL; rw [h2, List.length_append]; omega
end Go.Proofs.YtgpmhmdofefdcaaGreat

namespace Go.Proofs.YtgpmhmdofefdcaaGreat
open Go.RowKit
set_option linter.unusedVariables false

theorem owed_any (w : World) (b : Bool) (m : Nat) (hm : m < 256) :
    Calls Tryz.prog 50 #[.agg #[.bool b, .int .u8 (m : Int)]] w fun e w' => e = .returned (.tuple #[.bool (decide (m = 5) && !b), .bool (decide (m = 5))]) ∧ Below w.heap.size w w' := by
  by_cases h5 : m = 5
  · subst h5
    go_enter Tryz.func50, Tryz.ntmps50
    go_wp2
    go_ret2
    exact ⟨rfl, bnew0 _ _⟩
  · have hd : decide (m = 5) = false := by simp [h5]
    rw [hd]
    go_enter Tryz.func50, Tryz.ntmps50
    go_wp2
    go_ret2
    exact ⟨rfl, bnew0 _ _⟩

theorem right_any (w : World) (b : Bool) (m : Nat) (hm : m < 256) :
    Calls Tryz.prog 68 #[.agg #[.bool b, .int .u8 (m : Int)]] w fun e w' => e = .returned (.bool (decide (m ≤ 5) && (!b || !decide (m = 0)))) ∧ Below w.heap.size w w' := by
  go_enter Tryz.func68, Tryz.ntmps68
  cases b
  · by_cases h0 : m = 0
    · subst h0
      go_wp2
      go_ret
      exact ⟨rfl, bnew0 _ _⟩
    · go_wp2
      go_ret
      exact ⟨ret_bool (by simp; omega), bnew0 _ _⟩
  · by_cases h0 : m = 0
    · subst h0
      go_wp2
      go_ret
      exact ⟨rfl, bnew0 _ _⟩
    · go_wp2
      go_ret
      exact ⟨ret_bool (by simp [h0]; omega), bnew0 _ _⟩

theorem after_any (w : World) (b : Bool) (m : Nat) (x : Bool) (hm : m < 255) :
    Calls Tryz.prog 69 #[.agg #[.bool b, .int .u8 (m : Int)], .bool x] w fun e w' => e = .returned (.agg #[.bool x, .int .u8 (if x = b then (m : Int) + 1 else 1)]) ∧ Below w.heap.size w w' := by
  cases b <;> cases x
  all_goals
    go_enter Tryz.func69, Tryz.ntmps69
    go_wp2
  · refine bodyPost_ret (v := .agg #[.bool false, .int .u8 ((m : Int) + 1)]) (by simp [results, Tryz.results69, go_sem]) rfl ⟨rfl, bnew (bnew0 _ _) _⟩
  · refine bodyPost_ret (v := .agg #[.bool true, .int .u8 1]) (by simp [results, Tryz.results69, go_sem]) rfl ⟨rfl, bnew (bnew0 _ _) _⟩
  · refine bodyPost_ret (v := .agg #[.bool false, .int .u8 1]) (by simp [results, Tryz.results69, go_sem]) rfl ⟨rfl, bnew (bnew0 _ _) _⟩
  · refine bodyPost_ret (v := .agg #[.bool true, .int .u8 ((m : Int) + 1)]) (by simp [results, Tryz.results69, go_sem]) rfl ⟨rfl, bnew (bnew0 _ _) _⟩

theorem next_wrong (w : World) (b : Bool) (m : Nat) (x : Bool) (hm : m < 256) (hr : (decide (m ≤ 5) && (!b || !decide (m = 0))) = false) :
    Calls Tryz.prog 49 #[.agg #[.bool b, .int .u8 (m : Int)], .bool x] w fun e w' => e = .returned (.tuple #[.agg #[.bool false, .int .u8 0], .int .u8 2]) ∧ Below w.heap.size w w' := by
  go_enter Tryz.func49, Tryz.ntmps49
  go_wp2_with (go_at_call 68; refine (right_any _ b m hm).mono ?_; rw [hr]; rintro e w1 ⟨rfl, g1⟩; obtain ⟨h0, h1, gg1⟩ := two_bx g1; obtain ⟨c0, c1, f0, f1⟩ := bx h1; clear g1 h0 h1)
  exact bodyPost_ret (v := .tuple #[.agg #[.bool false, .int .u8 0], .int .u8 2]) (by simp [results, Tryz.results49, go_sem, c0, c1]) rfl ⟨rfl, (gg1.setCell (by simp) _).setCell (by simp) _⟩

theorem next_any (w : World) (b : Bool) (m : Nat) (x : Bool) (hm : rightA b m) :
    Calls Tryz.prog 49 #[.agg #[.bool b, .int .u8 (m : Int)], .bool x] w fun e w' => e = .returned (.tuple #[.agg #[.bool (nxt b m x).1.1, .int .u8 ((nxt b m x).1.2 : Int)], .int .u8 ((nxt b m x).2 : Int)]) ∧ Below w.heap.size w w' := by
  have hr : (decide (m ≤ 5) && (!b || !decide (m = 0))) = true := by
    obtain ⟨h1, h2⟩ := hm
    cases b
    · simp [h1]
    · simp [h1]; intro h0; simpa using h2 h0
  obtain ⟨hm5, _⟩ := hm
  by_cases h5 : m = 5
  · subst h5
    by_cases hx : x = b
    · subst hx
      rw [show nxt x 5 x = ((x, 5), 2) from by cases x <;> rfl]
      cases x
      all_goals
        go_enter Tryz.func49, Tryz.ntmps49
        go_wp2_with (first
          | (go_at_call 68; refine (right_any _ _ 5 (by omega)).mono ?_; rw [hr]; rintro e w1 ⟨rfl, g1⟩; obtain ⟨h0, h1, gg1⟩ := two_bx g1; obtain ⟨c0, c1, f0, f1⟩ := bx h0; clear g1)
          | (go_at_call 50; refine (owed_any w1 _ 5 (by omega)).mono ?_; rintro e w2 ⟨rfl, g2⟩; obtain ⟨c0', c1', f0', f1'⟩ := bx (bx_below h0 g2); obtain ⟨d0, d1, k0, k1⟩ := bx (bx_below h1 g2); have gg2 := bstep gg1 g2))
      · exact bodyPost_ret (v := .tuple #[.agg #[.bool false, .int .u8 5], .int .u8 2]) (by simp [results, Tryz.results49, go_sem, d0, d1]) rfl ⟨rfl, (gg2.setCell (by simp) _).setCell (by simp) _⟩
      · exact bodyPost_ret (v := .tuple #[.agg #[.bool true, .int .u8 5], .int .u8 2]) (by simp [results, Tryz.results49, go_sem, d0, d1]) rfl ⟨rfl, (gg2.setCell (by simp) _).setCell (by simp) _⟩
    · obtain rfl : x = !b := by cases b <;> cases x <;> simp_all
      rw [nxt_owed]
      cases b
      all_goals
        go_enter Tryz.func49, Tryz.ntmps49
        go_wp2_with (first
          | (go_at_call 68; refine (right_any _ _ 5 (by omega)).mono ?_; rw [hr]; rintro e w1 ⟨rfl, g1⟩; obtain ⟨h0, h1, gg1⟩ := two_bx g1; obtain ⟨c0, c1, f0, f1⟩ := bx h0; clear g1)
          | (go_at_call 50; refine (owed_any w1 _ 5 (by omega)).mono ?_; rintro e w2 ⟨rfl, g2⟩; have h2 := bx_below h0 g2; have h3 := bx_below h1 g2; obtain ⟨c0', c1', f0', f1'⟩ := bx h2; have gg2 := bstep gg1 g2)
          | (go_at_call 69; refine (after_any w2 _ 5 _ (by omega)).mono ?_; rintro e w3 ⟨rfl, g3⟩; obtain ⟨d0, d1, k0, k1⟩ := bx (bx_below h3 g3); have gg3 := bstep gg2 g3))
      · exact bodyPost_ret (v := .tuple #[.agg #[.bool true, .int .u8 1], .int .u8 1]) (by simp [results, Tryz.results49, go_sem, d0, d1]) rfl ⟨rfl, (gg3.setCell (by simp) _).setCell (by simp) _⟩
      · exact bodyPost_ret (v := .tuple #[.agg #[.bool false, .int .u8 1], .int .u8 1]) (by simp [results, Tryz.results49, go_sem, d0, d1]) rfl ⟨rfl, (gg3.setCell (by simp) _).setCell (by simp) _⟩
  · have hd : decide (m = 5) = false := by simp [h5]
    have e1 : Hid ((Value.agg #[.bool (nxt b m x).1.1, .int .u8 ((nxt b m x).1.2 : Int)], Value.int .u8 ((nxt b m x).2 : Int)) = (.agg #[.bool x, .int .u8 (if x = b then (m : Int) + 1 else 1)], .int .u8 0)) := by
      show _ = _
      unfold nxt
      rw [if_neg h5]
      by_cases hx : x = b
      · rw [if_pos hx, if_pos hx]; simp
      · rw [if_neg hx, if_neg hx]; simp
    obtain ⟨q, hq⟩ : ∃ q : Int, q = if x = b then (m : Int) + 1 else 1 := ⟨_, rfl⟩
    rw [← hq] at e1
    have HQ := hid hq; clear hq
    go_enter Tryz.func49, Tryz.ntmps49
    go_wp2_with (first
      | (go_at_call 68; refine (right_any _ _ m (by omega)).mono ?_; rw [hr]; rintro e w1 ⟨rfl, g1⟩; obtain ⟨h0, h1, gg1⟩ := two_bx g1; obtain ⟨c0, c1, f0, f1⟩ := bx h0; clear g1)
      | (go_at_call 50; refine (owed_any w1 _ m (by omega)).mono ?_; rw [hd]; rintro e w2 ⟨rfl, g2⟩; have h2 := bx_below h0 g2; have h3 := bx_below h1 g2; obtain ⟨c0', c1', f0', f1'⟩ := bx h2; have gg2 := bstep gg1 g2)
      | (go_at_call 69; refine (after_any w2 b m x (by omega)).mono ?_; rw [← HQ.out]; rintro e w3 ⟨rfl, g3⟩; obtain ⟨d0, d1, k0, k1⟩ := bx (bx_below h3 g3); have gg3 := bstep gg2 g3))
    refine bodyPost_ret (v := .tuple #[.agg #[.bool x, .int .u8 q], .int .u8 0]) (by simp [results, Tryz.results49, go_sem, d0, d1]) rfl ⟨?_, (gg3.setCell (by simp) _).setCell (by simp) _⟩
    have e2 := e1.out
    rw [Prod.mk.injEq] at e2
    rw [← e2.1, ← e2.2]
end Go.Proofs.YtgpmhmdofefdcaaGreat
