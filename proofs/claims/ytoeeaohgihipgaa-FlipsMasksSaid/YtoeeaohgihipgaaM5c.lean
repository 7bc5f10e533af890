/-
  Plain mathematics of layer 5: masks and windows.
-/
import Derived.Test.YtoeeaohgihipgaaM5b
namespace Go.Proofs.Ytoeeaohgihipgaa

/-- The nodes that sample inverted at a step, as bits. -/
def maskL (l : List Fl) (t : Int) : Nat := l.foldl (fun m x => if x.1 = t then m ||| 2 ^ x.2 else m) 0

theorem maskL_fold (t : Int) : ∀ (l : List Fl) (m : Nat), l.foldl (fun m x => if x.1 = t then m ||| 2 ^ x.2 else m) m = m ||| maskL l t
  | [], m => by simp [maskL]
  | x :: l, m => by
    have h1 := maskL_fold t l (if x.1 = t then m ||| 2 ^ x.2 else m)
    have h2 := maskL_fold t l (if x.1 = t then 0 ||| 2 ^ x.2 else 0)
    rw [List.foldl_cons, h1]
    show _ = m ||| (x :: l).foldl _ 0
    rw [List.foldl_cons, h2]
    by_cases h : x.1 = t
    · simp [h, Nat.or_assoc]
    · simp [h]

theorem maskL_append (l m : List Fl) (t : Int) : maskL (l ++ m) t = maskL l t ||| maskL m t := by
  have := maskL_fold t m (maskL l t)
  rw [← this]
  simp [maskL, List.foldl_append]

theorem maskL_one (x : Fl) (t : Int) : maskL [x] t = if x.1 = t then 2 ^ x.2 else 0 := by simp [maskL]

theorem maskL_bit (l : List Fl) (t : Int) (j : Nat) : (maskL l t).testBit j = decide ((t, j) ∈ l) := by
  induction l with
  | nil => simp [maskL]
  | cons x l ih =>
    rw [show x :: l = [x] ++ l from rfl, maskL_append, Nat.testBit_or, ih, maskL_one, Bool.eq_iff_iff]
    obtain ⟨s, u⟩ := x
    by_cases h : s = t
    · subst h
      simp [Nat.testBit_two_pow]
      constructor
      · rintro (h | h)
        · exact .inl h.symm
        · exact .inr h
      · rintro (h | h)
        · exact .inl h.symm
        · exact .inr h
    · have : ¬ t = s := fun e => h e.symm
      simp [h, this]

theorem maskL_none {l : List Fl} {t : Int} (h : ∀ x ∈ l, x.1 ≠ t) : maskL l t = 0 := by
  apply Nat.eq_of_testBit_eq
  intro j
  rw [maskL_bit, Nat.zero_testBit]
  simpa using fun hm => h _ hm rfl

theorem maskL_lt {l : List Fl} {t : Int} {j : Nat} (h : ∀ x ∈ l, x.1 = t → x.2 < j) : maskL l t < 2 ^ j := by
  apply Nat.lt_pow_two_of_testBit
  intro i hi
  rw [maskL_bit]
  simp only [decide_eq_false_iff_not]
  exact fun hm => absurd (h _ hm rfl) (by simpa using hi)

theorem maskL_u32 {l : List Fl} (hl : AllF l) (t : Int) : maskL l t < 4294967296 :=
  maskL_lt (j := 32) fun x hx _ => by have := (isF_iff x).1 (hl x hx); omega

theorem maskL_more {l : List Fl} {k : Nat} {x : Fl} (hx : l[k]? = some x) (t : Int) : maskL (l.take (k + 1)) t = maskL (l.take k) t ||| (if x.1 = t then 2 ^ x.2 else 0) := by
  rw [take_more hx, maskL_append, maskL_one]

theorem or_add {a j : Nat} (h : a < 2 ^ j) : a ||| 2 ^ j = a + 2 ^ j := by
  have := Nat.two_pow_add_eq_or_of_lt h 1
  rw [Nat.mul_one] at this
  rw [Nat.or_comm, ← this, Nat.add_comm]

/-- In a sorted list the next bit of a mask is above all that are there. -/
theorem maskL_add {l : List Fl} (hs : Sor l) {k : Nat} {x : Fl} (hx : l[k]? = some x) : maskL (l.take (k + 1)) x.1 = maskL (l.take k) x.1 + 2 ^ x.2 := by
  rw [maskL_more hx, if_pos rfl]
  refine or_add (maskL_lt fun y hy h => ?_)
  obtain ⟨i, hi⟩ := List.mem_iff_getElem?.1 hy
  rw [List.getElem?_take] at hi
  split at hi
  · have := sor_get hs (by assumption) hi hx
    rw [ltF_iff] at this
    omega
  · cases hi

/-- The greatest number of flips in a window of so many steps. -/
def IsMost (l : List Fl) (w : Int) (m : Nat) : Prop :=
  (∀ (i j : Nat) (x y : Fl), i ≤ j → l[i]? = some x → l[j]? = some y → y.1 - x.1 < w → j - i + 1 ≤ m) ∧
  (m = 0 ∨ ∃ (i j : Nat) (x y : Fl), i ≤ j ∧ l[i]? = some x ∧ l[j]? = some y ∧ y.1 - x.1 < w ∧ j - i + 1 = m)

theorem isMost_unique {l : List Fl} {w : Int} {m m' : Nat} (h : IsMost l w m) (h' : IsMost l w m') : m = m' := by
  have key : ∀ {m m' : Nat}, IsMost l w m → IsMost l w m' → m ≤ m' := by
    intro m m' h h'
    rcases h.2 with h0 | ⟨i, j, x, y, hij, hx, hy, hw, hm⟩
    · omega
    · have := h'.1 i j x y hij hx hy hw; omega
  have h1 := key h h'
  have h2 := key h' h
  omega

/-- Steps do not fall in a sorted list. -/
theorem sor_at {l : List Fl} (hs : Sor l) {i j : Nat} {x y : Fl} (hij : i ≤ j) (hx : l[i]? = some x) (hy : l[j]? = some y) : x.1 ≤ y.1 := by
  by_cases h : i = j
  · subst h
    rw [hx] at hy
    simp at hy
    subst hy
    exact Int.le_refl _
  · have := sor_get hs (by omega) hx hy
    rw [ltF_iff] at this
    omega

theorem isMost_zero {l : List Fl} (hs : Sor l) {w : Int} (hw : w ≤ 0) : IsMost l w 0 :=
  ⟨fun i j x y hij hx hy h => by have := sor_at hs hij hx hy; omega, .inl rfl⟩

end Go.Proofs.Ytoeeaohgihipgaa
