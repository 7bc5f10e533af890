/-
  Plain mathematics of layer 5: windows, found by two places that go on.
-/
import Derived.Test.YtoeeaohgihipgaaM5d
namespace Go.Proofs.Ytoeeaohgihipgaa

/-- What is known of windows that end ahead of k, where none that begins ahead of f holds what is at k or behind it. -/
structure MostAt (l : List Fl) (w : Int) (k f m : Nat) : Prop where
  p1 : ∀ (i j : Nat) (x y : Fl), i ≤ j → j < k → l[i]? = some x → l[j]? = some y → y.1 - x.1 < w → j - i + 1 ≤ m
  p2 : m = 0 ∨ ∃ (i j : Nat) (x y : Fl), i ≤ j ∧ j < k ∧ l[i]? = some x ∧ l[j]? = some y ∧ y.1 - x.1 < w ∧ j - i + 1 = m
  p3 : ∀ (i j : Nat) (x y : Fl), i < f → k ≤ j → l[i]? = some x → l[j]? = some y → w ≤ y.1 - x.1
  le : f ≤ k
  lm : m ≤ k

theorem MostAt.start (l : List Fl) (w : Int) : MostAt l w 0 0 0 :=
  ⟨fun i j x y _ h => by omega, .inl rfl, fun i j x y h => by omega, Nat.le_refl _, Nat.le_refl _⟩

/-- The first place goes on. -/
theorem MostAt.first {l : List Fl} {w : Int} {k f m : Nat} (h : MostAt l w k f m) (hs : Sor l) {x y : Fl} (hx : l[f]? = some x) (hy : l[k]? = some y) (hw : 0 < w) (hge : w ≤ y.1 - x.1) : MostAt l w k (f + 1) m := by
  refine ⟨h.p1, h.p2, fun i j x' y' hi hj hx' hy' => ?_, ?_, h.lm⟩
  · by_cases e : i = f
    · subst e
      rw [hx] at hx'
      simp at hx'
      subst hx'
      have := sor_at hs hj hy hy'
      omega
    · exact h.p3 i j x' y' (by omega) hj hx' hy'
  · by_cases e : f = k
    · subst e
      rw [hx] at hy
      simp at hy
      subst hy
      omega
    · have := h.le; omega

/-- The last place goes on. -/
theorem MostAt.last {l : List Fl} {w : Int} {k f m : Nat} (h : MostAt l w k f m) {x y : Fl} (hx : l[f]? = some x) (hy : l[k]? = some y) (hlt : y.1 - x.1 < w) : MostAt l w (k + 1) f (max m (k - f + 1)) := by
  have hle := h.le
  have hlm := h.lm
  refine ⟨fun i j x' y' hij hj hx' hy' hw => ?_, ?_, fun i j x' y' hi hj hx' hy' => h.p3 i j x' y' hi (by omega) hx' hy', by omega, by omega⟩
  · by_cases e : j = k
    · subst e
      by_cases hi : i < f
      · have := h.p3 i j x' y' hi (Nat.le_refl _) hx' hy'
        omega
      · omega
    · have := h.p1 i j x' y' hij (by omega) hx' hy' hw
      omega
  · by_cases hm : m ≤ k - f + 1
    · exact .inr ⟨f, k, x, y, hle, by omega, hx, hy, hlt, by omega⟩
    · rcases h.p2 with h0 | ⟨i, j, x', y', h1, h2, h3, h4, h5, h6⟩
      · omega
      · exact .inr ⟨i, j, x', y', h1, by omega, h3, h4, h5, by omega⟩

theorem MostAt.all {l : List Fl} {w : Int} {k f m : Nat} (h : MostAt l w k f m) (hk : l.length ≤ k) : IsMost l w m := by
  refine ⟨fun i j x y hij hx hy hw => ?_, ?_⟩
  · have := (List.getElem?_eq_some_iff.1 hy).1
    exact h.p1 i j x y hij (by omega) hx hy hw
  · rcases h.p2 with h0 | ⟨i, j, x', y', h1, h2, h3, h4, h5, h6⟩
    · exact .inl h0
    · exact .inr ⟨i, j, x', y', h1, h3, h4, h5, h6⟩

/-- What is known of windows that begin ahead of k. -/
structure MostOf (l : List Fl) (w : Int) (k m : Nat) : Prop where
  p1 : ∀ (i j : Nat) (x y : Fl), i < k → i ≤ j → l[i]? = some x → l[j]? = some y → y.1 - x.1 < w → j - i + 1 ≤ m
  p2 : m = 0 ∨ ∃ (i j : Nat) (x y : Fl), i ≤ j ∧ l[i]? = some x ∧ l[j]? = some y ∧ y.1 - x.1 < w ∧ j - i + 1 = m

theorem MostOf.start (l : List Fl) (w : Int) : MostOf l w 0 0 := ⟨fun i j x y h => by omega, .inl rfl⟩

theorem MostOf.all {l : List Fl} {w : Int} {k m : Nat} (h : MostOf l w k m) (hk : l.length ≤ k) : IsMost l w m :=
  ⟨fun i j x y hij hx hy hw => h.p1 i j x y (by have := (List.getElem?_eq_some_iff.1 hx).1; omega) hij hx hy hw, h.p2⟩

/-- One more: c flips from k on are within w of it, and the next one is not. -/
theorem MostOf.more {l : List Fl} {w : Int} {k m c : Nat} (h : MostOf l w k m) (hs : Sor l) {x : Fl} (hx : l[k]? = some x)
    (hin : c = 0 ∨ ∃ y, l[k + c - 1]? = some y ∧ y.1 - x.1 < w) (hout : ∀ y, l[k + c]? = some y → w ≤ y.1 - x.1) : MostOf l w (k + 1) (max m c) := by
  refine ⟨fun i j x' y' hi hij hx' hy' hw => ?_, ?_⟩
  · by_cases e : i = k
    · subst e
      rw [hx] at hx'
      simp at hx'
      subst hx'
      by_cases hj : j < i + c
      · omega
      · have hlt := (List.getElem?_eq_some_iff.1 hy').1
        obtain ⟨z, hz⟩ : ∃ z, l[i + c]? = some z := ⟨l[i + c]'(by omega), List.getElem?_eq_getElem (by omega)⟩
        have h1 := hout z hz
        have h2 := sor_at hs (by omega : i + c ≤ j) hz hy'
        omega
    · have := h.p1 i j x' y' (by omega) hij hx' hy' hw
      omega
  · by_cases hm : m ≤ c
    · rcases hin with h0 | ⟨y, hy, hw⟩
      · exact .inl (by omega)
      · by_cases h0 : c = 0
        · exact .inl (by omega)
        · exact .inr ⟨k, k + c - 1, x, y, by omega, hx, hy, hw, by omega⟩
    · rcases h.p2 with h0 | ⟨i, j, x', y', h1, h2, h3, h4, h5⟩
      · omega
      · exact .inr ⟨i, j, x', y', h1, h2, h3, h4, by omega⟩
end Go.Proofs.Ytoeeaohgihipgaa
