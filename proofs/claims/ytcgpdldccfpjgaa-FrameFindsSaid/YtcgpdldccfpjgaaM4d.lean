/-
  Plain facts of a body that is turned about.
-/
import Derived.Test.YtcgpdldccfpjgaaM4
namespace Go.Proofs.Ytcgpdldccfpjgaa
open Go.RowKit Go.Sort
set_option linter.unusedVariables false

/-- What holds while a burst is turned about: the copy's bits, and whether any was. -/
structure Burst (l b : List Bool) (k i : Nat) (m : List Bool) (t : Bool) : Prop where
  bits : m = mkL l.length (fun j => (l[j]?.getD false) != tuB b k i j)
  yes : t = true → ∃ j, j < l.length ∧ tuB b k i j = true
  no : t = false → ∀ j, j < l.length → tuB b k i j = false

theorem Burst.start (l b : List Bool) (k : Nat) : Burst l b k 0 l false :=
  ⟨(suV_calm (fun j _ => tuB_zero b k j)).symm, fun h => by simp at h, fun _ j _ => tuB_zero b k j⟩

theorem Burst.skip {l b : List Bool} {k i : Nat} {m : List Bool} {t x : Bool} (h : Burst l b k i m t) (hx : b[i]? = some x) (hn : ¬ (i < 15 ∧ x = true ∧ k + i < l.length)) : Burst l b k (i + 1) m t := by
  have hs := tuB_skip (k := k) (n := l.length) hx hn
  refine ⟨?_, fun ht => ?_, fun ht j hj => ?_⟩
  · rw [h.bits]; exact mkL_congr (fun j hj => by rw [hs j hj])
  · obtain ⟨j, hj, e⟩ := h.yes ht
    exact ⟨j, hj, by rw [hs j hj]; exact e⟩
  · rw [hs j hj]; exact h.no ht j hj

theorem Burst.get {l b : List Bool} {k i : Nat} {m : List Bool} {t : Bool} (h : Burst l b k i m t) (hk : k + i < l.length) : m[k + i]? = some (l[k + i]?.getD false) := by
  rw [h.bits, mkL_get _ hk, tuB_new]; simp

theorem Burst.turn {l b : List Bool} {k i : Nat} {m : List Bool} {t v : Bool} (h : Burst l b k i m t) (hx : b[i]? = some true) (h15 : i < 15) (hk : k + i < l.length) (hv : m[k + i]? = some v) : Burst l b k (i + 1) (m.set (k + i) (!v)) true := by
  have hat : tuB b k (i + 1) (k + i) = true := by rw [tuB_at hx, decide_eq_true h15]; rfl
  refine ⟨?_, fun _ => ⟨k + i, hk, hat⟩, fun ht => by simp at ht⟩
  have hg := h.get hk
  rw [hv] at hg
  simp only [Option.some.injEq] at hg
  rw [h.bits, mkL_set]
  refine mkL_congr (fun j hj => ?_)
  by_cases e : j = k + i
  · subst e; rw [if_pos rfl, hat, hg]; simp
  · rw [if_neg e, tuB_other e]

theorem Burst.calm {l b : List Bool} {k i : Nat} {m : List Bool} (h : Burst l b k i m false) : m = l := by
  have e := suV_calm (h.no rfl)
  rw [← h.bits] at e
  exact e

theorem Burst.other {l b : List Bool} {k i : Nat} {m : List Bool} (h : Burst l b k i m true) (hk : k ≤ l.length) : suV m ≠ suV l := by
  obtain ⟨j, hj, e⟩ := h.yes rfl
  have hne := suV_turned hk hj e
  rw [← h.bits] at hne
  exact hne

theorem Burst.bad {f : Fr} {b : List Bool} {k i : Nat} {m : List Bool} (hg : Good f) (h : Burst (boL f) b k i m true) (hk : k ≤ (boL f).length) : suV m ≠ 0#15 := by
  have h1 := h.other hk
  rw [(bo_all f hg).2.1] at h1
  exact h1
end Go.Proofs.Ytcgpdldccfpjgaa
