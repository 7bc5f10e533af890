/-
  Plain mathematics: what is left of a sorted row of numbers when each is there once: rising, and the same numbers. Two rising lists with the same numbers are one.
-/
import Derived.Test.YtmaklneiedljjaaSr
import Derived.Lib.SlicesCompact
import Derived.Sort.LotA
namespace Go.Proofs.Ytmaklneiedljjaa
open Go.Sort Go.Lib
set_option linter.unusedVariables false

theorem comp_lt {d : Array Nat} {m : Nat} (hs : SortedIn ltN 0 m d) : (compactUpTo d m).Pairwise (· < ·) := by
  unfold compactUpTo
  rw [List.pairwise_map]
  refine List.Pairwise.imp_of_mem ?_ ((List.pairwise_lt_range (n := m)).filter _)
  intro i j hi hj hij
  obtain ⟨hjm, hk⟩ := List.mem_filter.1 hj
  have hjm := List.mem_range.1 hjm
  have h1 : d[j]! ≠ d[j - 1]! := by
    intro e
    rw [keeps_neg (by omega) e] at hk
    cases hk
  have h2 := hs (j - 1) j (by omega) (by omega) hjm
  have h3 : d[i]! ≤ d[j - 1]! := by
    by_cases e : i = j - 1
    · rw [e]; exact Nat.le_refl _
    · have := hs i (j - 1) (by omega) (by omega) (by omega)
      simp only [ltN, decide_eq_false_iff_not] at this
      omega
  simp only [ltN, decide_eq_false_iff_not] at h2
  omega

theorem comp_mem {d : Array Nat} {m : Nat} (x : Nat) : x ∈ compactUpTo d m ↔ ∃ i, i < m ∧ d[i]! = x := by
  unfold compactUpTo
  constructor
  · intro h
    obtain ⟨i, hi, rfl⟩ := List.mem_map.1 h
    exact ⟨i, List.mem_range.1 (List.mem_filter.1 hi).1, rfl⟩
  · rintro ⟨i, hi, rfl⟩
    induction i with
    | zero => exact List.mem_map.2 ⟨0, List.mem_filter.2 ⟨List.mem_range.2 hi, keeps_lt_one d 0 (by omega)⟩, rfl⟩
    | succ i ih =>
      by_cases e : d[i + 1]! = d[i]!
      · rw [e]; exact ih (by omega)
      · exact List.mem_map.2 ⟨i + 1, List.mem_filter.2 ⟨List.mem_range.2 hi, keeps_pos (by simpa using e)⟩, rfl⟩

/-- Two rising lists with the same numbers are one. -/
theorem rise_one : ∀ {l m : List Nat}, l.Pairwise (· < ·) → m.Pairwise (· < ·) → (∀ x, x ∈ l ↔ x ∈ m) → l = m
  | [], [], _, _, _ => rfl
  | [], y :: m, _, _, h => by have := (h y).2 (by simp); simp at this
  | x :: l, [], _, _, h => by have := (h x).1 (by simp); simp at this
  | x :: l, y :: m, hl, hm, h => by
    rw [List.pairwise_cons] at hl hm
    have e : x = y := by
      rcases List.mem_cons.1 ((h x).1 (by simp)) with e | hx
      · exact e
      · rcases List.mem_cons.1 ((h y).2 (by simp)) with e | hy
        · exact e.symm
        · have h1 := hl.1 y hy
          have h2 := hm.1 x hx
          omega
    subst e
    refine congrArg (x :: ·) (rise_one hl.2 hm.2 fun z => ⟨fun hz => ?_, fun hz => ?_⟩)
    · rcases List.mem_cons.1 ((h z).1 (by simp [hz])) with e | h'
      · have := hl.1 z hz; omega
      · exact h'
    · rcases List.mem_cons.1 ((h z).2 (by simp [hz])) with e | h'
      · have := hm.1 z hz; omega
      · exact h'

theorem perm_mem {N : Nat} {d d' : Array Nat} (hs : d.size = N) (h : PermIn 0 N d d') (x : Nat) : x ∈ d'.toList ↔ x ∈ d.toList := by
  have h3 := h.2.2
  rw [show N = d.size from hs.symm] at h3
  rw [Array.extract_size] at h3
  have e : d'.extract 0 d.size = d' := by rw [← h.1]; exact Array.extract_size
  rw [e] at h3
  exact h3.mem_iff

theorem idx_mem {N : Nat} {d : Array Nat} (hs : d.size = N) (x : Nat) : (∃ i, i < N ∧ d[i]! = x) ↔ x ∈ d.toList := by
  subst hs
  constructor
  · rintro ⟨i, hi, rfl⟩
    have : d[i]! = d[i] := by simp [hi]
    rw [this]; simp
  · intro h
    obtain ⟨i, hi, e⟩ := List.mem_iff_getElem.1 h
    refine ⟨i, by simpa using hi, ?_⟩
    have hi' : i < d.size := by simpa using hi
    rw [← e]; simp [hi']
end Go.Proofs.Ytmaklneiedljjaa
