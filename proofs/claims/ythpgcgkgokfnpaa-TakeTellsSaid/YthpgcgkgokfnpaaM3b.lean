/-
  Plain mathematics for the statement CrcFinds: lists told by a function, bits that are turned about in them, and how many differ.
-/
import Derived.Test.YthpgcgkgokfnpaaM3
namespace Go.Proofs.Ythpgcgkgokfnpaa

/-- The list of the first n values of F. -/
def mkL (n : Nat) (F : Nat → Bool) : List Bool := (List.range n).map F

@[simp] theorem mkL_length (n : Nat) (F : Nat → Bool) : (mkL n F).length = n := by simp [mkL]
theorem mkL_get {n : Nat} (F : Nat → Bool) {j : Nat} (h : j < n) : (mkL n F)[j]? = some (F j) := by simp [mkL, h]
theorem mkL_congr {n : Nat} {F G : Nat → Bool} (h : ∀ j, j < n → F j = G j) : mkL n F = mkL n G := by
  apply List.ext_getElem?
  intro j
  by_cases hj : j < n
  · rw [mkL_get F hj, mkL_get G hj, h j hj]
  · rw [List.getElem?_eq_none (by simp; omega), List.getElem?_eq_none (by simp; omega)]
theorem mkL_set {n : Nat} (F : Nat → Bool) (i : Nat) (v : Bool) : (mkL n F).set i v = mkL n (fun j => if j = i then v else F j) := by
  apply List.ext_getElem?
  intro j
  rw [List.getElem?_set]
  by_cases hj : j < n
  · by_cases hi : i = j
    · subst hi; rw [if_pos rfl, mkL_get _ hj, if_pos (by simpa using hj), if_pos rfl]
    · rw [if_neg hi, mkL_get _ hj, mkL_get _ hj, if_neg (fun e => hi e.symm)]
  · by_cases hi : i = j
    · subst hi
      rw [if_pos rfl, if_neg (by simpa using hj), List.getElem?_eq_none (by simp; omega)]
    · rw [if_neg hi, List.getElem?_eq_none (by simp; omega), List.getElem?_eq_none (by simp; omega)]
theorem mkL_own (l : List Bool) : mkL l.length (fun j => l[j]?.getD false) = l := by
  apply List.ext_getElem?
  intro j
  by_cases hj : j < l.length
  · rw [mkL_get _ hj]; simp [hj]
  · rw [List.getElem?_eq_none (by simp; omega), List.getElem?_eq_none (by omega)]

/-- Which places are turned about by the first i bits of a burst from place k on. -/
def tuB (b : List Bool) (k i j : Nat) : Bool := decide (k ≤ j) && decide (j < k + i) && decide (j < k + 15) && (b[j - k]?.getD false)

theorem tuB_zero (b : List Bool) (k j : Nat) : tuB b k 0 j = false := by
  unfold tuB
  by_cases h : k ≤ j
  · rw [decide_eq_false (show ¬ j < k + 0 by omega)]; simp
  · rw [decide_eq_false h]; simp

theorem tuB_other {b : List Bool} {k i j : Nat} (h : j ≠ k + i) : tuB b k (i + 1) j = tuB b k i j := by
  unfold tuB
  rw [show decide (j < k + (i + 1)) = decide (j < k + i) from by rw [Bool.eq_iff_iff]; simp; omega]

theorem tuB_new (b : List Bool) (k i : Nat) : tuB b k i (k + i) = false := by
  unfold tuB
  rw [decide_eq_false (show ¬ k + i < k + i by omega)]; simp

theorem tuB_at {b : List Bool} {k i : Nat} {x : Bool} (hx : b[i]? = some x) : tuB b k (i + 1) (k + i) = (decide (i < 15) && x) := by
  unfold tuB
  rw [decide_eq_true (show k ≤ k + i by omega), decide_eq_true (show k + i < k + (i + 1) by omega), show k + i - k = i from by omega, hx,
    show decide (k + i < k + 15) = decide (i < 15) from by rw [Bool.eq_iff_iff]; simp]
  simp

theorem tuB_skip {b : List Bool} {k i n : Nat} {x : Bool} (hx : b[i]? = some x) (h : ¬ (i < 15 ∧ x = true ∧ k + i < n)) : ∀ j, j < n → tuB b k (i + 1) j = tuB b k i j := by
  intro j hj
  by_cases e : j = k + i
  · subst e
    rw [tuB_new, tuB_at hx]
    by_cases h15 : i < 15
    · cases x
      · simp
      · exact absurd ⟨h15, rfl, hj⟩ h
    · simp [h15]
  · exact tuB_other e

theorem xoL_get {l m : List Bool} {j : Nat} {x y : Bool} (hx : l[j]? = some x) (hy : m[j]? = some y) : (xoL l m)[j]? = some (x != y) := by
  unfold xoL; rw [List.getElem?_zipWith, hx, hy]

theorem xoL_len {l m : List Bool} (h : l.length = m.length) : (xoL l m).length = l.length := by
  unfold xoL; rw [List.length_zipWith]; omega

/-- A list, and what becomes of it where E says so. -/
theorem xoL_mk (l : List Bool) (E : Nat → Bool) : xoL l (mkL l.length (fun j => (l[j]?.getD false) != E j)) = mkL l.length E := by
  apply List.ext_getElem?
  intro j
  by_cases hj : j < l.length
  · rw [xoL_get (x := l[j]?.getD false) (by simp [hj]) (mkL_get _ hj), mkL_get _ hj]
    cases l[j]?.getD false <;> cases E j <;> rfl
  · rw [List.getElem?_eq_none (by rw [xoL_len (by simp)]; omega), List.getElem?_eq_none (by simp; omega)]

theorem suV_turned {l : List Bool} {b : List Bool} {k i : Nat} (hk : k ≤ l.length) {j : Nat} (hj : j < l.length) (ht : tuB b k i j = true) : suV (mkL l.length (fun j => (l[j]?.getD false) != tuB b k i j)) ≠ suV l := by
  intro e
  have hx := xoL_mk l (tuB b k i)
  obtain ⟨d, hd⟩ : ∃ d, d = mkL l.length (tuB b k i) := ⟨_, rfl⟩
  rw [← hd] at hx
  have hdl : d.length = l.length := by rw [hd]; simp
  have hget : ∀ j, j < l.length → d[j]? = some (tuB b k i j) := fun j hj => by rw [hd, mkL_get _ hj]
  have hmem : true ∈ d := List.mem_of_getElem? (by rw [hget j hj, ht])
  have e1 : d.take k = List.replicate k false := by
    rw [List.eq_replicate_iff]
    refine ⟨by rw [List.length_take]; omega, fun v hv => ?_⟩
    obtain ⟨t, hte⟩ := List.mem_iff_getElem?.1 hv
    have htl := (List.getElem?_eq_some_iff.1 hte).1
    rw [List.length_take] at htl
    rw [List.getElem?_take, if_pos (by omega), hget t (by omega)] at hte
    simp only [Option.some.injEq] at hte
    rw [← hte]
    unfold tuB
    rw [decide_eq_false (show ¬ k ≤ t by omega)]; simp
  obtain ⟨q, hq⟩ : ∃ q, q = ((d.drop k).drop 15).length := ⟨_, rfl⟩
  have e2 : (d.drop k).drop 15 = List.replicate q false := by
    rw [List.eq_replicate_iff]
    refine ⟨hq.symm, fun v hv => ?_⟩
    obtain ⟨t, hte⟩ := List.mem_iff_getElem?.1 hv
    have htl := (List.getElem?_eq_some_iff.1 hte).1
    rw [List.length_drop, List.length_drop] at htl
    rw [List.getElem?_drop, List.getElem?_drop, hget _ (by omega)] at hte
    simp only [Option.some.injEq] at hte
    rw [← hte]
    unfold tuB
    rw [decide_eq_false (show ¬ k + (15 + t) < k + 15 by omega)]; simp
  have e3 : d = List.replicate k false ++ ((d.drop k).take 15 ++ List.replicate q false) := by
    rw [← e2, List.take_append_drop, ← e1, List.take_append_drop]
  have hm2 : true ∈ (d.drop k).take 15 := by
    rw [e3] at hmem
    simp only [List.mem_append, List.mem_replicate] at hmem
    rcases hmem with h | h | h
    · exact absurd h.2 (by simp)
    · exact h
    · exact absurd h.2 (by simp)
  exact suV_near (l := l) (m := mkL l.length (fun j => (l[j]?.getD false) != tuB b k i j)) (by simp) (p := k) (q := q) (b := (d.drop k).take 15) (by rw [List.length_take]; omega) hm2 (hx.trans e3) e.symm

theorem suV_calm {l : List Bool} {E : Nat → Bool} (h : ∀ j, j < l.length → E j = false) : mkL l.length (fun j => (l[j]?.getD false) != E j) = l := by
  rw [mkL_congr (G := fun j => l[j]?.getD false) (fun j hj => by rw [h j hj]; simp), mkL_own]

/-- How many are true. -/
def trL (l : List Bool) : Nat := (l.filter id).length

theorem trL_snoc {l : List Bool} {k : Nat} {x : Bool} (h : l[k]? = some x) : trL (l.take (k + 1)) = trL (l.take k) + x.toNat := by
  unfold trL; rw [take_snoc h, List.filter_append]; cases x <;> simp

theorem trL_le (l : List Bool) : trL l ≤ l.length := List.length_filter_le _ _

theorem paL_tr (l : List Bool) : paL l = decide (trL l % 2 = 1) := by
  induction l with
  | nil => rfl
  | cons b l ih =>
    rw [paL_cons, ih]
    unfold trL
    cases b
    · simp
    · rw [show List.filter id (true :: l) = true :: l.filter id from rfl, List.length_cons, Bool.eq_iff_iff]
      simp
      omega

theorem suV_odd' {l m : List Bool} (h : l.length = m.length) (ho : ¬ trL (xoL l m) % 2 = 0) : suV m ≠ suV l := by
  refine fun e => suV_odd h ?_ e.symm
  rw [paL_tr, decide_eq_true_eq]
  omega
end Go.Proofs.Ythpgcgkgokfnpaa
