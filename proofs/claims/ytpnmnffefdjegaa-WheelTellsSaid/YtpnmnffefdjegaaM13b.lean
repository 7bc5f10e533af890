/-
  What becomes of timers while a slot is gone through, in whatever order; the told list is the sorted one.
-/
import Derived.Test.YtpnmnffefdjegaaM13
namespace Go.Proofs.Ytpnmnffefdjegaa
open Go.RowKit Go.Maps
set_option linter.unusedVariables false

/-- o: what is told by now; L: what is left of the timers L0; left: the numbers of the slot that are still to come. -/
structure Sw (L0 : List Tm) (T : Int) (left : Lit → Bool) (L : List Tm) (o : List Int) : Prop where
  key : (ids L0).Nodup
  eq : L = L0.filter (fun p => !(o.contains p.1))
  nd : o.Nodup
  at' : ∀ i ∈ o, (i, T) ∈ L0
  lf : ∀ p ∈ L, p.2 = T → left (.int .i64 p.1) = true

section
variable {L0 L : List Tm} {T x : Int} {left : Lit → Bool} {o : List Int} {n k : Nat} {D : DataW Unit} {m : Wh}
theorem Sw.start (hk : (ids L0).Nodup) (hD : Met D (slotIds L0 n k)) (hT : (k : Int) = T % (n : Int)) : Sw L0 T (Maps.has D) L0 [] := by
  refine ⟨hk, (List.filter_eq_self.2 (fun p _ => by simp)).symm, List.nodup_nil, fun i hi => (by cases hi), fun p hp e => ?_⟩
  rw [hD.has, decide_eq_true_iff, mem_slot]
  exact ⟨p.2, hp, by rw [e]; exact hT.symm⟩
theorem Sw.sub (h : Sw L0 T left L o) {p : Tm} (hp : p ∈ L) : p ∈ L0 ∧ p.1 ∉ o := by
  rw [h.eq] at hp
  obtain ⟨h1, h2⟩ := List.mem_filter.1 hp
  exact ⟨h1, by simpa using h2⟩
theorem Sw.nodup (h : Sw L0 T left L o) : (ids L).Nodup := by rw [h.eq]; exact ids_nodup_filter h.key _
theorem lit_same {a b : Int} : (Lit.int .i64 a).sameKey (.int .i64 b) = decide (a = b) := by
  by_cases e : a = b
  · subst e; rw [WideAt.sameKey_self (keyLit a)]; simp
  · rw [sameKey_ne (lit_ne e)]; simp [e]
theorem Sw.stays (h : Sw L0 T left L o) (hx : x ∈ ids L) (hd : dueL L x ≠ T) : Sw L0 T (fun z => left z && !z.sameKey (.int .i64 x)) L o := by
  refine ⟨h.key, h.eq, h.nd, h.at', fun p hp e => ?_⟩
  have hne : p.1 ≠ x := fun e2 => hd (by rw [← e2, due_mem h.nodup hp, e])
  rw [h.lf p hp e, lit_same]
  simp [hne]
theorem Sw.struck (h : Sw L0 T left L o) (hx : x ∈ ids L) (hd : dueL L x = T) : Sw L0 T (fun z => left z && !z.sameKey (.int .i64 x)) (outL L x) (o ++ [x]) := by
  have hm : (x, T) ∈ L := by rw [← hd]; exact mem_due (hasL_iff.2 hx)
  obtain ⟨h1, h2⟩ := h.sub hm
  refine ⟨h.key, ?_, ?_, fun i hi => ?_, fun p hp e => ?_⟩
  · unfold outL
    rw [h.eq, List.filter_filter]
    refine List.filter_congr (fun p _ => ?_)
    rw [List.contains_eq_mem, List.contains_eq_mem]
    by_cases e1 : p.1 = x <;> by_cases e2 : p.1 ∈ o <;> simp [e1, e2]
  · rw [List.nodup_append]
    exact ⟨h.nd, by simp, fun a ha b hb e => by simp at hb; subst hb; subst e; exact h2 ha⟩
  · rcases List.mem_append.1 hi with hi | hi
    · exact h.at' i hi
    · simp at hi; subst hi; exact h1
  · obtain ⟨p1, p2⟩ := mem_outL.1 hp
    rw [h.lf p p1 e, lit_same]
    simp [p2]
theorem Sw.fin (h : Sw L0 T left L o) (hl : ∀ z, left z = false) : L = L0.filter (fun p => !(p.2 == T)) ∧ ∀ i, i ∈ o ↔ (i, T) ∈ L0 := by
  have hin : ∀ i, i ∈ o ↔ (i, T) ∈ L0 := fun i => by
    refine ⟨h.at' i, fun hi => ?_⟩
    by_cases e : i ∈ o
    · exact e
    · have : (i, T) ∈ L := by rw [h.eq]; exact List.mem_filter.2 ⟨hi, by simpa using e⟩
      have := h.lf _ this rfl
      rw [hl] at this; cases this
  refine ⟨?_, hin⟩
  rw [h.eq]
  refine List.filter_congr (fun p hp => ?_)
  congr 1
  rw [List.contains_eq_mem]
  by_cases e : p.2 = T
  · have : p.1 ∈ o := (hin p.1).2 (e ▸ hp)
    simp [this, e]
  · have : p.1 ∉ o := fun hi => e (by have := pair_eq h.key hp (h.at' _ hi) rfl; rw [this])
    simp [this, e]
theorem Sw.le (h : Sw L0 T left L o) : o.length ≤ L0.length := by
  have h1 : o ⊆ ids L0 := fun i hi => List.mem_map_of_mem (f := fun p : Tm => p.1) (h.at' i hi)
  have := h.nd.length_le_of_subset h1
  simpa [ids] using this
/-- What is told, sorted. -/
theorem told_sort (hk : (ids m.L).Nodup) (hn : o.Nodup) (hi : ∀ i, i ∈ o ↔ (i, m.now + 1) ∈ m.L) : Told m (o.mergeSort fun x y => decide (x ≤ y)) := by
  refine ⟨?_, fun i => by rw [List.mem_mergeSort]; exact hi i⟩
  have h1 : (o.mergeSort fun x y => decide (x ≤ y)).Pairwise (fun a b => decide (a ≤ b) = true) :=
    List.pairwise_mergeSort (fun a b c h1 h2 => by simp only [decide_eq_true_eq] at *; omega) (fun a b => by simp only [Bool.or_eq_true, decide_eq_true_eq]; omega) o
  have h2 : (o.mergeSort fun x y => decide (x ≤ y)).Nodup := (List.mergeSort_perm o _).nodup_iff.2 hn
  refine (h1.and (List.nodup_iff_pairwise_ne.1 h2)).imp (fun ⟨a, b⟩ => ?_)
  simp only [decide_eq_true_eq] at a
  omega
end
end Go.Proofs.Ytpnmnffefdjegaa
