/-
  Plain mathematics of layer 5: all flips later, and some left out.
-/
import Derived.Test.YtoeeaohgihipgaaM5f
namespace Go.Proofs.Ytoeeaohgihipgaa

/-- So many steps later. -/
def shF (K : Int) (x : Fl) : Fl := (x.1 + K, x.2)

theorem sor_shift {l : List Fl} (h : Sor l) (K : Int) : Sor (l.map (shF K)) :=
  List.pairwise_map.2 (h.imp fun {x y} hxy => by rw [ltF_iff] at hxy ⊢; simp only [shF]; omega)

theorem allF_shift {l : List Fl} (h : AllF l) {K : Nat} (hK : ∀ x ∈ l, x.1 + (K : Int) ≤ 1099511627776) : AllF (l.map (shF K)) := fun x hx => by
  obtain ⟨y, hy, rfl⟩ := List.mem_map.1 hx
  have h1 := (isF_iff y).1 (h y hy)
  have h2 := hK y hy
  rw [isF_iff]; simp only [shF]; omega

theorem mask_shift (l : List Fl) (K t : Int) : maskL (l.map (shF K)) (t + K) = maskL l t := by
  apply Nat.eq_of_testBit_eq
  intro j
  rw [maskL_bit, maskL_bit, Bool.eq_iff_iff]
  simp only [List.mem_map, decide_eq_true_eq]
  constructor
  · rintro ⟨x, hx, e⟩
    obtain ⟨s, u⟩ := x
    simp only [shF, Prod.mk.injEq] at e
    obtain ⟨e1, rfl⟩ := e
    obtain rfl : s = t := by omega
    exact hx
  · intro hx
    exact ⟨(t, j), hx, rfl⟩

theorem isMost_shift {l : List Fl} {w : Int} {m : Nat} (K : Int) (h : IsMost l w m) : IsMost (l.map (shF K)) w m := by
  refine ⟨fun i j x y hij hx hy hlt => ?_, ?_⟩
  · rw [List.getElem?_map, Option.map_eq_some_iff] at hx hy
    obtain ⟨x', hx', rfl⟩ := hx
    obtain ⟨y', hy', rfl⟩ := hy
    simp only [shF] at hlt
    exact h.1 i j x' y' hij hx' hy' (by omega)
  · rcases h.2 with h0 | ⟨i, j, x, y, hij, hx, hy, hlt, hm⟩
    · exact .inl h0
    · exact .inr ⟨i, j, shF K x, shF K y, hij, by rw [List.getElem?_map, hx]; rfl, by rw [List.getElem?_map, hy]; rfl, by simp only [shF]; omega, hm⟩

/-- A sorted list is what is ahead of some steps, what is at them, and what is behind them. -/
theorem sor_split2 {l : List Fl} (h : Sor l) (a b : Int) : l = l.filter (fun x => decide (x.1 < a)) ++ (l.filter (fun x => decide (a ≤ x.1 ∧ x.1 ≤ b)) ++ l.filter (fun x => decide (a ≤ x.1 ∧ b < x.1))) := by
  refine sor_ext h ?_ fun x => ?_
  · refine List.pairwise_append.2 ⟨sor_filter h _, List.pairwise_append.2 ⟨sor_filter h _, sor_filter h _, fun u hu v hv => ?_⟩, fun u hu v hv => ?_⟩
    · have h1 : a ≤ u.1 ∧ u.1 ≤ b := by simpa using (List.mem_filter.1 hu).2
      have h2 : a ≤ v.1 ∧ b < v.1 := by simpa using (List.mem_filter.1 hv).2
      rw [ltF_iff]; omega
    · have h1 : u.1 < a := by simpa using (List.mem_filter.1 hu).2
      have h2 : a ≤ v.1 := by
        rcases List.mem_append.1 hv with hv | hv
        · have : a ≤ v.1 ∧ v.1 ≤ b := by simpa using (List.mem_filter.1 hv).2
          exact this.1
        · have : a ≤ v.1 ∧ b < v.1 := by simpa using (List.mem_filter.1 hv).2
          exact this.1
      rw [ltF_iff]; omega
  · simp only [List.mem_append, List.mem_filter, decide_eq_true_eq]
    constructor
    · intro hx
      by_cases h1 : x.1 < a
      · exact .inl ⟨hx, h1⟩
      · by_cases h2 : x.1 ≤ b
        · exact .inr (.inl ⟨hx, by omega, h2⟩)
        · exact .inr (.inr ⟨hx, by omega, by omega⟩)
    · rintro (⟨hx, _⟩ | ⟨hx, _⟩ | ⟨hx, _⟩) <;> exact hx

/-- Of a part of a sorted list no window has more flips. -/
theorem isMost_part {l q : List Fl} (hs : Sor l) (hq : q.Sublist l) {w : Int} {m m' : Nat} (h : IsMost q w m) (h' : IsMost l w m') : m ≤ m' := by
  rcases h.2 with h0 | ⟨i, j, x, y, hij, hx, hy, hlt, hm⟩
  · omega
  · have hsq : Sor q := List.Pairwise.sublist hq hs
    have hlj := (List.getElem?_eq_some_iff.1 hy).1
    have hxy := sor_at hsq hij hx hy
    have hsub : ((q.drop i).take (j - i + 1)).Sublist (l.filter (fun z => decide (x.1 ≤ z.1 ∧ z.1 ≤ y.1))) := by
      have e : ((q.drop i).take (j - i + 1)).filter (fun z => decide (x.1 ≤ z.1 ∧ z.1 ≤ y.1)) = (q.drop i).take (j - i + 1) := by
        rw [List.filter_eq_self]
        intro z hz
        obtain ⟨k, hk⟩ := List.mem_iff_getElem?.1 hz
        rw [List.getElem?_take] at hk
        split at hk
        · rw [List.getElem?_drop] at hk
          have a1 := sor_at hsq (by omega : i ≤ i + k) hx hk
          have a2 := sor_at hsq (by omega : i + k ≤ j) hk hy
          simp; omega
        · cases hk
      rw [← e]
      exact (((List.take_sublist _ _).trans (List.drop_sublist _ _)).trans hq).filter _
    have hlen := hsub.length_le
    rw [List.length_take, List.length_drop] at hlen
    have hsp := sor_split2 hs x.1 y.1
    generalize hG : l.filter (fun z => decide (x.1 ≤ z.1 ∧ z.1 ≤ y.1)) = G at hsp hlen
    generalize l.filter (fun z => decide (z.1 < x.1)) = A at hsp
    generalize l.filter (fun z => decide (x.1 ≤ z.1 ∧ y.1 < z.1)) = C at hsp
    obtain ⟨u, hu⟩ : ∃ u, G[0]? = some u := ⟨_, List.getElem?_eq_getElem (by omega)⟩
    obtain ⟨v, hv⟩ : ∃ v, G[G.length - 1]? = some v := ⟨_, List.getElem?_eq_getElem (by omega)⟩
    have hum : u ∈ G := List.mem_of_getElem? hu
    have hvm : v ∈ G := List.mem_of_getElem? hv
    rw [← hG] at hum hvm
    have hu1 : x.1 ≤ u.1 ∧ u.1 ≤ y.1 := by simpa using (List.mem_filter.1 hum).2
    have hv1 : x.1 ≤ v.1 ∧ v.1 ≤ y.1 := by simpa using (List.mem_filter.1 hvm).2
    have := h'.1 A.length (A.length + (G.length - 1)) u v (by omega) (by rw [hsp, List.getElem?_append_right (by omega), Nat.sub_self, List.getElem?_append_left (by omega)]; exact hu)
      (by rw [hsp, List.getElem?_append_right (by omega), show A.length + (G.length - 1) - A.length = G.length - 1 by omega, List.getElem?_append_left (by omega)]; exact hv) (by omega)
    omega

theorem mask_part {l q : List Fl} (hq : q.Sublist l) (t : Int) (j : Nat) (h : (maskL q t).testBit j = true) : (maskL l t).testBit j = true := by
  rw [maskL_bit] at h ⊢
  simp only [decide_eq_true_eq] at h ⊢
  exact hq.subset h
end Go.Proofs.Ytoeeaohgihipgaa
