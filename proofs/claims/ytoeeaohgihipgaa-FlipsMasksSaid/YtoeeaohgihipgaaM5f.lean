/-
  Plain mathematics of layer 5: what the statements say of windows and masks.
-/
import Derived.Test.YtoeeaohgihipgaaM5e
namespace Go.Proofs.Ytoeeaohgihipgaa

theorem isMost_mono {l : List Fl} {w w' : Int} {m m' : Nat} (h : IsMost l w m) (h' : IsMost l w' m') (hw : w ≤ w') : m ≤ m' := by
  rcases h.2 with h0 | ⟨i, j, x, y, hij, hx, hy, hlt, hm⟩
  · omega
  · have := h'.1 i j x y hij hx hy (by omega); omega

/-- The first place from i on whose step is x steps on at least. -/
theorem first_far {l : List Fl} {i j : Nat} {x : Fl} {d : Int} (hij : i ≤ j) (hj : ∃ y, l[j]? = some y ∧ d ≤ y.1 - x.1) :
    ∃ h z, i ≤ h ∧ h ≤ j ∧ l[h]? = some z ∧ d ≤ z.1 - x.1 ∧ (h = i ∨ ∃ y, l[h - 1]? = some y ∧ y.1 - x.1 < d) := by
  have key : ∀ n h, h = i + n → h ≤ j → (∃ y, l[h]? = some y ∧ d ≤ y.1 - x.1) → ∃ h z, i ≤ h ∧ h ≤ j ∧ l[h]? = some z ∧ d ≤ z.1 - x.1 ∧ (h = i ∨ ∃ y, l[h - 1]? = some y ∧ y.1 - x.1 < d) := by
    intro n
    induction n with
    | zero =>
      intro h hh hhj ⟨y, hy, hd⟩
      exact ⟨h, y, by omega, hhj, hy, hd, .inl (by omega)⟩
    | succ n ih =>
      intro h hh hhj ⟨y, hy, hd⟩
      have hlen := (List.getElem?_eq_some_iff.1 hy).1
      obtain ⟨z, hz⟩ : ∃ z, l[h - 1]? = some z := ⟨_, List.getElem?_eq_getElem (by omega)⟩
      by_cases hzd : d ≤ z.1 - x.1
      · exact ih (h - 1) (by omega) (by omega) ⟨z, hz, hzd⟩
      · exact ⟨h, y, by omega, hhj, hy, hd, .inr ⟨z, hz, by omega⟩⟩
  exact key (j - i) j (by omega) (Nat.le_refl _) hj

theorem isMost_add {l : List Fl} {x y : Int} {p q r : Nat} (hp : IsMost l x p) (hq : IsMost l y q) (hr : IsMost l (x + y) r) : r ≤ p + q := by
  rcases hr.2 with h0 | ⟨i, j, u, v, hij, hu, hv, hlt, hm⟩
  · omega
  · by_cases hd : x ≤ v.1 - u.1
    · obtain ⟨h, z, hih, hhj, hz, hzd, hpre⟩ := first_far hij ⟨v, hv, hd⟩
      have h2 := hq.1 h j z v hhj hz hv (by omega)
      rcases hpre with rfl | ⟨y', hy', hlt'⟩
      · omega
      · by_cases e : h = i
        · subst e; omega
        · have h1 := hp.1 i (h - 1) u y' (by omega) hu hy' hlt'
          omega
    · have h1 := hp.1 i j u v hij hu hv (by omega)
      omega

theorem isMost_all {l : List Fl} {w T : Int} (hT : ∀ x ∈ l, 0 ≤ x.1 ∧ x.1 < T) (hw : T ≤ w) : IsMost l w l.length := by
  refine ⟨fun i j x y hij hx hy _ => ?_, ?_⟩
  · have := (List.getElem?_eq_some_iff.1 hy).1
    omega
  · by_cases h0 : l.length = 0
    · exact .inl h0
    · obtain ⟨x, hx⟩ : ∃ x, l[0]? = some x := ⟨_, List.getElem?_eq_getElem (by omega)⟩
      obtain ⟨y, hy⟩ : ∃ y, l[l.length - 1]? = some y := ⟨_, List.getElem?_eq_getElem (by omega)⟩
      have h1 := hT x (List.mem_of_getElem? hx)
      have h2 := hT y (List.mem_of_getElem? hy)
      exact .inr ⟨0, l.length - 1, x, y, by omega, hx, hy, by omega, by omega⟩

/-- The flips of a step. -/
def atL (l : List Fl) (t : Int) : List Fl := l.filter fun x => x.1 == t

theorem mem_atL {l : List Fl} {t : Int} {x : Fl} : x ∈ atL l t ↔ x ∈ l ∧ x.1 = t := by simp [atL]

theorem sor_filter {l : List Fl} (h : Sor l) (p : Fl → Bool) : Sor (l.filter p) := List.Pairwise.sublist List.filter_sublist h

/-- A sorted list is what is ahead of a step, what is at it, and what is behind it. -/
theorem sor_split {l : List Fl} (h : Sor l) (t : Int) : l = l.filter (fun x => decide (x.1 < t)) ++ (atL l t ++ l.filter (fun x => decide (t < x.1))) := by
  refine sor_ext h ?_ fun x => ?_
  · refine List.pairwise_append.2 ⟨sor_filter h _, List.pairwise_append.2 ⟨sor_filter h _, sor_filter h _, fun a ha b hb => ?_⟩, fun a ha b hb => ?_⟩
    · have h1 := (mem_atL.1 ha).2
      have h2 : t < b.1 := by simpa using (List.mem_filter.1 hb).2
      rw [ltF_iff]; omega
    · have h1 : a.1 < t := by simpa using (List.mem_filter.1 ha).2
      rcases List.mem_append.1 hb with hb | hb
      · have h2 := (mem_atL.1 hb).2
        rw [ltF_iff]; omega
      · have h2 : t < b.1 := by simpa using (List.mem_filter.1 hb).2
        rw [ltF_iff]; omega
  · simp only [List.mem_append, List.mem_filter, mem_atL, decide_eq_true_eq]
    constructor
    · intro hx
      by_cases h1 : x.1 < t
      · exact .inl ⟨hx, h1⟩
      · by_cases h2 : x.1 = t
        · exact .inr (.inl ⟨hx, h2⟩)
        · exact .inr (.inr ⟨hx, by omega⟩)
    · rintro (⟨hx, _⟩ | ⟨hx, _⟩ | ⟨hx, _⟩) <;> exact hx

/-- The widest of the windows of one step. -/
theorem isMost_one {l : List Fl} (hs : Sor l) {b : Nat} (h1 : ∀ (i : Nat) (x : Fl), l[i]? = some x → (atL l x.1).length ≤ b) (h2 : b = 0 ∨ ∃ (i : Nat) (x : Fl), l[i]? = some x ∧ (atL l x.1).length = b) : IsMost l 1 b := by
  refine ⟨fun i j x y hij hx hy hlt => ?_, ?_⟩
  · have hxy := sor_at hs hij hx hy
    have hlj := (List.getElem?_eq_some_iff.1 hy).1
    have hsub : ((l.drop i).take (j - i + 1)).Sublist (atL l x.1) := by
      have e : ((l.drop i).take (j - i + 1)).filter (fun z => z.1 == x.1) = (l.drop i).take (j - i + 1) := by
        rw [List.filter_eq_self]
        intro z hz
        obtain ⟨k, hk⟩ := List.mem_iff_getElem?.1 hz
        rw [List.getElem?_take] at hk
        split at hk
        · rw [List.getElem?_drop] at hk
          have a1 := sor_at hs (by omega : i ≤ i + k) hx hk
          have a2 := sor_at hs (by omega : i + k ≤ j) hk hy
          simp; omega
        · cases hk
      rw [← e]
      exact (((List.take_sublist _ _).trans (List.drop_sublist _ _)).filter _)
    have := hsub.length_le
    rw [List.length_take, List.length_drop] at this
    have := h1 i x hx
    omega
  · rcases h2 with h0 | ⟨i, x, hx, hb⟩
    · exact .inl h0
    · by_cases h0 : b = 0
      · exact .inl h0
      · have hsp := sor_split hs x.1
        have hG : 0 < (atL l x.1).length := by omega
        generalize hA : l.filter (fun z => decide (z.1 < x.1)) = A at hsp
        generalize hC : l.filter (fun z => decide (x.1 < z.1)) = C at hsp
        obtain ⟨u, hu⟩ : ∃ u, (atL l x.1)[0]? = some u := ⟨_, List.getElem?_eq_getElem (by omega)⟩
        obtain ⟨v, hv⟩ : ∃ v, (atL l x.1)[b - 1]? = some v := ⟨_, List.getElem?_eq_getElem (by omega)⟩
        have hu1 := (mem_atL.1 (List.mem_of_getElem? hu)).2
        have hv1 := (mem_atL.1 (List.mem_of_getElem? hv)).2
        refine .inr ⟨A.length, A.length + (b - 1), u, v, by omega, ?_, ?_, by omega, by omega⟩
        · rw [hsp, List.getElem?_append_right (by omega), Nat.sub_self, List.getElem?_append_left (by omega)]; exact hu
        · rw [hsp, List.getElem?_append_right (by omega), show A.length + (b - 1) - A.length = b - 1 by omega, List.getElem?_append_left (by omega)]; exact hv

theorem sor_nodup {l : List Fl} (h : Sor l) : l.Nodup := List.Pairwise.imp (fun h => ltF_ne h) h

theorem count_sor {l : List Fl} (h : Sor l) (z : Fl) : l.count z = if z ∈ l then 1 else 0 := by
  by_cases hz : z ∈ l
  · rw [if_pos hz]
    have h1 := List.count_pos_iff.2 hz
    have h2 := List.nodup_iff_count.1 (sor_nodup h) z
    omega
  · rw [if_neg hz]; exact List.count_eq_zero.2 hz

theorem mask_xor {a b : List Fl} (ha : Sor a) (hb : Sor b) (t : Int) : maskL (mkL (a ++ b)) t = maskL a t ^^^ maskL b t := by
  apply Nat.eq_of_testBit_eq
  intro j
  rw [Nat.testBit_xor, maskL_bit, maskL_bit, maskL_bit, Bool.eq_iff_iff]
  simp only [mem_mkL, List.count_append, count_sor ha, count_sor hb, decide_eq_true_eq]
  by_cases h1 : (t, j) ∈ a <;> by_cases h2 : (t, j) ∈ b <;> simp [h1, h2]

theorem mk_twice (a : List Fl) : mkL (a ++ a) = [] := by
  apply List.eq_nil_iff_forall_not_mem.2
  intro z hz
  rw [mem_mkL, List.count_append] at hz
  omega

theorem mask_filter (l : List Fl) (p : Fl → Bool) (t : Int) (j : Nat) : (maskL (l.filter p) t).testBit j = ((maskL l t).testBit j && p (t, j)) := by
  rw [maskL_bit, maskL_bit, Bool.eq_iff_iff]
  simp [List.mem_filter]

/-- How many flips of a list are at one of some steps. -/
def hitN (a : List Fl) (ts : List Int) : Nat := (a.filter fun x => ts.contains x.1).length

theorem hitN_more (a : List Fl) (ts : List Int) (t : Int) : hitN a (ts ++ [t]) = hitN a ts + if ts.contains t = true then 0 else (atL a t).length := by
  unfold hitN atL
  by_cases h : ts.contains t = true
  · rw [if_pos h, Nat.add_zero]
    congr 1
    refine List.filter_congr fun x _ => ?_
    by_cases e : x.1 = t
    · subst e; simp at h; simp [h]
    · simp [e]
  · rw [if_neg h]
    induction a with
    | nil => rfl
    | cons x a ih =>
      rw [List.filter_cons, List.filter_cons, List.filter_cons]
      by_cases e : x.1 = t
      · have h1 : (ts ++ [t]).contains x.1 = true := by simp [e]
        have h2 : ts.contains x.1 = false := by rw [e]; simpa using h
        have h3 : (x.1 == t) = true := by simp [e]
        rw [if_pos h1, h2, if_pos h3]
        simp only [List.length_cons, Bool.false_eq_true, if_false]
        omega
      · have h3 : (x.1 == t) = false := by simpa using e
        have h1 : (ts ++ [t]).contains x.1 = ts.contains x.1 := by simp [e]
        rw [h1, h3]
        by_cases h4 : ts.contains x.1 = true
        · rw [if_pos h4, if_pos h4]; simp only [List.length_cons, Bool.false_eq_true, if_false]; omega
        · rw [if_neg h4, if_neg h4]; simp only [Bool.false_eq_true, if_false]; exact ih

theorem hitN_all {a : List Fl} {ts : List Int} (h : ∀ x ∈ a, x.1 ∈ ts) : hitN a ts = a.length := by
  unfold hitN
  rw [List.filter_eq_self.2 (fun x hx => by simpa using h x hx)]
end Go.Proofs.Ytoeeaohgihipgaa
