/-
  Plain mathematics of layer 5: lists of flips, their order, what is there an odd number of times. Nothing of the program is spoken of here.
-/
import Derived.Test.YtoeeaohgihipgaaRows
namespace Go.Proofs.Ytoeeaohgihipgaa

/-- A flip: its step and its node. -/
abbrev Fl := Int × Nat

/-- One flip is ahead of another one. -/
def ltF (x y : Fl) : Bool := decide (x.1 < y.1 ∨ (x.1 = y.1 ∧ x.2 < y.2))
/-- It is a flip. -/
def isF (x : Fl) : Bool := decide (0 ≤ x.1 ∧ x.1 ≤ 1099511627776 ∧ x.2 ≤ 31)
def AllF (l : List Fl) : Prop := ∀ x ∈ l, isF x = true
/-- Sorted, without duplicates. -/
def Sor (l : List Fl) : Prop := l.Pairwise fun x y => ltF x y = true

theorem ltF_iff (x y : Fl) : ltF x y = true ↔ x.1 < y.1 ∨ (x.1 = y.1 ∧ x.2 < y.2) := by simp [ltF]
theorem ltF_no (x y : Fl) : ltF x y = false ↔ ¬ (x.1 < y.1 ∨ (x.1 = y.1 ∧ x.2 < y.2)) := by simp [ltF]
theorem isF_iff (x : Fl) : isF x = true ↔ 0 ≤ x.1 ∧ x.1 ≤ 1099511627776 ∧ x.2 ≤ 31 := by simp [isF]
theorem ltF_irrefl (x : Fl) : ltF x x = false := by simp [ltF]
theorem ltF_trans {x y z : Fl} (h1 : ltF x y = true) (h2 : ltF y z = true) : ltF x z = true := by
  rw [ltF_iff] at *; omega
theorem ltF_ntrans {x y z : Fl} (h1 : ltF x y = false) (h2 : ltF y z = false) : ltF x z = false := by
  rw [ltF_no] at *; omega
theorem ltF_asymm {x y : Fl} (h : ltF x y = true) : ltF y x = false := by
  rw [ltF_iff] at h; rw [ltF_no]; omega
theorem ltF_tri {x y : Fl} (h1 : ltF x y = false) (h2 : ltF y x = false) : x = y := by
  rw [ltF_no] at *
  have : x.1 = y.1 ∧ x.2 = y.2 := by omega
  exact Prod.ext this.1 this.2
theorem ltF_ne {x y : Fl} (h : ltF x y = true) : x ≠ y := fun e => by rw [e, ltF_irrefl] at h; cases h

theorem Sor.nil : Sor [] := List.Pairwise.nil
theorem sor_cons {x : Fl} {l : List Fl} : Sor (x :: l) ↔ (∀ y ∈ l, ltF x y = true) ∧ Sor l := List.pairwise_cons

/-- Two sorted lists with the same flips are the same. -/
theorem sor_ext : ∀ {l m : List Fl}, Sor l → Sor m → (∀ x, x ∈ l ↔ x ∈ m) → l = m
  | [], [], _, _, _ => rfl
  | [], y :: m, _, _, h => by have := (h y).2 (by simp); simp at this
  | x :: l, [], _, _, h => by have := (h x).1 (by simp); simp at this
  | x :: l, y :: m, hl, hm, h => by
    rw [sor_cons] at hl hm
    have e : x = y := by
      rcases List.mem_cons.1 ((h x).1 (by simp)) with e | hx
      · exact e
      · rcases List.mem_cons.1 ((h y).2 (by simp)) with e | hy
        · exact e.symm
        · have := ltF_asymm (hl.1 y hy)
          rw [hm.1 x hx] at this
          cases this
    subst e
    refine congrArg (x :: ·) (sor_ext hl.2 hm.2 fun z => ⟨fun hz => ?_, fun hz => ?_⟩)
    · rcases List.mem_cons.1 ((h z).1 (by simp [hz])) with e | h'
      · exact absurd e (ltF_ne (hl.1 z hz)).symm
      · exact h'
    · rcases List.mem_cons.1 ((h z).2 (by simp [hz])) with e | h'
      · exact absurd e (ltF_ne (hm.1 z hz)).symm
      · exact h'

/-- A list with a flip more, or, if it had it, less. -/
def turnL : List Fl → Fl → List Fl
  | [], x => [x]
  | y :: l, x => if y = x then l else if ltF x y = true then x :: y :: l else y :: turnL l x

theorem mem_turnL : ∀ {l : List Fl} (x z : Fl), Sor l → (z ∈ turnL l x ↔ if z = x then x ∉ l else z ∈ l)
  | [], x, z, _ => by simp [turnL]
  | y :: l, x, z, h => by
    rw [sor_cons] at h
    unfold turnL
    by_cases hy : y = x
    · subst hy
      have hn : y ∉ l := fun hy => ltF_ne (h.1 y hy) rfl
      by_cases hz : z = y
      · subst hz; simp [hn]
      · simp [hz]
    · rw [if_neg hy]
      by_cases hlt : ltF x y = true
      · rw [if_pos hlt]
        have hn : x ∉ y :: l := fun hx => by
          rcases List.mem_cons.1 hx with e | hx
          · exact hy e.symm
          · have := ltF_asymm (ltF_trans hlt (h.1 x hx))
            rw [ltF_trans hlt (h.1 x hx)] at this; cases this
        by_cases hz : z = x
        · subst hz; simp [hn]
        · simp [hz]
      · rw [if_neg hlt, List.mem_cons, mem_turnL x z h.2]
        by_cases hz : z = x
        · subst hz
          simp only [if_true, List.mem_cons, not_or]
          exact ⟨fun h' => by
            rcases h' with e | h'
            · exact absurd e.symm hy
            · exact ⟨fun e => hy e.symm, h'⟩, fun h' => .inr h'.2⟩
        · simp [hz]

theorem sor_turnL : ∀ {l : List Fl} (x : Fl), Sor l → Sor (turnL l x)
  | [], x, _ => by simp [turnL, Sor]
  | y :: l, x, h => by
    have h' := h
    rw [sor_cons] at h
    unfold turnL
    by_cases hy : y = x
    · rw [if_pos hy]; exact h.2
    · rw [if_neg hy]
      by_cases hlt : ltF x y = true
      · rw [if_pos hlt, sor_cons]
        exact ⟨fun z hz => by
          rcases List.mem_cons.1 hz with rfl | hz
          · exact hlt
          · exact ltF_trans hlt (h.1 z hz), h'⟩
      · rw [if_neg hlt, sor_cons]
        refine ⟨fun z hz => ?_, sor_turnL x h.2⟩
        rw [mem_turnL x z h.2] at hz
        by_cases e : z = x
        · subst e
          cases h1 : ltF y z with
          | true => rfl
          | false => exact absurd (ltF_tri h1 (by simpa using hlt)) hy
        · rw [if_neg e] at hz
          exact h.1 z hz

/-- The right list of those flips that are there an odd number of times. -/
def mkL (l : List Fl) : List Fl := l.foldl turnL []

theorem mkL_snoc (l : List Fl) (x : Fl) : mkL (l ++ [x]) = turnL (mkL l) x := by simp [mkL, List.foldl_append]

theorem mkL_facts (l : List Fl) : Sor (mkL l) ∧ ∀ z, z ∈ mkL l ↔ l.count z % 2 = 1 := by
  have key : ∀ n (l : List Fl), l.length = n → Sor (mkL l) ∧ ∀ z, z ∈ mkL l ↔ l.count z % 2 = 1 := by
    intro n
    induction n with
    | zero => intro l h; obtain rfl := List.eq_nil_of_length_eq_zero h; exact ⟨Sor.nil, fun z => by simp [mkL]⟩
    | succ n ih =>
      intro l h
      obtain ⟨m, x, rfl⟩ : ∃ m x, l = m ++ [x] := by
        refine ⟨l.dropLast, l.getLast (by intro e; simp [e] at h), (List.dropLast_concat_getLast _).symm⟩
      obtain ⟨h1, h2⟩ := ih m (by simpa using h)
      rw [mkL_snoc]
      refine ⟨sor_turnL x h1, fun z => ?_⟩
      rw [mem_turnL x z h1, h2, List.count_append]
      by_cases e : z = x
      · subst e
        simp [h2]
        omega
      · have : (x == z) = false := by simpa using fun e' : x = z => e e'.symm
        simp [e, List.count_cons, this]
        exact h2 z
  exact key _ l rfl

theorem sor_mkL (l : List Fl) : Sor (mkL l) := (mkL_facts l).1
theorem mem_mkL (l : List Fl) (z : Fl) : z ∈ mkL l ↔ l.count z % 2 = 1 := (mkL_facts l).2 z

theorem mem_of_mkL {l : List Fl} {z : Fl} (h : z ∈ mkL l) : z ∈ l := by
  rw [mem_mkL] at h
  exact List.count_pos_iff.1 (by omega)

theorem turnL_length (l : List Fl) (x : Fl) : (turnL l x).length ≤ l.length + 1 := by
  induction l with
  | nil => simp [turnL]
  | cons y l ih =>
    unfold turnL
    split
    · simp; omega
    · split
      · simp
      · simp; exact ih

theorem mkL_length (l : List Fl) : (mkL l).length ≤ l.length := by
  have key : ∀ (l acc : List Fl), (l.foldl turnL acc).length ≤ acc.length + l.length := by
    intro l
    induction l with
    | nil => intro acc; simp
    | cons x l ih => intro acc; have := ih (turnL acc x); have := turnL_length acc x; simp; omega
  have := key l []
  simpa [mkL] using this

theorem allF_mkL {l : List Fl} (h : AllF l) : AllF (mkL l) := fun x hx => h x (mem_of_mkL hx)

/-- What is left of a sorted list when of each two that are the same both are taken away. -/
def oddR : List Fl → List Fl
  | [] => []
  | [x] => [x]
  | x :: y :: l => if x = y then oddR l else x :: oddR (y :: l)

/-- Ascending; some may be the same. -/
def Asc (l : List Fl) : Prop := l.Pairwise fun x y => ltF y x = false

theorem oddR_facts : ∀ n (l : List Fl), l.length ≤ n → Asc l → Sor (oddR l) ∧ ∀ z, z ∈ oddR l ↔ l.count z % 2 = 1 := by
  intro n
  induction n with
  | zero => intro l h _; obtain rfl := List.eq_nil_of_length_eq_zero (by omega : l.length = 0); exact ⟨Sor.nil, fun z => by simp [oddR]⟩
  | succ n ih =>
    intro l h ha
    match l, h, ha with
    | [], _, _ => exact ⟨Sor.nil, fun z => by simp [oddR]⟩
    | [x], _, _ =>
      refine ⟨by simp [oddR, Sor], fun z => ?_⟩
      by_cases e : z = x
      · subst e; simp [oddR]
      · have : (x == z) = false := by simpa using fun e' : x = z => e e'.symm
        simp [oddR, List.count_cons, this, e]
    | x :: y :: l, h, ha =>
      unfold oddR
      have ha1 := List.pairwise_cons.1 ha
      have ha2 := List.pairwise_cons.1 ha1.2
      by_cases e : x = y
      · subst e
        rw [if_pos rfl]
        obtain ⟨i1, i2⟩ := ih l (by simp at h; omega) ha2.2
        refine ⟨i1, fun z => ?_⟩
        rw [i2, List.count_cons, List.count_cons]
        omega
      · rw [if_neg e]
        obtain ⟨i1, i2⟩ := ih (y :: l) (by simp at h; simp; omega) ha1.2
        have hxy : ltF x y = true := by
          cases h1 : ltF x y with
          | true => rfl
          | false => exact absurd (ltF_tri h1 (ha1.1 y (by simp))) e
        have hall : ∀ z ∈ y :: l, ltF x z = true := fun z hz => by
          rcases List.mem_cons.1 hz with rfl | hz
          · exact hxy
          · cases h1 : ltF x z with
            | true => rfl
            | false =>
              have := ltF_ntrans h1 (ha2.1 z hz)
              rw [hxy] at this; cases this
        have hmem : ∀ z ∈ oddR (y :: l), z ∈ y :: l := fun z hz => List.count_pos_iff.1 (by rw [i2] at hz; omega)
        refine ⟨sor_cons.2 ⟨fun z hz => hall z (hmem z hz), i1⟩, fun z => ?_⟩
        have hc : (x :: y :: l).count z = (y :: l).count z + if x == z then 1 else 0 := List.count_cons
        rw [List.mem_cons, i2, hc]
        by_cases ez : z = x
        · subst ez
          have : (y :: l).count z = 0 := List.count_eq_zero.2 fun hz => ltF_ne (hall z hz) rfl
          simp [this]
        · have : (x == z) = false := by simpa using fun e' : x = z => ez e'.symm
          simp [ez, this]

/-- Of a permutation that is ascending it is the right list. -/
theorem oddR_eq {l s : List Fl} (hp : s.Perm l) (ha : Asc s) : oddR s = mkL l := by
  obtain ⟨h1, h2⟩ := oddR_facts _ s (Nat.le_refl _) ha
  exact sor_ext h1 (sor_mkL l) fun z => by rw [h2, mem_mkL, hp.count_eq]

/-- The library's sort, by the order of flips. -/
def srt (l : List Fl) : List Fl := l.mergeSort fun x y => !ltF y x

theorem srt_perm (l : List Fl) : (srt l).Perm l := List.mergeSort_perm _ _
theorem srt_asc (l : List Fl) : Asc (srt l) := by
  have h := List.pairwise_mergeSort (le := fun x y => !ltF y x) (fun a b c h1 h2 => by
    simp at h1 h2 ⊢
    exact ltF_ntrans h2 h1) (fun a b => by
    cases h1 : ltF b a with
    | false => simp
    | true => simp [ltF_asymm h1]) l
  exact h.imp fun h => by simpa using h
theorem oddR_srt (l : List Fl) : oddR (srt l) = mkL l := oddR_eq (srt_perm l) (srt_asc l)
theorem srt_length (l : List Fl) : (srt l).length = l.length := (srt_perm l).length_eq

theorem take_more {α : Type} {l : List α} {i : Nat} {x : α} (hx : l[i]? = some x) : l.take (i + 1) = l.take i ++ [x] := by
  rw [List.take_add_one, hx]; rfl

theorem drop_one {α : Type} {l : List α} {i : Nat} {x : α} (hx : l[i]? = some x) : l.drop i = x :: l.drop (i + 1) := by
  obtain ⟨h, e⟩ := List.getElem?_eq_some_iff.1 hx
  rw [List.drop_eq_getElem_cons h, e]

theorem oddR_last {l : List Fl} {i : Nat} {x : Fl} (hx : l[i]? = some x) (h : l.length ≤ i + 1) : oddR (l.drop i) = [x] ++ oddR (l.drop (i + 1)) := by
  rw [drop_one hx, List.drop_of_length_le h]; rfl
theorem oddR_twin {l : List Fl} {i : Nat} {x : Fl} (hx : l[i]? = some x) (hy : l[i + 1]? = some x) : oddR (l.drop i) = oddR (l.drop (i + 2)) := by
  rw [drop_one hx, drop_one hy, oddR, if_pos rfl]
theorem oddR_lone {l : List Fl} {i : Nat} {x y : Fl} (hx : l[i]? = some x) (hy : l[i + 1]? = some y) (h : ¬ x = y) : oddR (l.drop i) = [x] ++ oddR (l.drop (i + 1)) := by
  rw [drop_one hx, drop_one hy, oddR, if_neg h]; rfl

/-- Comparing as the program does. -/
def cmpF (x y : Fl) : Int := if ltF x y = true then -1 else if ltF y x = true then 1 else 0

theorem cmpF_lt (x y : Fl) : decide (cmpF x y < 0) = ltF x y := by
  unfold cmpF
  cases h : ltF x y with
  | true => simp
  | false => cases h2 : ltF y x <;> simp
theorem cmpF_eq (x y : Fl) : cmpF x y = 0 ↔ x = y := by
  unfold cmpF
  cases h : ltF x y with
  | true => simp; exact ltF_ne h
  | false =>
    cases h2 : ltF y x with
    | true => simp; exact fun e => ltF_ne h2 e.symm
    | false => simp; exact ltF_tri h h2

end Go.Proofs.Ytoeeaohgihipgaa
