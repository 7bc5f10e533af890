/-
  Plain mathematics of layer 11: the filters of identifiers let in just these.
-/
import Derived.Test.YtmaklneiedljjaaM11c
namespace Go.Proofs.Ytmaklneiedljjaa
set_option linter.unusedVariables false

theorem and_top {id : Nat} {e : Bool} (h : id ≤ topF e) : id &&& topF e = id := by
  cases e
  · have : id < 2 ^ 11 := by simp [topF] at h; omega
    show id &&& (2 ^ 11 - 1) = id
    rw [Nat.and_two_pow_sub_one_eq_mod, Nat.mod_eq_of_lt this]
  · have : id < 2 ^ 29 := by simp [topF] at h; omega
    show id &&& (2 ^ 29 - 1) = id
    rw [Nat.and_two_pow_sub_one_eq_mod, Nat.mod_eq_of_lt this]
theorem top_bits {e : Bool} {x : Nat} (h : x ≤ topF e) : ∀ k, x.testBit k = true → (topF e).testBit k = true := fun k hk => by
  have := and_top h
  rw [← this, Nat.testBit_and, Bool.and_eq_true] at hk
  exact hk.2
theorem mkFo_ok {e : Bool} {x : Nat} (h : x ≤ topF e) : (mkFo e x).Ok := ⟨topF_lt e, Nat.lt_of_le_of_lt h (topF_lt e)⟩
theorem mkFo_right {e : Bool} {x : Nat} (h : x ≤ topF e) : rightF (mkFo e x) = true := by
  rw [rightF_iff (mkFo_ok h)]
  exact ⟨Nat.le_refl _, top_bits h⟩
theorem mkFo_lets {e e' : Bool} {x id : Nat} (h : x ≤ topF e) (hi : id ≤ topF e) : letsF id e' (mkFo e x) = (decide (e = e') && decide (id = x)) := by
  unfold letsF
  rw [mkFo_right h]
  show (true && (e == e') && decide (id &&& topF e = x)) = _
  rw [and_top hi, Bool.true_and]
  congr 1
theorem only_any_eq {e e' : Bool} {id : Nat} (hi : id ≤ topF e) : ∀ {u : List Nat}, (∀ x ∈ u, x ≤ topF e) → anyF id e' (u.map (mkFo e)) = (decide (e = e') && decide (id ∈ u))
  | [], _ => by simp [anyF]
  | x :: u, h => by
    have ih := only_any_eq (e' := e') hi (u := u) (fun y hy => h y (by simp [hy]))
    have h1 := mkFo_lets (e' := e') (h x (by simp)) hi
    show (letsF id e' (mkFo e x) || anyF id e' (u.map (mkFo e))) = _
    rw [h1, ih]
    by_cases a : e = e' <;> by_cases b : id = x <;> by_cases c : id ∈ u <;> simp [a, b, c]
theorem only_first {e : Bool} {id : Nat} (hi : id ≤ topF e) {u : List Nat} (h : ∀ x ∈ u, x ≤ topF e) (hm : id ∈ u) :
    ∃ i, i < u.length ∧ fiF id e (u.map (mkFo e)) = (i : Int) ∧ (u.map (mkFo e))[i]? = some (mkFo e id) := by
  have ha : anyF id e (u.map (mkFo e)) = true := by rw [only_any_eq hi h]; simp [hm]
  have hlt : (u.map (mkFo e)).findIdx (letsF id e) < (u.map (mkFo e)).length := by
    rw [anyF, List.any_eq_true] at ha
    obtain ⟨x, hx, hp⟩ := ha
    exact List.findIdx_lt_length_of_exists ⟨x, hx, hp⟩
  refine ⟨(u.map (mkFo e)).findIdx (letsF id e), by simpa using hlt, by rw [fiF, if_pos ha], ?_⟩
  have hp := List.findIdx_getElem (w := hlt)
  rw [List.getElem?_eq_getElem hlt]
  congr 1
  have hlt' : (u.map (mkFo e)).findIdx (letsF id e) < u.length := by simpa using hlt
  rw [List.getElem_map] at hp ⊢
  rw [mkFo_lets (h _ (List.getElem_mem _)) hi] at hp
  have h2 := of_decide_eq_true (Bool.and_eq_true_iff.1 hp).2
  rw [← h2]

def lowL (e : Bool) (l : List Nat) : List Nat := l.map (· &&& topF e)
theorem lowL_le {e : Bool} {l : List Nat} : ∀ x ∈ lowL e l, x ≤ topF e := fun x hx => by
  obtain ⟨y, _, rfl⟩ := List.mem_map.1 hx
  exact Nat.and_le_right
theorem low_onlyE {e : Bool} {l : List Nat} (h : l.length ≤ 40) : onlyE e (lowL e l) = 0 := by
  unfold onlyE
  rw [if_neg, if_neg]
  · have := uqL_length (lowL e l)
    simp [lowL] at this ⊢
    omega
  · rw [Bool.not_eq_true, List.any_eq_false]
    intro x hx
    have := lowL_le x hx
    simp; omega
theorem uqL_nil {l : List Nat} : uqL l = [] ↔ l = [] := by
  constructor
  · intro h
    cases l with
    | nil => rfl
    | cons x l =>
      have := (uqL_mem x (x :: l)).2 (by simp)
      rw [h] at this; simp at this
  · rintro rfl; rfl
end Go.Proofs.Ytmaklneiedljjaa
