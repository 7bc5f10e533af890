/-
  Plain mathematics of layer 5: right lists.
-/
import Derived.Test.YtoeeaohgihipgaaM5
namespace Go.Proofs.Ytoeeaohgihipgaa

/-- A right list. -/
def RightP (l : List Fl) : Prop := l.length ≤ 100000 ∧ AllF l ∧ Sor l
open Classical in
noncomputable def rightB (l : List Fl) : Bool := decide (RightP l)
theorem rightB_iff (l : List Fl) : rightB l = true ↔ RightP l := by unfold rightB; simp
theorem rightB_true {l : List Fl} (h : RightP l) : rightB l = true := (rightB_iff l).2 h
theorem rightB_false {l : List Fl} (h : ¬ RightP l) : rightB l = false := by
  cases hb : rightB l with
  | false => rfl
  | true => exact absurd ((rightB_iff l).1 hb) h

theorem allF_iff (l : List Fl) : AllF l ↔ l.all isF = true := by simp [AllF]

theorem sor_get {l : List Fl} (h : Sor l) {i j : Nat} {x y : Fl} (hij : i < j) (hx : l[i]? = some x) (hy : l[j]? = some y) : ltF x y = true := by
  obtain ⟨hi, rfl⟩ := List.getElem?_eq_some_iff.1 hx
  obtain ⟨hj, rfl⟩ := List.getElem?_eq_some_iff.1 hy
  exact (List.pairwise_iff_getElem.1 h) i j hi hj hij

theorem sor_of_get {l : List Fl} (h : ∀ (i j : Nat) (x y : Fl), i < j → l[i]? = some x → l[j]? = some y → ltF x y = true) : Sor l :=
  List.pairwise_iff_getElem.2 fun i j hi hj hij => h i j _ _ hij (List.getElem?_eq_getElem hi) (List.getElem?_eq_getElem hj)

theorem sor_take {l : List Fl} (h : Sor l) (k : Nat) : Sor (l.take k) := h.sublist (List.take_sublist _ _)
theorem sor_drop {l : List Fl} (h : Sor l) (k : Nat) : Sor (l.drop k) := h.sublist (List.drop_sublist _ _)

theorem sor_step {l : List Fl} {k : Nat} {x y : Fl} (h : Sor (l.take (k + 1))) (hx : l[k]? = some x) (hy : l[k + 1]? = some y) (hlt : ltF x y = true) : Sor (l.take (k + 2)) := by
  rw [take_more hy]
  refine List.pairwise_append.2 ⟨h, by simp, fun z hz b hb => ?_⟩
  obtain rfl : b = y := by simpa using hb
  rw [take_more hx] at hz h
  rcases List.mem_append.1 hz with hz | hz
  · have := (List.pairwise_append.1 h).2.2 z hz x (by simp)
    exact ltF_trans this hlt
  · obtain rfl : z = x := by simpa using hz
    exact hlt

theorem sor_not {l : List Fl} {k : Nat} {x y : Fl} (hx : l[k]? = some x) (hy : l[k + 1]? = some y) (h : ltF x y = false) : ¬ Sor l := fun hs => by
  rw [sor_get hs (Nat.lt_succ_self k) hx hy] at h; cases h

theorem sor_one (l : List Fl) : Sor (l.take 1) := by
  match l with
  | [] => simp [Sor]
  | x :: l => simp [Sor]

theorem cmpF_geq (x y : Fl) : decide (0 ≤ cmpF x y) = !ltF x y := by
  unfold cmpF
  cases h : ltF x y with
  | true => simp
  | false => cases h2 : ltF y x <;> simp
end Go.Proofs.Ytoeeaohgihipgaa
