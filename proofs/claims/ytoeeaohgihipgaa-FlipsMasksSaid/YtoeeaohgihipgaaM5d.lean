/-
  Plain mathematics of layer 5: a mask, read from where its step begins.
-/
import Derived.Test.YtoeeaohgihipgaaM5c
namespace Go.Proofs.Ytoeeaohgihipgaa

theorem maskL_cut {l : List Fl} {t : Int} {i : Nat} (hlo : ∀ k x, k < i → l[k]? = some x → ltF x (t, 0) = true) : maskL (l.drop i) t = maskL l t := by
  have e := maskL_append (l.take i) (l.drop i) t
  rw [List.take_append_drop] at e
  rw [e, maskL_none (l := l.take i), Nat.zero_or]
  intro x hx
  obtain ⟨k, hk⟩ := List.mem_iff_getElem?.1 hx
  rw [List.getElem?_take] at hk
  split at hk
  · have := hlo k x (by assumption) hk
    rw [ltF_iff] at this
    simp at this
    omega
  · cases hk

theorem maskL_stop {l : List Fl} {t : Int} {k : Nat} {x : Fl} (hs : Sor l) (hge : t ≤ x.1) (hx : l[k]? = some x) (hne : x.1 ≠ t) : maskL (l.take k) t = maskL l t := by
  have e := maskL_append (l.take k) (l.drop k) t
  rw [List.take_append_drop] at e
  rw [e, maskL_none (l := l.drop k), Nat.or_zero]
  intro y hy
  obtain ⟨i, hi⟩ := List.mem_iff_getElem?.1 hy
  rw [List.getElem?_drop] at hi
  have := sor_at hs (by omega : k ≤ k + i) hx hi
  omega

theorem ge_of_no {l : List Fl} {t : Int} {i : Nat} (hhi : ∀ k x, i ≤ k → l[k]? = some x → ltF x (t, 0) = false) {k : Nat} {x : Fl} (hx : (l.drop i)[k]? = some x) : t ≤ x.1 := by
  rw [List.getElem?_drop] at hx
  have := hhi (i + k) x (by omega) hx
  rw [ltF_no] at this
  simp at this
  omega
end Go.Proofs.Ytoeeaohgihipgaa
