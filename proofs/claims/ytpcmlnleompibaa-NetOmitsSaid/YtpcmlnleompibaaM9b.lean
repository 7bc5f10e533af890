/-
  Plain mathematics of layer 9: whether the last flag was an error's says nothing while a frame goes over the bus.
-/
import Derived.Test.YtpcmlnleompibaaM9
namespace Go.Proofs.Ytpcmlnleompibaa
set_option linter.unusedVariables false

def wE (c : Ct) (e : Bool) : Ct := { c with err := e }

theorem flag_ge (c : Ct) {what : Nat} (k : Nat) (o : Bool) (h : 4 ≤ what) : 4 ≤ (flagC c what k o).2.1 := by
  unfold flagC
  split
  · show 4 ≤ 10; omega
  · exact h
theorem flag_err (c : Ct) (e : Bool) {what : Nat} (k : Nat) (o : Bool) (h : (flagC c what k o).2.1 < 10) : flagC (wE c e) what k o = flagC c what k o := by
  have hm : (cntC (wE c e) k).cf = (cntC c k).cf := by unfold cntC; split <;> rfl
  unfold flagC at h ⊢
  rw [hm]
  by_cases h2 : moC (cntC c k).cf = 2
  · rw [if_pos h2] at h
    exact absurd h (by show ¬ 10 < 10; omega)
  · rw [if_neg h2, if_neg h2]
    by_cases hk : k = 0
    · rw [show cntC (wE c e) k = wE c e from if_pos hk, show cntC c k = c from if_pos hk]; rfl
    · rw [show cntC (wE c e) k = { wE c e with cf := evC c.cf k } from if_neg hk, show cntC c k = { c with cf := evC c.cf k } from if_neg hk]; rfl

/-- What goes well goes so whatever the last flag was. -/
theorem st_err {c : Ct} (hp : c.ph = 0 ∨ c.ph = 1 ∨ c.ph = 7) (e x : Bool) (hh : (stC c x).2.1 < 4) : stC (wE c e) x = (wE (stC c x).1 e, (stC c x).2) ∧ dvC (wE c e) = dvC c := by
  refine ⟨?_, rfl⟩
  rcases hp with h0 | h1 | h7
  · have e1 : stC c x = idleC c x := by unfold stC; rw [if_pos h0]
    have e2 : stC (wE c e) x = idleC (wE c e) x := by unfold stC; rw [if_pos (show (wE c e).ph = 0 from h0)]
    rw [e1] at hh ⊢
    rw [e2]
    unfold idleC at hh ⊢
    cases x with
    | false => rfl
    | true =>
      have hc : (wE c e).has = c.has := rfl
      rw [hc]
      by_cases hs : c.has = true
      · rw [if_pos rfl, if_pos hs] at hh
        exact absurd hh (by have := flag_ge { c with sender := true } (what := 4) 5 false (by omega); show ¬ (flagC { c with sender := true } 4 5 false).2.1 < 4; omega)
      · rw [if_pos rfl, if_neg hs, if_pos rfl, if_neg hs]
  · have e1 : stC c x = if c.sends then sndC c x else rcvC c x := by unfold stC; rw [if_neg (by omega), if_pos h1]
    have e2 : stC (wE c e) x = if c.sends then sndC (wE c e) x else rcvC (wE c e) x := by
      have h1' : (wE c e).ph = 1 := h1
      unfold stC; rw [if_neg (by omega), if_pos h1']; rfl
    rw [e1] at hh ⊢
    rw [e2]
    cases hs : c.sends with
    | true =>
      rw [hs] at hh
      rw [if_pos rfl] at hh ⊢
      rw [if_pos rfl]
      unfold sndC at hh ⊢
      have f1 : (wE c e).pos = c.pos := rfl
      have f2 : (wE c e).wire = c.wire := rfl
      have f3 : (wE c e).tk = c.tk := rfl
      have f4 : (wE c e).cf = c.cf := rfl
      have f5 : (wE c e).give = c.give := rfl
      rw [f1, f2, f3, f4, f5]
      by_cases c1 : c.pos + 9 = c.wire.length
      · rw [if_pos c1] at hh ⊢
        rw [if_pos c1]
        by_cases c2 : x = false
        · rw [if_pos c2, if_pos c2]; rfl
        · rw [if_neg c2] at hh
          split at hh
          · exact absurd hh (by have := flag_ge c (what := 7) 0 true (by omega); omega)
          · exact absurd hh (by have := flag_ge c (what := 7) (if c.sender then 5 else 1) false (by omega); show ¬ (flagC c 7 (if c.sender then 5 else 1) false).2.1 < 4; omega)
      · rw [if_neg c1] at hh ⊢
        rw [if_neg c1]
        by_cases c2 : c.wire[c.pos]?.getD false = x
        · rw [if_pos c2, if_pos c2]
          split <;> rfl
        · rw [if_neg c2] at hh ⊢
          rw [if_neg c2]
          by_cases c3 : x = true ∨ c.tk.l.length < 1 ∨ (if c.give.ext then 32 else 12) < c.tk.l.length
          · rw [if_pos c3] at hh
            exact absurd hh (by have := flag_ge c (what := 4) (if c.sender then 5 else 1) false (by omega); show ¬ (flagC c 4 (if c.sender then 5 else 1) false).2.1 < 4; omega)
          · rw [if_neg c3] at hh ⊢
            rw [if_neg c3]
            by_cases c4 : c.tk.m = 5
            · rw [if_pos c4] at hh
              exact absurd hh (by have := flag_ge c (what := 5) 0 false (by omega); omega)
            · rw [if_neg c4, if_neg c4]; rfl
    | false =>
      rw [hs] at hh
      rw [if_neg Bool.false_ne_true] at hh ⊢
      rw [if_neg Bool.false_ne_true]
      have key : ∀ (c' : Ct) (what : Nat), 4 ≤ what → ¬ (failC c' what).2.1 < 4 := fun c' what h => by
        have := flag_ge c' (what := what) (if c'.sender then 5 else 1) false h
        show ¬ (flagC c' what (if c'.sender then 5 else 1) false).2.1 < 4; omega
      unfold rcvC at hh ⊢
      have f3 : (wE c e).tk = c.tk := rfl
      have f4 : (wE c e).cf = c.cf := rfl
      rw [f3, f4]
      by_cases n0 : (nxT c.tk x).2 = 0
      · rw [if_pos n0] at hh ⊢
        rw [if_pos n0]
        split at hh
        · exact absurd hh (key _ _ (by omega))
        · rename_i hz
          rw [if_neg hz, if_neg hz]; rfl
      rw [if_neg n0] at hh ⊢
      rw [if_neg n0]
      by_cases n1 : (nxT c.tk x).2 = 1
      · rw [if_pos n1] at hh; exact absurd hh (key _ _ (by omega))
      rw [if_neg n1] at hh ⊢
      rw [if_neg n1]
      by_cases n2 : (nxT c.tk x).2 = 2
      · rw [if_pos n2] at hh; exact absurd hh (key _ _ (by omega))
      rw [if_neg n2] at hh ⊢
      rw [if_neg n2]
      by_cases n3 : (nxT c.tk x).2 = 3
      · rw [if_pos n3] at hh; exact absurd hh (key _ _ (by omega))
      rw [if_neg n3] at hh ⊢
      rw [if_neg n3]
      by_cases n4 : (nxT c.tk x).2 = 4
      · rw [if_pos n4, if_pos n4]; rfl
      rw [if_neg n4] at hh ⊢
      rw [if_neg n4]
      by_cases n5 : (nxT c.tk x).2 = 5
      · rw [if_pos n5] at hh; exact absurd hh (by show ¬ 9 < 4; omega)
      rw [if_neg n5, if_neg n5]; rfl
  · have e1 : stC c x = interC c x := by unfold stC; rw [if_neg (by omega), if_neg (by omega), if_neg (by omega), if_neg (by omega), if_neg (by omega), if_neg (by omega), if_pos h7]
    have e2 : stC (wE c e) x = interC (wE c e) x := by
      have h7' : (wE c e).ph = 7 := h7
      unfold stC; rw [if_neg (by omega), if_neg (by omega), if_neg (by omega), if_neg (by omega), if_neg (by omega), if_neg (by omega), if_pos h7']
    rw [e1] at hh ⊢
    rw [e2]
    unfold interC at hh ⊢
    have f1 : (wE c e).n = c.n := rfl
    have f2 : holdC (wE c e) = holdC c := rfl
    have f3 : (wE c e).has = c.has := rfl
    rw [f1, f2, f3]
    cases x with
    | true =>
      by_cases n3 : c.n + 1 = 3
      · simp only [if_pos n3, if_true]; rfl
      · simp only [if_neg n3, if_true]; rfl
    | false =>
      simp only [Bool.false_eq_true, if_false] at hh ⊢
      by_cases n3 : c.n + 1 < 3
      · rw [if_pos n3] at hh; exact absurd hh (by show ¬ 9 < 4; omega)
      · rw [if_neg n3, if_neg n3]; rfl
end Go.Proofs.Ytpcmlnleompibaa
