/-
  Plain mathematics of layer 11: what a filter lets in that another one covers; and the bit that shows that it does not.
-/
import Derived.Test.YtmaklneiedljjaaM11e
namespace Go.Proofs.Ytmaklneiedljjaa
set_option linter.unusedVariables false

/-- What B lets in, out of any number. -/
def inF (B : Fi) (id : Nat) : Nat := (B.mat ||| (id &&& (4294967295 - B.mask))) &&& topF B.ext
theorem not_bit {m : Nat} (hm : m < 4294967296) (k : Nat) : (4294967295 - m).testBit k = (decide (k < 32) && !m.testBit k) := by
  have e : 4294967295 - m = 2 ^ 32 - (m + 1) := by
    have : (2 : Nat) ^ 32 = 4294967296 := by decide
    omega
  rw [e, Nat.testBit_two_pow_sub_succ (by simpa using hm)]
theorem inF_bit {B : Fi} (hB : B.Ok) (id k : Nat) : (inF B id).testBit k = ((B.mat.testBit k || (id.testBit k && (decide (k < 32) && !B.mask.testBit k))) && (topF B.ext).testBit k) := by
  unfold inF
  rw [Nat.testBit_and, Nat.testBit_or, Nat.testBit_and, not_bit hB.1]
theorem inF_lt (B : Fi) (id : Nat) : inF B id < 4294967296 := Nat.lt_of_le_of_lt Nat.and_le_right (topF_lt _)
/-- Where B asks, it is what B asks for. -/
theorem inF_at {B : Fi} (hB : B.Ok) (hr : rightF B = true) (id : Nat) {k : Nat} (hk : B.mask.testBit k = true) : (inF B id).testBit k = B.mat.testBit k := by
  rw [inF_bit hB, hk, top_bits ((rightF_iff hB).1 hr).1 k hk]; simp

theorem cov_in {B : Fi} (hB : B.Ok) (hr : rightF B = true) (id : Nat) : letsF (inF B id) B.ext B = true := by
  rw [letsF_iff hB]
  refine ⟨hr, rfl, fun k => ?_⟩
  cases hk : B.mask.testBit k
  · cases hm : B.mat.testBit k
    · simp
    · have := ((rightF_iff hB).1 hr).2 k hm; rw [hk] at this; cases this
  · rw [inF_at hB hr id hk, Bool.and_true]
theorem cov_lets {A B : Fi} (hA : A.Ok) (hB : B.Ok) (h : coversF A B = true) (id : Nat) : letsF (inF B id) B.ext A = true := by
  obtain ⟨h1, h2, h3, h4, h5⟩ := (coversF_iff hA hB).1 h
  rw [letsF_iff hA]
  refine ⟨h1, h3, fun k => ?_⟩
  rw [← h5 k]
  cases hk : A.mask.testBit k
  · simp
  · rw [inF_at hB h2 id (h4 k hk)]
theorem cov_trans {A B C : Fi} (hA : A.Ok) (hB : B.Ok) (hC : C.Ok) (h : coversF A B = true) (k : coversF B C = true) : coversF A C = true := by
  obtain ⟨h1, h2, h3, h4, h5⟩ := (coversF_iff hA hB).1 h
  obtain ⟨k1, k2, k3, k4, k5⟩ := (coversF_iff hB hC).1 k
  rw [coversF_iff hA hC]
  refine ⟨h1, k2, h3.trans k3, fun j hj => k4 j (h4 j hj), fun j => ?_⟩
  cases hj : A.mask.testBit j
  · have := h5 j; rw [hj] at this; simpa using this
  · have e1 := h5 j
    have e2 := k5 j
    rw [hj, Bool.and_true] at e1
    rw [h4 j hj, Bool.and_true] at e2
    rw [Bool.and_true, e2, e1]
theorem cov_self {A : Fi} (hA : A.Ok) (hr : rightF A = true) : coversF A A = true := by
  rw [coversF_iff hA hA]
  refine ⟨hr, hr, rfl, fun _ h => h, fun k => ?_⟩
  cases hm : A.mat.testBit k
  · rfl
  · rw [((rightF_iff hA).1 hr).2 k hm]; rfl
theorem cov_anti {A B : Fi} (hA : A.Ok) (hB : B.Ok) (h : coversF A B = true) (k : coversF B A = true) : A = B := by
  obtain ⟨h1, h2, h3, h4, h5⟩ := (coversF_iff hA hB).1 h
  obtain ⟨k1, k2, k3, k4, k5⟩ := (coversF_iff hB hA).1 k
  have em : A.mask = B.mask := Nat.eq_of_testBit_eq fun j => by
    cases hj : B.mask.testBit j
    · cases hi : A.mask.testBit j
      · rfl
      · rw [h4 j hi] at hj; cases hj
    · exact k4 j hj
  have et : A.mat = B.mat := Nat.eq_of_testBit_eq fun j => by
    have e1 := h5 j
    have e2 := k5 j
    cases hj : A.mask.testBit j
    · rw [hj, Bool.and_false] at e1
      rw [← em, hj, Bool.and_false] at e2
      rw [← e1, ← e2]
    · rw [hj, Bool.and_true] at e1
      exact e1.symm
  cases A; cases B
  simp only at h3 em et
  subst h3 em et
  rfl

/-- What is shown behind k bits. -/
def shF (A B : Fi) (Z : Nat) : Nat → Bool
  | 0 => !letsF B.mat B.ext A
  | k + 1 => if (A.mask &&& (4294967295 - B.mask)) &&& 2 ^ k = 0 then shF A B Z k else (shF A B Z k || !letsF Z B.ext A || !letsF (Z ^^^ 2 ^ k) B.ext A)
theorem shF_mono {A B : Fi} {Z k : Nat} (h : shF A B Z k = true) : ∀ j, shF A B Z (k + j) = true := by
  intro j
  induction j with
  | zero => exact h
  | succ j ih =>
    show shF A B Z ((k + j) + 1) = true
    unfold shF
    split
    · exact ih
    · rw [ih]; rfl
theorem shF_all {A B : Fi} (hA : A.Ok) (hB : B.Ok) (hrA : rightF A = true) (hrB : rightF B = true) (he : A.ext = B.ext) (h : coversF A B = false) (Z : Nat) : shF A B Z 29 = true := by
  by_cases hsub : ∀ k, A.mask.testBit k = true → B.mask.testBit k = true
  · have h0 : shF A B Z 0 = true := by
      show (!letsF B.mat B.ext A) = true
      cases hl : letsF B.mat B.ext A
      · rfl
      · have := (letsF_iff hA B.mat B.ext).1 hl
        have hc := (coversF_iff hA hB).2 ⟨hrA, hrB, he, hsub, this.2.2⟩
        rw [hc] at h; cases h
    have := shF_mono h0 29
    simpa using this
  · obtain ⟨k, hk1, hk2⟩ : ∃ k, A.mask.testBit k = true ∧ B.mask.testBit k = false := by
      apply Classical.byContradiction
      intro hn
      apply hsub
      intro k hk
      cases hb : B.mask.testBit k
      · exact absurd ⟨k, hk, hb⟩ hn
      · rfl
    have hk29 : k < 29 := by
      have := top_bits ((rightF_iff hA).1 hrA).1 k hk1
      rw [topF_bit] at this
      have h2 := of_decide_eq_true this
      cases he' : A.ext <;> simp [he'] at h2 <;> omega
    have h1 : shF A B Z (k + 1) = true := by
      unfold shF
      rw [if_neg]
      · cases h2 : letsF Z B.ext A
        · simp
        · have e2 := ((letsF_iff hA Z B.ext).1 h2).2.2 k
          cases h3 : letsF (Z ^^^ 2 ^ k) B.ext A
          · simp
          · have e3 := ((letsF_iff hA (Z ^^^ 2 ^ k) B.ext).1 h3).2.2 k
            rw [Nat.testBit_xor, Nat.testBit_two_pow_self] at e3
            rw [hk1, Bool.and_true] at e2 e3
            rw [← e2] at e3
            cases hz : Z.testBit k <;> rw [hz] at e3 <;> cases e3
      · intro h0
        have := (and_bit0 _ _).1 h0
        rw [Nat.testBit_and, hk1, not_bit hB.1, hk2] at this
        have h32 : k < 32 := by omega
        simp [h32] at this
    have := shF_mono h1 (28 - k)
    rwa [show k + 1 + (28 - k) = 29 by omega] at this
end Go.Proofs.Ytmaklneiedljjaa
