/-
  Plain mathematics of layer 11: a filter that does not ask a bit, and the two that do.
-/
import Derived.Test.YtmaklneiedljjaaM11d
namespace Go.Proofs.Ytmaklneiedljjaa
set_option linter.unusedVariables false

def nbF (e : Bool) : Nat := if e = true then 29 else 11
theorem sub_top {e : Bool} {m : Nat} (h : ∀ k, m.testBit k = true → (topF e).testBit k = true) : m ≤ topF e := by
  have : m &&& topF e = m := Nat.eq_of_testBit_eq fun k => by
    rw [Nat.testBit_and]
    cases hk : m.testBit k
    · rfl
    · rw [h k hk]; rfl
  rw [← this]; exact Nat.and_le_right
theorem or_bit (m kb k : Nat) : (m ||| 2 ^ kb).testBit k = (m.testBit k || decide (kb = k)) := by rw [Nat.testBit_or, Nat.testBit_two_pow]
theorem and_bit0 (m kb : Nat) : m &&& 2 ^ kb = 0 ↔ m.testBit kb = false := by
  rw [eq_iff]
  constructor
  · intro h
    have := h kb
    rw [Nat.testBit_and, Nat.testBit_two_pow_self, Bool.and_true, Nat.zero_testBit] at this
    exact this
  · intro h k
    rw [Nat.testBit_and, Nat.testBit_two_pow, Nat.zero_testBit]
    by_cases hk : kb = k
    · subst hk; rw [h]; rfl
    · rw [decide_eq_false hk, Bool.and_false]

/-- A filter that asks the bit, for nothing; for something. -/
def oneF (X : Fi) (kb : Nat) : Fi := ⟨X.ext, X.mask ||| 2 ^ kb, X.mat⟩
def twoF (X : Fi) (kb : Nat) : Fi := ⟨X.ext, X.mask ||| 2 ^ kb, X.mat ||| 2 ^ kb⟩
structure Half (X : Fi) (kb : Nat) : Prop where
  ok : X.Ok
  right : rightF X = true
  lt : kb < nbF X.ext
  no : X.mask.testBit kb = false
section
variable {X : Fi} {kb : Nat}
theorem Half.sub (h : Half X kb) : ∀ k, X.mat.testBit k = true → X.mask.testBit k = true := ((rightF_iff h.ok).1 h.right).2
theorem Half.noT (h : Half X kb) : X.mat.testBit kb = false := by
  cases hh : X.mat.testBit kb
  · rfl
  · have := h.sub kb hh
    rw [h.no] at this; cases this
theorem Half.topb (h : Half X kb) : (topF X.ext).testBit kb = true := by rw [topF_bit]; exact decide_eq_true h.lt
theorem Half.or_le (h : Half X kb) {m : Nat} (hm : m ≤ topF X.ext) : m ||| 2 ^ kb ≤ topF X.ext := sub_top fun k hk => by
  rw [or_bit, Bool.or_eq_true] at hk
  rcases hk with hk | hk
  · exact top_bits hm k hk
  · rw [← of_decide_eq_true hk]; exact h.topb
theorem Half.mle (h : Half X kb) : X.mask ≤ topF X.ext := ((rightF_iff h.ok).1 h.right).1
theorem Half.tle (h : Half X kb) : X.mat ≤ topF X.ext := sub_top fun k hk => top_bits h.mle k (h.sub k hk)
theorem Half.ok1 (h : Half X kb) : (oneF X kb).Ok := ⟨Nat.lt_of_le_of_lt (h.or_le h.mle) (topF_lt _), h.ok.2⟩
theorem Half.ok2 (h : Half X kb) : (twoF X kb).Ok := ⟨Nat.lt_of_le_of_lt (h.or_le h.mle) (topF_lt _), Nat.lt_of_le_of_lt (h.or_le h.tle) (topF_lt _)⟩
theorem Half.right1 (h : Half X kb) : rightF (oneF X kb) = true := by
  rw [rightF_iff h.ok1]
  refine ⟨h.or_le h.mle, fun k hk => ?_⟩
  show (X.mask ||| 2 ^ kb).testBit k = true
  rw [or_bit, h.sub k hk]; rfl
theorem Half.right2 (h : Half X kb) : rightF (twoF X kb) = true := by
  rw [rightF_iff h.ok2]
  refine ⟨h.or_le h.mle, fun k hk => ?_⟩
  have hk' : (X.mat ||| 2 ^ kb).testBit k = true := hk
  show (X.mask ||| 2 ^ kb).testBit k = true
  rw [or_bit, Bool.or_eq_true] at hk' ⊢
  exact hk'.imp (h.sub k) id
theorem Half.lets1 (h : Half X kb) (id : Nat) (e : Bool) : letsF id e (oneF X kb) = (letsF id e X && !id.testBit kb) := by
  rw [Bool.eq_iff_iff, Bool.and_eq_true, letsF_iff h.ok1, letsF_iff h.ok]
  have key : ∀ k, (oneF X kb).mask.testBit k = (X.mask.testBit k || decide (kb = k)) := or_bit _ _
  constructor
  · rintro ⟨h1, h2, h3⟩
    refine ⟨⟨h.right, h2, fun k => ?_⟩, ?_⟩
    · by_cases hk : kb = k
      · subst hk; rw [h.no, h.noT, Bool.and_false]
      · have := h3 k
        rw [key, decide_eq_false hk, Bool.or_false] at this
        exact this
    · have := h3 kb
      rw [key, decide_eq_true rfl, Bool.or_true, Bool.and_true] at this
      rw [this]
      show (!X.mat.testBit kb) = true
      rw [h.noT]; rfl
  · rintro ⟨⟨h1, h2, h3⟩, h4⟩
    refine ⟨h.right1, h2, fun k => ?_⟩
    rw [key]
    by_cases hk : kb = k
    · subst hk
      rw [decide_eq_true rfl, Bool.or_true, Bool.and_true]
      show id.testBit kb = X.mat.testBit kb
      rw [h.noT]
      simpa using h4
    · rw [decide_eq_false hk, Bool.or_false]
      exact h3 k
theorem Half.lets2 (h : Half X kb) (id : Nat) (e : Bool) : letsF id e (twoF X kb) = (letsF id e X && id.testBit kb) := by
  rw [Bool.eq_iff_iff, Bool.and_eq_true, letsF_iff h.ok2, letsF_iff h.ok]
  have key : ∀ k, (twoF X kb).mask.testBit k = (X.mask.testBit k || decide (kb = k)) := or_bit _ _
  have key2 : ∀ k, (twoF X kb).mat.testBit k = (X.mat.testBit k || decide (kb = k)) := or_bit _ _
  constructor
  · rintro ⟨h1, h2, h3⟩
    refine ⟨⟨h.right, h2, fun k => ?_⟩, ?_⟩
    · by_cases hk : kb = k
      · subst hk; rw [h.no, h.noT, Bool.and_false]
      · have := h3 k
        rw [key, key2, decide_eq_false hk, Bool.or_false, Bool.or_false] at this
        exact this
    · have := h3 kb
      rw [key, key2, decide_eq_true rfl, Bool.or_true, Bool.or_true, Bool.and_true] at this
      exact this
  · rintro ⟨⟨h1, h2, h3⟩, h4⟩
    refine ⟨h.right2, h2, fun k => ?_⟩
    rw [key, key2]
    by_cases hk : kb = k
    · subst hk
      rw [decide_eq_true rfl, Bool.or_true, Bool.or_true, Bool.and_true]
      exact h4
    · rw [decide_eq_false hk, Bool.or_false, Bool.or_false]
      exact h3 k
theorem Half.cov1 (h : Half X kb) : coversF X (oneF X kb) = true := by
  rw [coversF_iff h.ok h.ok1]
  refine ⟨h.right, h.right1, rfl, fun k hk => ?_, fun k => ?_⟩
  · show (X.mask ||| 2 ^ kb).testBit k = true
    rw [or_bit, hk]; rfl
  · show (X.mat.testBit k && X.mask.testBit k) = X.mat.testBit k
    cases hm : X.mat.testBit k
    · rfl
    · rw [h.sub k hm]; rfl
theorem Half.cov2 (h : Half X kb) : coversF X (twoF X kb) = true := by
  rw [coversF_iff h.ok h.ok2]
  refine ⟨h.right, h.right2, rfl, fun k hk => ?_, fun k => ?_⟩
  · show (X.mask ||| 2 ^ kb).testBit k = true
    rw [or_bit, hk]; rfl
  · show ((X.mat ||| 2 ^ kb).testBit k && X.mask.testBit k) = X.mat.testBit k
    rw [or_bit]
    by_cases hk : kb = k
    · subst hk; rw [h.no, h.noT, Bool.and_false]
    · rw [decide_eq_false hk, Bool.or_false]
      cases hm : X.mat.testBit k
      · rfl
      · rw [h.sub k hm]; rfl
theorem Half.not {b : Bool} (h : b = true → False) : b = false := by cases b; rfl; exact (h rfl).elim
theorem Half.cov3 (h : Half X kb) : coversF (oneF X kb) X = false := Half.not fun hc => by
  have := ((coversF_iff h.ok1 h.ok).1 hc).2.2.2.1 kb (by show (X.mask ||| 2 ^ kb).testBit kb = true; rw [or_bit]; simp)
  rw [h.no] at this; cases this
theorem Half.cov4 (h : Half X kb) : coversF (twoF X kb) X = false := Half.not fun hc => by
  have := ((coversF_iff h.ok2 h.ok).1 hc).2.2.2.1 kb (by show (X.mask ||| 2 ^ kb).testBit kb = true; rw [or_bit]; simp)
  rw [h.no] at this; cases this
theorem Half.cov5 (h : Half X kb) : coversF (oneF X kb) (twoF X kb) = false := Half.not fun hc => by
  have := ((coversF_iff h.ok1 h.ok2).1 hc).2.2.2.2 kb
  have e1 : (twoF X kb).mat.testBit kb = true := by show (X.mat ||| 2 ^ kb).testBit kb = true; rw [or_bit]; simp
  have e2 : (oneF X kb).mask.testBit kb = true := by show (X.mask ||| 2 ^ kb).testBit kb = true; rw [or_bit]; simp
  have e3 : (oneF X kb).mat.testBit kb = false := h.noT
  rw [e1, e2, e3] at this; cases this
end
theorem passF1 (id : Nat) (e : Bool) (x : Fi) : passF id e [x] = letsF id e x := by simp [passF, anyF]
theorem passF2 (id : Nat) (e : Bool) (x y : Fi) : passF id e [x, y] = (letsF id e x || letsF id e y) := by simp [passF, anyF]
end Go.Proofs.Ytmaklneiedljjaa
