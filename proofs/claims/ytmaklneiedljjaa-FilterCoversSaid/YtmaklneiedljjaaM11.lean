/-
  Plain mathematics of layer 11: filters, what they let in, what covers what; by bits. Nothing of the program is spoken of here.
-/
import Derived.Test.YtmaklneiedljjaaRows
namespace Go.Proofs.Ytmaklneiedljjaa
set_option linter.unusedVariables false

/-- A filter. -/
structure Fi where
  ext : Bool
  mask : Nat
  mat : Nat
  deriving DecidableEq

def topF (e : Bool) : Nat := if e = true then 536870911 else 2047
/-- Its numbers are numbers of 32 bits. -/
def Fi.Ok (x : Fi) : Prop := x.mask < 4294967296 ∧ x.mat < 4294967296
instance (x : Fi) : Decidable x.Ok := inferInstanceAs (Decidable (_ ∧ _))
def rightF (x : Fi) : Bool := decide (x.mask ≤ topF x.ext) && decide (x.mat &&& (4294967295 - x.mask) = 0)
def letsF (id : Nat) (e : Bool) (x : Fi) : Bool := rightF x && (x.ext == e) && decide (id &&& x.mask = x.mat)
def coversF (a b : Fi) : Bool := rightF b && decide (a.mask &&& (4294967295 - b.mask) = 0) && letsF b.mat b.ext a
def anyF (id : Nat) (e : Bool) (l : List Fi) : Bool := l.any (letsF id e)
def passF (id : Nat) (e : Bool) (l : List Fi) : Bool := decide (l.length = 0) || anyF id e l
/-- The first one that lets it in, or -1. -/
def fiF (id : Nat) (e : Bool) (l : List Fi) : Int := if anyF id e l = true then (l.findIdx (letsF id e) : Int) else -1

theorem topF_lt (e : Bool) : topF e < 4294967296 := by cases e <;> decide

theorem bit_le {a n : Nat} (h : a < 2 ^ n) {k : Nat} (hk : a.testBit k = true) : k < n := by
  apply Nat.lt_of_not_le
  intro hn
  rw [Nat.testBit_lt_two_pow (Nat.lt_of_lt_of_le h (Nat.pow_le_pow_right (by decide) hn))] at hk
  cases hk

/-- No bit of a is none of b: by bits. -/
theorem sub_iff {a b : Nat} (ha : a < 4294967296) (hb : b < 4294967296) : a &&& (4294967295 - b) = 0 ↔ ∀ k, a.testBit k = true → b.testBit k = true := by
  have e : 4294967295 - b = 2 ^ 32 - (b + 1) := by
    have : (2 : Nat) ^ 32 = 4294967296 := by decide
    omega
  have hb' : b < 2 ^ 32 := by simpa using hb
  constructor
  · intro h k hk
    have h1 : (a &&& (4294967295 - b)).testBit k = false := by rw [h]; simp
    rw [Nat.testBit_and, hk, e, Nat.testBit_two_pow_sub_succ hb'] at h1
    have h32 := bit_le (n := 32) (by simpa using ha) hk
    simpa [h32] using h1
  · intro h
    apply Nat.eq_of_testBit_eq
    intro k
    rw [Nat.testBit_and, e, Nat.testBit_two_pow_sub_succ hb', Nat.zero_testBit]
    cases hk : a.testBit k
    · simp
    · simp [h k hk]

theorem eq_iff (a b : Nat) : a = b ↔ ∀ k, a.testBit k = b.testBit k := ⟨fun h k => by rw [h], Nat.eq_of_testBit_eq⟩

theorem rightF_iff {x : Fi} (hx : x.Ok) : rightF x = true ↔ x.mask ≤ topF x.ext ∧ ∀ k, x.mat.testBit k = true → x.mask.testBit k = true := by
  simp only [rightF, Bool.and_eq_true, decide_eq_true_eq, sub_iff hx.2 hx.1]
theorem letsF_iff {x : Fi} (hx : x.Ok) (id : Nat) (e : Bool) : letsF id e x = true ↔ rightF x = true ∧ x.ext = e ∧ ∀ k, (id.testBit k && x.mask.testBit k) = x.mat.testBit k := by
  simp only [letsF, Bool.and_eq_true, decide_eq_true_eq, beq_iff_eq, eq_iff (id &&& x.mask), Nat.testBit_and, and_assoc]
theorem coversF_iff {a b : Fi} (ha : a.Ok) (hb : b.Ok) : coversF a b = true ↔ rightF a = true ∧ rightF b = true ∧ a.ext = b.ext ∧ (∀ k, a.mask.testBit k = true → b.mask.testBit k = true) ∧ ∀ k, (b.mat.testBit k && a.mask.testBit k) = a.mat.testBit k := by
  unfold coversF
  simp only [Bool.and_eq_true, decide_eq_true_eq, sub_iff ha.1 hb.1, letsF_iff ha]
  constructor
  · rintro ⟨⟨h1, h2⟩, h3, h4, h5⟩; exact ⟨h3, h1, h4, h2, h5⟩
  · rintro ⟨h3, h1, h4, h2, h5⟩; exact ⟨⟨h1, h2⟩, h3, h4, h5⟩

/-- A filter made right. -/
def mkF (x : Fi) : Fi := ⟨x.ext, x.mask &&& topF x.ext, x.mat &&& (x.mask &&& topF x.ext)⟩
theorem mkF_ok {x : Fi} : (mkF x).Ok := ⟨Nat.lt_of_le_of_lt Nat.and_le_right (topF_lt _), Nat.lt_of_le_of_lt Nat.and_le_right (Nat.lt_of_le_of_lt Nat.and_le_right (topF_lt _))⟩
theorem mkF_right (x : Fi) : rightF (mkF x) = true := by
  rw [rightF_iff mkF_ok]
  exact ⟨Nat.and_le_right, fun k hk => by simp [mkF, Nat.testBit_and] at hk ⊢; exact hk.2⟩
theorem topF_bit (e : Bool) (k : Nat) : (topF e).testBit k = decide (k < if e = true then 29 else 11) := by
  cases e
  · show (2 ^ 11 - 1 : Nat).testBit k = _
    rw [Nat.testBit_two_pow_sub_one]; simp
  · show (2 ^ 29 - 1 : Nat).testBit k = _
    rw [Nat.testBit_two_pow_sub_one]; simp

theorem anyF_nil (id : Nat) (e : Bool) : anyF id e [] = false := rfl
theorem anyF_take {id : Nat} {e : Bool} {l : List Fi} {k : Nat} {x : Fi} (hx : l[k]? = some x) : anyF id e (l.take (k + 1)) = (anyF id e (l.take k) || letsF id e x) := by
  rw [List.take_add_one, hx]; simp [anyF]
theorem fiF_at {id : Nat} {e : Bool} {l : List Fi} {k : Nat} {x : Fi} (hx : l[k]? = some x) (h : letsF id e x = true) (h0 : anyF id e (l.take k) = false) : fiF id e l = (k : Int) := by
  have hk : k < l.length := (List.getElem?_eq_some_iff.1 hx).1
  have ha : anyF id e l = true := by
    rw [anyF, List.any_eq_true]
    exact ⟨x, List.mem_of_getElem? hx, h⟩
  rw [fiF, if_pos ha]
  congr 1
  have e1 : l = l.take k ++ x :: l.drop (k + 1) := by
    have := (List.getElem?_eq_some_iff.1 hx).2
    rw [← this, ← List.drop_eq_getElem_cons hk, List.take_append_drop]
  have h0' : ∀ y ∈ l.take k, letsF id e y = false := by
    rw [anyF, List.any_eq_false] at h0
    exact fun y hy => by simpa using h0 y hy
  have hlk : (l.take k).length = k := by rw [List.length_take]; omega
  rw [e1, List.findIdx_append, List.findIdx_eq_length_of_false h0', hlk]
  simp [List.findIdx_cons, h]
theorem fiF_no {id : Nat} {e : Bool} {l : List Fi} (h : anyF id e l = false) : fiF id e l = -1 := by rw [fiF, h]; rfl
theorem fiF_ge (id : Nat) (e : Bool) (l : List Fi) : decide ((0 : Int) ≤ fiF id e l) = anyF id e l := by
  unfold fiF
  cases anyF id e l <;> simp
end Go.Proofs.Ytmaklneiedljjaa
