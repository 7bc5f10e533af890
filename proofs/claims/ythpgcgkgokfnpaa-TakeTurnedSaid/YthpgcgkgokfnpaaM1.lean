/-
  Plain mathematics of layer 1: the bits of numbers and bytes as lists. Nothing of the program is spoken of here.
-/
import Derived.Test.YthpgcgkgokfnpaaRows
namespace Go.Proofs.Ythpgcgkgokfnpaa

/-- The lowest m bits of n, the highest one first. -/
def ofL (n : Nat) : Nat → List Bool
  | 0 => []
  | m + 1 => n.testBit m :: ofL n m

/-- The number whose bits these are. -/
def numL (l : List Bool) : Nat := l.foldl (fun n b => 2 * n + b.toNat) 0

/-- The bits of bytes. -/
def obL (b : List UInt8) : List Bool := b.flatMap fun x => ofL x.toNat 8

/-- The bytes of bits; what is left over is ignored. -/
def byL (l : List Bool) : List UInt8 := (List.range (l.length / 8)).map fun i => UInt8.ofNat (numL ((l.drop (8 * i)).take 8))

@[simp] theorem ofL_length (n m : Nat) : (ofL n m).length = m := by
  induction m with
  | zero => rfl
  | succ m ih => simp [ofL, ih]

theorem ofL_get (n : Nat) : ∀ m i, i < m → (ofL n m)[i]? = some (n.testBit (m - 1 - i)) := by
  intro m
  induction m with
  | zero => intro i h; omega
  | succ m ih =>
    intro i h
    cases i with
    | zero => simp [ofL]
    | succ i =>
      simp only [ofL, List.getElem?_cons_succ]
      rw [ih i (by omega)]
      congr 2
      omega

theorem numL_foldl (l : List Bool) : ∀ n, l.foldl (fun n b => 2 * n + b.toNat) n = n * 2 ^ l.length + numL l := by
  induction l with
  | nil => intro n; simp [numL]
  | cons b l ih =>
    intro n
    simp only [List.foldl_cons, List.length_cons, numL]
    rw [ih, ih (2 * 0 + b.toNat), Nat.pow_succ]
    simp only [Nat.mul_zero, Nat.zero_add, Nat.add_mul]
    rw [← Nat.add_assoc, Nat.mul_assoc, Nat.mul_comm 2, Nat.mul_assoc, Nat.mul_comm n]

theorem numL_cons (b : Bool) (l : List Bool) : numL (b :: l) = b.toNat * 2 ^ l.length + numL l := by
  have := numL_foldl l (2 * 0 + b.toNat)
  simpa [numL] using this

theorem numL_append (l m : List Bool) : numL (l ++ m) = numL l * 2 ^ m.length + numL m := by
  have := numL_foldl m (numL l)
  simpa [numL, List.foldl_append] using this

theorem numL_snoc (l : List Bool) (b : Bool) : numL (l ++ [b]) = 2 * numL l + b.toNat := by
  rw [numL_append]; simp [numL]; omega

theorem numL_lt (l : List Bool) : numL l < 2 ^ l.length := by
  induction l with
  | nil => simp [numL]
  | cons b l ih =>
    rw [numL_cons, List.length_cons, Nat.pow_succ]
    cases b <;> simp <;> omega

theorem testBit_split (n m : Nat) : n % 2 ^ (m + 1) = (n.testBit m).toNat * 2 ^ m + n % 2 ^ m := by
  rw [Nat.testBit_eq_decide_div_mod_eq, Nat.pow_succ, Nat.mod_mul]
  rcases Nat.mod_two_eq_zero_or_one (n / 2 ^ m) with h | h <;> simp [h] <;> omega

theorem numL_ofL (n m : Nat) : numL (ofL n m) = n % 2 ^ m := by
  induction m with
  | zero => simp [ofL, numL]; omega
  | succ m ih => rw [ofL, numL_cons, ih, ofL_length, testBit_split]

theorem ofL_mod (n m k : Nat) (h : m ≤ k) : ofL (n % 2 ^ k) m = ofL n m := by
  induction m with
  | zero => rfl
  | succ m ih => rw [ofL, ofL, ih (by omega), Nat.testBit_mod_two_pow]; simp; omega

theorem ofL_add (n i j : Nat) : ofL n (i + j) = ofL (n / 2 ^ j) i ++ ofL n j := by
  induction i with
  | zero => simp [ofL]
  | succ i ih =>
    rw [show i + 1 + j = i + j + 1 from by omega, ofL, ofL, ih, Nat.testBit_div_two_pow, Nat.add_comm i j]
    rfl

theorem ofL_snoc (n m : Nat) : ofL n (m + 1) = ofL (n / 2) m ++ [decide (n % 2 = 1)] := by
  have := ofL_add n m 1
  rw [this]
  simp [ofL, Nat.testBit_zero]

theorem ofL_numL (l : List Bool) : ofL (numL l) l.length = l := by
  induction l with
  | nil => rfl
  | cons b l ih =>
    have hlt := numL_lt l
    have h1 : (numL (b :: l)).testBit l.length = b := by
      rw [Nat.testBit_eq_decide_div_mod_eq, numL_cons, Nat.mul_comm, Nat.mul_add_div (Nat.two_pow_pos _), Nat.div_eq_of_lt hlt]
      cases b <;> simp
    have h2 : ofL (numL (b :: l)) l.length = l := by
      rw [← ofL_mod _ _ _ (Nat.le_refl _), numL_cons, Nat.mul_comm, Nat.mul_add_mod, Nat.mod_eq_of_lt hlt, ih]
    rw [List.length_cons, ofL, h1, h2]

theorem obL_append (a b : List UInt8) : obL (a ++ b) = obL a ++ obL b := by simp [obL]

theorem obL_cons (x : UInt8) (b : List UInt8) : obL (x :: b) = ofL x.toNat 8 ++ obL b := by simp [obL]

theorem obL_length (b : List UInt8) : (obL b).length = 8 * b.length := by
  induction b with
  | nil => rfl
  | cons x b ih => rw [obL_cons, List.length_append, ofL_length, ih, List.length_cons]; omega

theorem byL_get (l : List Bool) (i : Nat) (h : i < l.length / 8) : (byL l)[i]? = some (UInt8.ofNat (numL ((l.drop (8 * i)).take 8))) := by
  simp [byL, h]

theorem byL_length (l : List Bool) : (byL l).length = l.length / 8 := by simp [byL]

theorem obL_chunk (b : List UInt8) (i : Nat) (x : UInt8) (h : b[i]? = some x) : ((obL b).drop (8 * i)).take 8 = ofL x.toNat 8 := by
  induction b generalizing i with
  | nil => simp at h
  | cons y b ih =>
    cases i with
    | zero =>
      simp only [List.getElem?_cons_zero, Option.some.injEq] at h
      subst h
      rw [obL_cons, Nat.mul_zero, List.drop_zero, List.take_left' (by simp)]
    | succ i =>
      rw [obL_cons, List.drop_append, ofL_length, List.drop_eq_nil_of_le (by simp; omega), List.nil_append]
      have := ih i (by simpa using h)
      rwa [show 8 * (i + 1) - 8 = 8 * i from by omega]

theorem byL_obL (b : List UInt8) (m : List Bool) (hm : m.length < 8) : byL (obL b ++ m) = b := by
  apply List.ext_getElem?
  intro i
  have hl : (obL b ++ m).length / 8 = b.length := by rw [List.length_append, obL_length]; omega
  by_cases hi : i < b.length
  · rw [byL_get _ _ (by omega)]
    have hx : b[i]? = some b[i] := by simp [hi]
    rw [hx, List.drop_append_of_le_length (by rw [obL_length]; omega), List.take_append_of_le_length (by rw [List.length_drop, obL_length]; omega), obL_chunk b i _ hx, numL_ofL]
    congr 1
    have := b[i].toNat_lt
    rw [Nat.mod_eq_of_lt (by omega)]
    exact UInt8.ofNat_toNat
  · rw [List.getElem?_eq_none (by rw [byL_length]; omega), List.getElem?_eq_none (by omega)]

theorem take_snoc {α : Type} {l : List α} {k : Nat} {x : α} (h : l[k]? = some x) : l.take (k + 1) = l.take k ++ [x] := by
  rw [List.take_add_one, h]; rfl

theorem num_step {l : List Bool} {k m : Nat} {b : Bool} (h : l[k]? = some b) (hm : m = numL (l.take k) % 4294967296) : (m * 2 % 4294967296) ||| b.toNat = numL (l.take (k + 1)) % 4294967296 := by
  rw [take_snoc h, numL_snoc]
  have hh : (m * 2 % 4294967296) = 2 ^ 1 * (m % 2147483648) := by omega
  rw [hh, ← Nat.two_pow_add_eq_or_of_lt (show b.toNat < 2 ^ 1 from by cases b <;> simp)]
  cases b <;> simp <;> omega
end Go.Proofs.Ythpgcgkgokfnpaa
