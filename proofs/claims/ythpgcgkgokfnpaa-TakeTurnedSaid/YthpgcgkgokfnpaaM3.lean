/-
  Plain mathematics of layer 3: check sums as numbers of 15 bits. Nothing of the program is spoken of here.
-/
import Derived.Test.YthpgcgkgokfnpaaM1
namespace Go.Proofs.Ythpgcgkgokfnpaa

/-- The check sum after one more bit. -/
def nxV (s : BitVec 15) (b : Bool) : BitVec 15 := (s <<< 1) ^^^ (if s.msb != b then 0x4599#15 else 0#15)

/-- The check sum behind more bits. -/
def foV (s : BitVec 15) (l : List Bool) : BitVec 15 := l.foldl nxV s

/-- The check sum of bits. -/
def suV (l : List Bool) : BitVec 15 := foV 0#15 l

theorem foV_append (s : BitVec 15) (l m : List Bool) : foV s (l ++ m) = foV (foV s l) m := by simp [foV]
theorem foV_nil (s : BitVec 15) : foV s [] = s := rfl
theorem foV_cons (s : BitVec 15) (b : Bool) (l : List Bool) : foV s (b :: l) = foV (nxV s b) l := rfl
theorem suV_append (l m : List Bool) : suV (l ++ m) = foV (suV l) m := foV_append _ _ _
theorem suV_snoc (l : List Bool) (x : Bool) : suV (l ++ [x]) = nxV (suV l) x := by rw [suV_append]; rfl

theorem nxV_xor (a c : BitVec 15) (x y : Bool) : nxV (a ^^^ c) (x != y) = nxV a x ^^^ nxV c y := by
  have hm : (a ^^^ c).msb = (a.msb != c.msb) := by simp [BitVec.msb_xor]
  have hs : (a ^^^ c) <<< 1 = a <<< 1 ^^^ c <<< 1 := by
    exact BitVec.shiftLeft_xor_distrib a c 1
  unfold nxV
  rw [hm, hs]
  generalize a <<< 1 = p
  generalize c <<< 1 = q
  ext i hi
  simp only [BitVec.getElem_xor]
  generalize p[i] = u
  generalize q[i] = v
  cases a.msb <;> cases c.msb <;> cases x <;> cases y <;> simp only [bne_self_eq_false, Bool.bne_false, Bool.bne_true, Bool.not_false, if_true, if_false, Bool.false_eq_true, BitVec.getElem_zero] <;> generalize (0x4599#15)[i] = t <;> cases u <;> cases v <;> (try cases t) <;> rfl

/-- Two lists of one length, turned about by each other. -/
def xoL (l m : List Bool) : List Bool := List.zipWith (fun x y => x != y) l m

theorem foV_xor : ∀ (l m : List Bool) (a c : BitVec 15), l.length = m.length → foV (a ^^^ c) (xoL l m) = foV a l ^^^ foV c m := by
  intro l
  induction l with
  | nil => intro m a c h; cases m with
    | nil => rfl
    | cons y m => simp at h
  | cons x l ih =>
    intro m a c h
    cases m with
    | nil => simp at h
    | cons y m =>
      show foV (nxV (a ^^^ c) (x != y)) (xoL l m) = _
      rw [nxV_xor, ih m _ _ (by simpa using h)]
      rfl

theorem suV_xor (l m : List Bool) (h : l.length = m.length) : suV (xoL l m) = suV l ^^^ suV m := by
  have := foV_xor l m 0#15 0#15 h
  rw [BitVec.xor_self] at this
  exact this

/-- The 15 bits of a sum. -/
def biV (s : BitVec 15) : List Bool := ofL s.toNat 15

theorem nxV_own (s : BitVec 15) : nxV s s.msb = s <<< 1 := by simp [nxV]

theorem foV_bits (s : BitVec 15) : ∀ k, k ≤ 15 → foV s (ofL s.toNat 15 |>.take k) = s <<< k := by
  intro k
  induction k with
  | zero => intro _; simp [foV]
  | succ k ih =>
    intro hk
    rw [take_snoc (x := s.toNat.testBit (14 - k)) (by rw [ofL_get _ _ _ (by omega)]), foV_append, ih (by omega)]
    have hm : s.toNat.testBit (14 - k) = (s <<< k).msb := by
      rw [BitVec.msb_eq_getLsbD_last, BitVec.getLsbD_shiftLeft, BitVec.testBit_toNat]
      simp [show ¬ (14 < k) by omega]
    rw [hm]
    show nxV (s <<< k) (s <<< k).msb = _
    rw [nxV_own, ← BitVec.shiftLeft_add]

theorem foV_own (s : BitVec 15) : foV s (biV s) = 0#15 := by
  have := foV_bits s 15 (Nat.le_refl _)
  rw [List.take_of_length_le (by simp)] at this
  unfold biV
  rw [this]
  ext i hi
  simp

theorem suV_whole (l : List Bool) : suV (l ++ biV (suV l)) = 0#15 := by rw [suV_append, foV_own]

/-- Dominant bits ahead say nothing. -/
theorem suV_zeros (k : Nat) : suV (List.replicate k false) = 0#15 := by
  induction k with
  | zero => rfl
  | succ k ih => rw [List.replicate_succ', suV_snoc, ih]; rfl

theorem suV_ahead (k : Nat) (l : List Bool) : suV (List.replicate k false ++ l) = suV l := by rw [suV_append, suV_zeros]; rfl

/-- Whatever is not 0 is not 0 behind one more dominant bit: the lowest bit of the polynomial is set. -/
theorem nxV_zero {s : BitVec 15} (h : nxV s false = 0#15) : s = 0#15 := by
  have h0 : (nxV s false).getLsbD 0 = false := by rw [h]; rfl
  have hm : s.msb = false := by
    unfold nxV at h0
    cases hs : s.msb
    · rfl
    · rw [hs] at h0
      simp at h0
  have h1 : s <<< 1 = 0#15 := by
    unfold nxV at h
    rw [hm] at h
    simpa using h
  ext i hi
  by_cases h14 : i = 14
  · subst h14
    rw [BitVec.msb_eq_getLsbD_last] at hm
    simpa using hm
  · have h2 : (s <<< 1).getLsbD (i + 1) = false := by rw [h1]; simp
    rw [BitVec.getLsbD_shiftLeft] at h2
    simp [show i + 1 < 15 by omega] at h2
    rw [← BitVec.getLsbD_eq_getElem, h2]; simp

theorem foV_zeros_ne {s : BitVec 15} (h : s ≠ 0#15) (k : Nat) : foV s (List.replicate k false) ≠ 0#15 := by
  induction k with
  | zero => exact h
  | succ k ih =>
    rw [List.replicate_succ', foV_append]
    exact fun e => ih (nxV_zero e)

/-- Bits within 15 beside one another, not all of them dominant, have a sum that is not 0. -/
theorem suV_burst {b : List Bool} (hb : b.length ≤ 15) (ht : true ∈ b) : suV b ≠ 0#15 := by
  obtain ⟨c, hc⟩ : ∃ c, c = List.replicate (15 - b.length) false ++ b := ⟨_, rfl⟩
  have hl : c.length = 15 := by rw [hc]; simp; omega
  have hs : suV b = suV c := by rw [hc, suV_ahead]
  obtain ⟨B, hB⟩ : ∃ B : BitVec 15, B = BitVec.ofNat 15 (numL c) := ⟨_, rfl⟩
  have hlt := numL_lt c
  rw [hl] at hlt
  have hBn : B.toNat = numL c := by rw [hB, BitVec.toNat_ofNat, Nat.mod_eq_of_lt hlt]
  have hbi : biV B = c := by unfold biV; rw [hBn, ← hl, ofL_numL]
  have hx := foV_xor (List.replicate 15 false) (biV B) B 0#15 (by simp [biV])
  have hz : xoL (List.replicate 15 false) (biV B) = biV B := by
    apply List.ext_getElem?
    intro i
    unfold xoL
    rw [List.getElem?_zipWith]
    by_cases hi : i < 15
    · rw [List.getElem?_replicate, if_pos hi]
      cases hq : (biV B)[i]? <;> simp
    · rw [List.getElem?_replicate, if_neg hi, List.getElem?_eq_none (by simp [biV]; omega)]
  rw [hz, BitVec.xor_zero, foV_own, hbi] at hx
  have hne : B ≠ 0#15 := by
    intro e
    have h0 : numL c = 0 := by rw [← hBn, e]; rfl
    have hall : c = List.replicate 15 false := by
      have := ofL_numL c
      rw [h0, hl] at this
      rw [← this]; decide
    have hm : true ∈ c := by rw [hc]; exact List.mem_append.2 (.inr ht)
    rw [hall] at hm
    simp at hm
  have h2 := foV_zeros_ne hne 15
  intro e
  rw [hs] at e
  have e2 : foV 0#15 c = 0#15 := e
  rw [e2, BitVec.xor_zero] at hx
  exact h2 hx.symm

/-- How many are true, as a bit. -/
def paL (l : List Bool) : Bool := l.foldl (fun p b => p != b) false
def paV (s : BitVec 15) : Bool := paL (biV s)

theorem paL_foldl (l : List Bool) : ∀ p, l.foldl (fun p b => p != b) p = (p != paL l) := by
  induction l with
  | nil => intro p; cases p <;> rfl
  | cons b l ih =>
    intro p
    show l.foldl _ (p != b) = (p != l.foldl _ (false != b))
    rw [ih, ih]
    cases p <;> cases b <;> cases paL l <;> rfl

theorem paL_append (l m : List Bool) : paL (l ++ m) = (paL l != paL m) := by
  show (l ++ m).foldl _ _ = _
  rw [List.foldl_append, paL_foldl]; rfl

theorem paL_cons (b : Bool) (m : List Bool) : paL (b :: m) = (b != paL m) := by
  have := paL_append [b] m
  simpa [paL] using this

theorem paL_xor : ∀ (l m : List Bool), l.length = m.length → paL (xoL l m) = (paL l != paL m) := by
  intro l
  induction l with
  | nil => intro m h; cases m with
    | nil => rfl
    | cons y m => simp at h
  | cons x l ih =>
    intro m h
    cases m with
    | nil => simp at h
    | cons y m =>
      show paL ((x != y) :: xoL l m) = _
      rw [paL_cons, paL_cons, paL_cons, ih m (by simpa using h)]
      cases x <;> cases y <;> cases paL l <;> cases paL m <;> rfl

theorem biV_xor (a c : BitVec 15) : biV (a ^^^ c) = xoL (biV a) (biV c) := by
  apply List.ext_getElem?
  intro i
  unfold biV xoL
  rw [List.getElem?_zipWith]
  by_cases hi : i < 15
  · rw [ofL_get _ _ _ hi, ofL_get _ _ _ hi, ofL_get _ _ _ hi]
    simp
  · rw [List.getElem?_eq_none (by simp; omega), List.getElem?_eq_none (by simp; omega)]

theorem paV_xor (a c : BitVec 15) : paV (a ^^^ c) = (paV a != paV c) := by
  unfold paV
  rw [biV_xor, paL_xor _ _ (by simp [biV])]

theorem biV_shift (s : BitVec 15) : s.msb :: biV (s <<< 1) = biV s ++ [false] := by
  apply List.ext_getElem?
  intro i
  unfold biV
  cases i with
  | zero =>
    rw [List.getElem?_append_left (by simp), ofL_get _ _ _ (by omega), List.getElem?_cons_zero, BitVec.msb_eq_getLsbD_last, BitVec.testBit_toNat]
  | succ i =>
    rw [List.getElem?_cons_succ]
    by_cases hi : i + 1 < 15
    · rw [List.getElem?_append_left (by simp; omega), ofL_get _ _ _ (by omega), ofL_get _ _ _ (by omega), BitVec.testBit_toNat, BitVec.testBit_toNat, BitVec.getLsbD_shiftLeft]
      simp [show ¬ (15 - 1 - i < 1) by omega, show 15 - 1 - i < 15 by omega]
      congr 1
      omega
    · by_cases h14 : i = 14
      · subst h14
        rw [ofL_get _ _ _ (by omega), List.getElem?_append_right (by simp), BitVec.testBit_toNat]
        simp
      · rw [List.getElem?_eq_none (by simp; omega), List.getElem?_eq_none (by simp; omega)]

theorem paV_nx (s : BitVec 15) (b : Bool) : paV (nxV s b) = (paV s != b) := by
  have h := congrArg paL (biV_shift s)
  rw [paL_cons, paL_append] at h
  have h2 : paV (s <<< 1) = (paV s != s.msb) := by
    have : paL [false] = false := rfl
    rw [this] at h
    unfold paV
    revert h
    cases s.msb <;> cases paL (biV (s <<< 1)) <;> cases paL (biV s) <;> simp
  unfold nxV
  rw [paV_xor, h2]
  have e1 : paV 0x4599#15 = true := by decide
  have e0 : paV 0#15 = false := by decide
  cases s.msb <;> cases b <;> simp [e1, e0]

theorem paV_fo (l : List Bool) : ∀ s, paV (foV s l) = (paV s != paL l) := by
  induction l with
  | nil => intro s; simp [foV, paL]
  | cons b l ih =>
    intro s
    rw [foV_cons, ih, paV_nx, paL_cons]
    cases paV s <;> cases b <;> cases paL l <;> rfl

theorem paV_su (l : List Bool) : paV (suV l) = paL l := by
  unfold suV
  rw [paV_fo]
  have e0 : paV 0#15 = false := by decide
  rw [e0]; simp

/-- Lists that differ in an odd number of places have sums that differ. -/
theorem suV_odd {l m : List Bool} (h : l.length = m.length) (ho : paL (xoL l m) = true) : suV l ≠ suV m := by
  intro e
  rw [paL_xor _ _ h, ← paV_su, ← paV_su, e] at ho
  simp at ho

/-- Lists that differ, and only within 15 bits beside one another, have sums that differ. -/
theorem suV_near {l m : List Bool} (h : l.length = m.length) {p q : Nat} {b : List Bool} (hb : b.length ≤ 15) (ht : true ∈ b) (hx : xoL l m = List.replicate p false ++ (b ++ List.replicate q false)) : suV l ≠ suV m := by
  intro e
  have h1 := suV_xor l m h
  rw [e, BitVec.xor_self, hx, suV_ahead, suV_append] at h1
  exact foV_zeros_ne (suV_burst hb ht) q h1
end Go.Proofs.Ythpgcgkgokfnpaa
