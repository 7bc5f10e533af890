/-
  Plain facts of the arbitration.
-/
import Derived.Test.YthpgcgkgokfnpaaM4
namespace Go.Proofs.Ythpgcgkgokfnpaa
open Go.RowKit Go.Sort
set_option linter.unusedVariables false

theorem bfL_asym : ∀ (l m : List Bool), bfL l m = true → bfL m l = false := by
  intro l
  induction l with
  | nil => intro m h; simp [bfL] at h
  | cons x l ih =>
    intro m h
    cases m with
    | nil => simp [bfL] at h
    | cons y m =>
      simp only [bfL] at h ⊢
      by_cases e : x = y
      · rw [if_pos e] at h; rw [if_pos e.symm]; exact ih m h
      · rw [if_neg e] at h; rw [if_neg (fun q => e q.symm)]; cases x <;> cases y <;> simp_all

theorem bfL_self (l : List Bool) : bfL l l = false := by
  cases h : bfL l l with
  | false => rfl
  | true => exact h.symm.trans (bfL_asym l l h)

theorem bfL_trans : ∀ (l m k : List Bool), bfL l m = true → bfL m k = true → bfL l k = true := by
  intro l
  induction l with
  | nil => intro m k h; simp [bfL] at h
  | cons x l ih =>
    intro m k h h2
    cases m with
    | nil => simp [bfL] at h
    | cons y m =>
      cases k with
      | nil => simp [bfL] at h2
      | cons z k =>
        simp only [bfL] at h h2 ⊢
        by_cases e : x = y
        · subst e
          rw [if_pos rfl] at h
          by_cases e2 : x = z
          · rw [if_pos e2] at h2 ⊢; exact ih m k h h2
          · rw [if_neg e2] at h2 ⊢; exact h2
        · rw [if_neg e] at h
          by_cases e2 : y = z
          · subst e2; rw [if_neg e]; exact h
          · rw [if_neg e2] at h2; exact absurd (h.trans h2.symm) e2

theorem bfL_pre (p l m : List Bool) : bfL (p ++ l) (p ++ m) = bfL l m := by
  induction p with
  | nil => rfl
  | cons x p ih => simp [bfL, ih]

/-- Neither wins just if the one is the begin of the other. -/
theorem bfL_none : ∀ (l m : List Bool), bfL l m = false → bfL m l = false → l.length = m.length → l = m := by
  intro l
  induction l with
  | nil => intro m _ _ h; cases m with
    | nil => rfl
    | cons => simp at h
  | cons x l ih =>
    intro m h1 h2 hl
    cases m with
    | nil => simp at hl
    | cons y m =>
      simp only [bfL] at h1 h2
      by_cases e : x = y
      · subst e
        rw [if_pos rfl] at h1 h2
        rw [ih m h1 h2 (by simpa using hl)]
      · rw [if_neg e] at h1; rw [if_neg (fun q => e q.symm)] at h2
        cases x <;> cases y <;> simp_all

theorem bfL_len (l m r : List Bool) (h : l.length = m.length) (hne : l ≠ m) (s : List Bool) : bfL (l ++ r) (m ++ s) = bfL l m := by
  induction l generalizing m with
  | nil => cases m with
    | nil => exact absurd rfl hne
    | cons => simp at h
  | cons x l ih =>
    cases m with
    | nil => simp at h
    | cons y m =>
      simp only [List.cons_append, bfL]
      by_cases e : x = y
      · subst e
        rw [if_pos rfl, if_pos rfl]
        exact ih m (by simpa using h) (fun q => hne (by rw [q]))
      · rw [if_neg e, if_neg e]

/-- Of numbers of as many bits the lesser one wins. -/
theorem bfL_num (m : Nat) : ∀ (a b : Nat) (r s : List Bool), a % 2 ^ m < b % 2 ^ m → bfL (ofL a m ++ r) (ofL b m ++ s) = true := by
  induction m with
  | zero => intro a b r s h; simp [Nat.mod_one] at h
  | succ m ih =>
    intro a b r s h
    have ha := testBit_split a m
    have hb := testBit_split b m
    have la := Nat.mod_lt a (Nat.two_pow_pos m)
    have lb := Nat.mod_lt b (Nat.two_pow_pos m)
    simp only [ofL, List.cons_append, bfL]
    rw [ha, hb] at h
    cases h1 : a.testBit m <;> cases h2 : b.testBit m <;> simp [h1, h2] at h ⊢
    · exact ih a b r s h
    · omega
    · exact ih a b r s h

theorem ofL_inj {a b m : Nat} (ha : a < 2 ^ m) (hb : b < 2 ^ m) (h : ofL a m = ofL b m) : a = b := by
  have := congrArg numL h
  rw [numL_ofL, numL_ofL, Nat.mod_eq_of_lt ha, Nat.mod_eq_of_lt hb] at this
  exact this

theorem conL_false (id : Nat) (rem : Bool) : conL id false rem = [false] ++ ofL id 11 ++ [rem, false] := rfl
theorem conL_true (id : Nat) (rem : Bool) : conL id true rem = [false] ++ ofL (id / 262144) 11 ++ [true, true] ++ ofL id 18 ++ [rem] := rfl

structure Ord (id : Nat) (ext rem : Bool) (id2 : Nat) (ext2 rem2 : Bool) (x y : Bool) : Prop where
  one : x = true → y = false
  none : (x = false ∧ y = false) ↔ (id = id2 ∧ ext = ext2 ∧ rem = rem2)
  less : ext = ext2 → id < id2 → x = true
  base : ext = false → ext2 = true → id = id2 / 262144 → x = true
  data : id = id2 → ext = ext2 → rem = false → rem2 = true → x = true

theorem bf_less {id id2 : Nat} {ext rem rem2 : Bool} (h1 : id ≤ if ext then 536870911 else 2047) (h2 : id2 ≤ if ext then 536870911 else 2047) (h : id < id2) : bfL (conL id ext rem) (conL id2 ext rem2) = true := by
  cases ext
  · simp only [Bool.false_eq_true, if_false] at h1 h2
    rw [conL_false, conL_false, List.append_assoc, List.append_assoc, bfL_pre]
    exact bfL_num 11 _ _ _ _ (by omega)
  · simp only [if_true] at h1 h2
    rw [conL_true, conL_true]
    simp only [List.append_assoc]
    rw [bfL_pre]
    by_cases e : id / 262144 = id2 / 262144
    · rw [e, bfL_pre, bfL_pre]
      exact bfL_num 18 _ _ _ _ (by omega)
    · exact bfL_num 11 _ _ _ _ (by omega)

theorem bf_ord {id id2 : Nat} {ext rem ext2 rem2 : Bool} (h1 : id ≤ if ext then 536870911 else 2047) (h2 : id2 ≤ if ext2 then 536870911 else 2047) : Ord id ext rem id2 ext2 rem2 (bfL (conL id ext rem) (conL id2 ext2 rem2)) (bfL (conL id2 ext2 rem2) (conL id ext rem)) := by
  have hdata : id = id2 → ext = ext2 → rem = false → rem2 = true → bfL (conL id ext rem) (conL id2 ext2 rem2) = true := by
    rintro rfl rfl rfl rfl
    cases ext
    · rw [conL_false, conL_false, bfL_pre]; rfl
    · rw [conL_true, conL_true, bfL_pre]; rfl
  have hdata2 : id = id2 → ext = ext2 → rem = true → rem2 = false → bfL (conL id2 ext2 rem2) (conL id ext rem) = true := by
    rintro rfl rfl rfl rfl
    cases ext
    · rw [conL_false, conL_false, bfL_pre]; rfl
    · rw [conL_true, conL_true, bfL_pre]; rfl
  have hmix : ∀ (i j : Nat) (r s : Bool), i < 2048 → (bfL (conL i false r) (conL j true s) = true ∨ bfL (conL j true s) (conL i false r) = true) ∧ (i = j / 262144 → bfL (conL i false r) (conL j true s) = true) := by
    intro i j r s hi
    rw [conL_false, conL_true]
    simp only [List.append_assoc]
    rw [bfL_pre, bfL_pre]
    by_cases e : ofL i 11 = ofL (j / 262144) 11
    · rw [e, bfL_pre, bfL_pre]
      have : bfL [r, false] ([true, true] ++ (ofL j 18 ++ [s])) = true := by cases r <;> rfl
      exact ⟨.inl this, fun _ => this⟩
    · refine ⟨?_, fun q => absurd (by rw [q]) e⟩
      rw [bfL_len _ _ _ (by simp) e, bfL_len _ _ _ (by simp) (fun q => e q.symm)]
      by_cases hx : bfL (ofL i 11) (ofL (j / 262144) 11) = true
      · exact .inl hx
      · by_cases hy : bfL (ofL (j / 262144) 11) (ofL i 11) = true
        · exact .inr hy
        · exact absurd (bfL_none _ _ (by simpa using hx) (by simpa using hy) (by simp)) e
  refine ⟨bfL_asym _ _, ⟨fun ⟨hx, hy⟩ => ?_, ?_⟩, ?_, ?_, hdata⟩
  · cases ext <;> cases ext2
    · simp only [Bool.false_eq_true, if_false] at h1 h2
      have hid : id = id2 := by
        rcases Nat.lt_trichotomy id id2 with h | h | h
        · rw [bf_less (by simpa using h1) (by simpa using h2) h] at hx; cases hx
        · exact h
        · rw [bf_less (by simpa using h2) (by simpa using h1) h] at hy; cases hy
      refine ⟨hid, rfl, ?_⟩
      cases rem <;> cases rem2
      · rfl
      · rw [hdata hid rfl rfl rfl] at hx; cases hx
      · rw [hdata2 hid rfl rfl rfl] at hy; cases hy
      · rfl
    · simp only [Bool.false_eq_true, if_false] at h1
      rcases (hmix id id2 rem rem2 (by omega)).1 with h | h
      · rw [h] at hx; cases hx
      · rw [h] at hy; cases hy
    · simp only [Bool.false_eq_true, if_false] at h2
      rcases (hmix id2 id rem2 rem (by omega)).1 with h | h
      · rw [h] at hy; cases hy
      · rw [h] at hx; cases hx
    · simp only [if_true] at h1 h2
      have hid : id = id2 := by
        rcases Nat.lt_trichotomy id id2 with h | h | h
        · rw [bf_less (by simpa using h1) (by simpa using h2) h] at hx; cases hx
        · exact h
        · rw [bf_less (by simpa using h2) (by simpa using h1) h] at hy; cases hy
      refine ⟨hid, rfl, ?_⟩
      cases rem <;> cases rem2
      · rfl
      · rw [hdata hid rfl rfl rfl] at hx; cases hx
      · rw [hdata2 hid rfl rfl rfl] at hy; cases hy
      · rfl
  · rintro ⟨rfl, rfl, rfl⟩
    exact ⟨bfL_self _, bfL_self _⟩
  · rintro rfl h
    exact bf_less h1 h2 h
  · rintro rfl rfl h
    simp only [Bool.false_eq_true, if_false] at h1
    exact (hmix id id2 rem rem2 (by omega)).2 h
end Go.Proofs.Ythpgcgkgokfnpaa
