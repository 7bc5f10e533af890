/-
  More of what counters do, as plain functions: of controllers that are on.
-/
import Derived.Test.YtmdjofhkkkfehaaM6
namespace Go.Proofs.Ytmdjofhkkkfehaa
set_option linter.unusedVariables false

theorem ri_mk {t r : Int} (h0 : 0 ≤ t) (h1 : t ≤ 255) (h2 : 0 ≤ r) (h3 : r ≤ 255) : riC ⟨t, r, false, 0, 0⟩ = true := by
  simp [riC, wi]; omega

theorem ri_mkOff {t r n m : Int} (h0 : 256 ≤ t) (h1 : t ≤ 263) (h2 : 0 ≤ r) (h3 : r ≤ 255) (h4 : 0 ≤ n) (h5 : n ≤ 10) (h6 : 0 ≤ m) (h7 : m ≤ 127) : riC ⟨t, r, true, n, m⟩ = true := by
  simp [riC, wi]; omega

/-- An event of a controller that is on. -/
theorem ev_on {t r n m : Int} {k : Nat} (h : riC ⟨t, r, false, n, m⟩ = true) (hk : 1 ≤ k ∧ k ≤ 9) : evC ⟨t, r, false, n, m⟩ k = ⟨teA t k, reA r k, decide (teA t k > 255), n, m⟩ := by
  unfold evC
  rw [if_neg (by rw [h]; simp; omega)]
  rfl

theorem ee_ok {c : Cf} {k : Nat} (h : riC c = true) (hk : 1 ≤ k ∧ k ≤ 9) : evE c k = 0 := by
  unfold evE
  rw [if_neg (by rw [h]; simp; omega)]

theorem te_rec {t : Int} {k : Nat} (h : ¬ (5 ≤ k ∧ k ≤ 8)) : teA t k = t := by
  unfold teA; rw [if_neg (by omega), if_neg (by omega)]
theorem re_snd {r : Int} {k : Nat} (h : 5 ≤ k ∧ k ≤ 8) : reA r k = r := by
  unfold reA; rw [if_neg (by omega), if_neg (by omega), if_neg (by omega)]

theorem mo_active {t r : Int} (h0 : 0 ≤ t) (h1 : t ≤ 127) (h2 : 0 ≤ r) (h3 : r ≤ 127) : moC ⟨t, r, false, 0, 0⟩ = 0 := by
  have h := ri_mk h0 (by omega : t ≤ 255) h2 (by omega : r ≤ 255)
  unfold moC
  rw [if_neg (by simp [h]), if_neg (by dsimp only; omega)]

theorem mo_passive {t r : Int} (h0 : 0 ≤ t) (h1 : t ≤ 255) (h2 : 0 ≤ r) (h3 : r ≤ 255) (h : 127 < t ∨ 127 < r) : moC ⟨t, r, false, 0, 0⟩ = 1 := by
  have hr := ri_mk h0 h1 h2 h3
  unfold moC
  rw [if_neg (by simp [hr]), if_pos (by dsimp only; omega)]

theorem mo_of_right {c : Cf} (h : riC c = true) : (moC c = 2) ↔ c.o = true := by
  unfold moC
  rw [h]
  cases c.o
  · simp; split <;> simp
  · simp

/-- What a bit leaves is right. -/
theorem ri_bit {c : Cf} (h : riC c = true) (x : Bool) : riC (biC c x) = true := by
  obtain ⟨t, r, o, n, m⟩ := c
  cases o
  · rw [show biC ⟨t, r, false, n, m⟩ x = ⟨t, r, false, n, m⟩ by simp [biC]]; exact h
  · obtain ⟨r0, r1, t0, t1, n0, n1, m0, m1⟩ := ri_off h rfl
    dsimp only at r0 r1 t0 t1 n0 n1 m0 m1
    cases x
    · rw [show biC ⟨t, r, true, n, m⟩ false = ⟨t, r, true, 0, m⟩ by simp [biC, h]]
      exact ri_mkOff t0 t1 r0 r1 (by omega) (by omega) m0 m1
    · rw [show biC ⟨t, r, true, n, m⟩ true = upC ⟨t, r, true, n, m⟩ by simp [biC, h]]
      unfold upC
      dsimp only
      split
      · exact ri_mkOff t0 t1 r0 r1 (by omega) (by omega) m0 m1
      · split
        · decide
        · exact ri_mkOff t0 t1 r0 r1 (by omega) (by omega) (by omega) (by omega)

theorem ev_off {t r n m : Int} (k : Nat) : evC ⟨t, r, true, n, m⟩ k = ⟨t, r, true, n, m⟩ := by simp [evC]

theorem ev_none {c : Cf} {k : Nat} (hk : 9 < k) : evC c k = c := by unfold evC; rw [if_pos (by omega)]
theorem ee_none {c : Cf} {k : Nat} (hk : 9 < k) : evE c k = 60 := by unfold evE; rw [if_pos (by omega)]

theorem te_le {t : Int} {k : Nat} (h0 : 0 ≤ t) (h1 : t ≤ 255) : 0 ≤ teA t k ∧ teA t k ≤ 263 := by
  unfold teA; split <;> (try split) <;> omega
theorem re_le {r : Int} {k : Nat} (h0 : 0 ≤ r) (h1 : r ≤ 255) : 0 ≤ reA r k ∧ reA r k ≤ 255 := by
  unfold reA; split <;> (try split) <;> (try split) <;> (try split) <;> omega

/-- What an event leaves is right. -/
theorem ri_ev {c : Cf} (h : riC c = true) (k : Nat) : riC (evC c k) = true := by
  obtain ⟨t, r, o, n, m⟩ := c
  cases o
  · by_cases hk : 1 ≤ k ∧ k ≤ 9
    · obtain ⟨r0, r1, t0, t1, n0, m0⟩ := ri_on h rfl
      dsimp only at r0 r1 t0 t1 n0 m0
      subst n0 m0
      rw [ev_on h hk]
      obtain ⟨a0, a1⟩ := te_le (k := k) t0 t1
      obtain ⟨b0, b1⟩ := re_le (k := k) r0 r1
      by_cases ht : teA t k > 255
      · rw [decide_eq_true ht]; exact ri_mkOff (by omega) a1 b0 b1 (by omega) (by omega) (by omega) (by omega)
      · rw [decide_eq_false ht]; exact ri_mk a0 (by omega) b0 b1
    · rw [show evC ⟨t, r, false, n, m⟩ k = ⟨t, r, false, n, m⟩ by unfold evC; rw [if_pos (by omega)]]
      exact h
  · rw [ev_off]; exact h

/-- A controller goes off just by an error when it sends, from 248 on. -/
theorem ev_goes {t r n m : Int} {k : Nat} (h : riC ⟨t, r, false, n, m⟩ = true) (hk : 1 ≤ k) : (evC ⟨t, r, false, n, m⟩ k).o = (decide (5 ≤ k) && decide (k ≤ 7) && decide (247 < t)) := by
  obtain ⟨r0, r1, t0, t1, n0, m0⟩ := ri_on h rfl
  dsimp only at r0 r1 t0 t1 n0 m0
  by_cases h9 : k ≤ 9
  · rw [ev_on h ⟨hk, h9⟩, Bool.eq_iff_iff]
    simp [teA]
    split
    · omega
    · split <;> omega
  · rw [ev_none (by omega), Bool.eq_iff_iff]
    simp
    omega

/-- How a right controller stands, as one number. -/
theorem mo_num {c : Cf} (h : riC c = true) : ((moC c : Int) == 2) = c.o := by
  have := mo_of_right h
  cases ho : c.o
  · rw [ho] at this; simp at this ⊢; omega
  · rw [ho] at this; simp at this ⊢; omega
end Go.Proofs.Ytmdjofhkkkfehaa
