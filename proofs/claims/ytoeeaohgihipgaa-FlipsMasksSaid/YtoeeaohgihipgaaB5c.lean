/-
  Contracts: the order's maker, whether all are flips, what is sampled.
-/
import Derived.Test.YtoeeaohgihipgaaB5b
import Derived.Laws.EntriesVeiled
namespace Go.Proofs.Ytoeeaohgihipgaa
open Go.RowKit Go.Sort
set_option linter.unusedVariables false

/-- A flip of a slice, where the walk loads it. -/
theorem rf_at {w : World} {a : Option Addr} {n c : Nat} {l : List Fl} (h : RK fe 2 w a n c l) {k : Nat} (hk : k < n) :
    ∃ b off s u, a = some ⟨b, off, none⟩ ∧ l[k]? = some (s, u) ∧ b < w.heap.size ∧ w.cell? ⟨b, off + k * 2, none⟩ = some (.int .i64 s) ∧ w.cell? ⟨b, off + k * 2 + 1, none⟩ = some (.int .u8 (u : Int)) := by
  obtain ⟨b, off, ha, hb, hc⟩ := h.cell (by omega)
  have hl : k < l.length := by rw [h.len]; exact hk
  refine ⟨b, off, l[k].1, l[k].2, ha, by simp [hl], hb, ?_, ?_⟩
  · simpa using hc k _ 0 _ (List.getElem?_eq_getElem hl) rfl
  · have := hc k _ 1 _ (List.getElem?_eq_getElem hl) rfl
    rwa [← Nat.add_assoc] at this

theorem bySteps_any (w : World) : Calls Try.prog 25 #[] w fun e w' => e = .returned (.agg #[.func (.func 31) #[] #[]]) ∧ Below w.heap.size w w' := by
  go_enter Try.func25, Try.ntmps25
  go_wp2
  exact bodyPost_ret (v := .agg #[.func (.func 31) #[] #[]]) (by simp [results, Try.results25, go_sem]) rfl ⟨rfl, bnew0 w _⟩

/-- What the node samples. -/
def turnB (b : Bool) (m j : Nat) : Bool := b != m.testBit j

theorem turn_num (m j : Nat) (hm : m < 4294967296) : (bits BinOp.and IntKind.u32 ((m : Int) / 2 ^ min j 32) 1 == 1) = m.testBit j := by
  have e : (m : Int) / 2 ^ min j 32 = ((m / 2 ^ min j 32 : Nat) : Int) := by simp
  have hlt : m / 2 ^ min j 32 < 4294967296 := Nat.lt_of_le_of_lt (Nat.div_le_self _ _) hm
  rw [e, show (1 : Int) = ((1 : Nat) : Int) from rfl, (u32_bits _ 1 hlt (by omega)).1, Nat.and_one_is_mod, Nat.testBit_eq_decide_div_mod_eq]
  by_cases hj : j ≤ 32
  · rw [Nat.min_eq_left hj]; generalize m / 2 ^ j = q; rw [Bool.eq_iff_iff]; simp; omega
  · rw [Nat.min_eq_right (by omega), Nat.div_eq_of_lt (by omega : m < 2 ^ 32), Nat.div_eq_of_lt (Nat.lt_of_lt_of_le hm (Nat.pow_le_pow_right (n := 2) (i := 32) (by decide) (by omega)))]
    rfl

theorem turn_any (w : World) (b : Bool) (m j : Nat) (hm : m < 4294967296) (hj : j < 256) : Calls Try.prog 14 #[.bool b, .int .u32 (m : Int), .int .u8 (j : Int)] w fun e w' => e = .returned (.bool (turnB b m j)) ∧ w = w' := by
  have hn := turn_num m j hm
  have HN := hid hn; clear hn
  go_enter Try.func14, Try.ntmps14
  go_wp2
  go_ret
  exact ⟨ret_bool (by rw [HN.out]; cases b <;> cases h : m.testBit j <;> simp [turnB, h]), rfl⟩

theorem refTurn_num (m j : Nat) : (((m : Int) / 2 ^ j).tmod 2 == 1) = m.testBit j := by
  rw [show (m : Int) / 2 ^ j = ((m / 2 ^ j : Nat) : Int) by simp, Nat.testBit_eq_decide_div_mod_eq]
  generalize m / 2 ^ j = q
  rw [Int.tmod_eq_emod_of_nonneg (by omega), Bool.eq_iff_iff]; simp; omega

theorem refTurn_any (w : World) (b : Bool) (m j : Nat) (hm : m < 4294967296) (hj : j < 256) : Calls Try.prog 15 #[.bool b, .int .u32 (m : Int), .int .u8 (j : Int)] w fun e w' => e = .returned (.bool (turnB b m j)) ∧ w = w' := by
  by_cases h31 : j ≤ 31
  · have hd : decide ((j : Int) ≤ 31) = true := by simp; omega
    have hd' : decide (j ≤ 31) = true := by simp; omega
    have hn := refTurn_num m j
    cases hb : m.testBit j
    · rw [hb] at hn
      have hb' : turnB b m j = b := by simp [turnB, hb]
      rw [hb']
      clear hb hb'
      go_enter Try.func15, Try.ntmps15
      go_wp2
      go_ret
      exact ⟨rfl, rfl⟩
    · rw [hb] at hn
      have hb' : turnB b m j = !b := by simp [turnB, hb]
      rw [hb']
      clear hb hb'
      go_enter Try.func15, Try.ntmps15
      go_wp2
      go_ret
      exact ⟨rfl, rfl⟩
  · have hd : decide ((j : Int) ≤ 31) = false := by simp; omega
    have hd' : decide (j ≤ 31) = false := by simp; omega
    have hb' : turnB b m j = b := by
      have : m.testBit j = false := Nat.testBit_lt_two_pow (Nat.lt_of_lt_of_le hm (Nat.pow_le_pow_right (n := 2) (i := 32) (j := j) (by decide) (by omega)))
      simp [turnB, this]
    rw [hb']
    clear hb'
    go_enter Try.func15, Try.ntmps15
    go_wp2
    go_ret
    exact ⟨rfl, rfl⟩

theorem all_snoc {l : List Fl} {k : Nat} {x : Fl} (hx : l[k]? = some x) : (l.take (k + 1)).all isF = ((l.take k).all isF && isF x) := by
  rw [take_more hx, List.all_append]; simp
theorem all_false {l : List Fl} {k : Nat} {x : Fl} (hx : l[k]? = some x) (h : isF x = false) : l.all isF = false := by
  rw [List.all_eq_false]
  exact ⟨x, List.mem_of_getElem? hx, by simp [h]⟩

/-- Whether all of a slice are flips. -/
theorem all_any (w : World) (a : Option Addr) (n c : Nat) (l : List Fl) (h : RK fe 2 w a n c l) (hn : n ≤ 100000000) :
    Calls Try.prog 24 #[.slice a n c] w fun e w' => e = .returned (.bool (l.all isF)) ∧ Below w.heap.size w w' := by
  go_enter Try.func24, Try.ntmps24
  go_wp2
  go_loopg [7] n (fun gn i wr => ∃ k : Nat, k ≤ n ∧ gn = n - k ∧ i = .int .i64 k ∧ (l.take k).all isF = true ∧ Below w.heap.size w wr)
  case atStart => exact ⟨0, by omega, by omega, rfl, by simp, Below.refl _ _⟩
  case round =>
    obtain ⟨k, hk, rfl, rfl, hall, hb⟩ := hrel
    have HA := hid hall; clear hall
    by_cases hlt : k < n
    · obtain ⟨b, off, s, u, rfl, hx, hbk, hc0, hc1⟩ := rf_at (h.below hb) hlt
      have HX := hid hx; clear hx
      by_cases hs0 : s < 0
      · have HF := hid (all_false HX.out (by simp [isF]; omega))
        go_wp2
        go_ret
        exact ⟨ret_bool HF.out.symm, bnew hb _⟩
      · by_cases hs1 : 1099511627776 < s
        · have HF := hid (all_false HX.out (by simp [isF]; omega))
          go_wp2
          go_ret
          exact ⟨ret_bool HF.out.symm, bnew hb _⟩
        · by_cases hu : 31 < (u : Int)
          · have HF := hid (all_false HX.out (by simp [isF]; omega))
            have hu' : decide (31 < u) = true := by simp; omega
            go_wp2
            go_ret
            exact ⟨ret_bool HF.out.symm, bnew hb _⟩
          · have hu' : decide (31 < u) = false := by simp; omega
            have HF := hid (show (l.take (k + 1)).all isF = true by rw [all_snoc HX.out, HA.out]; simp [isF]; omega)
            go_wp2
            go_roundg (n - (k + 1))
            case measure => omega
            case rel => exact ⟨k + 1, by omega, rfl, by go_num, HF.out, bnew hb _⟩
    · have HF := hid (show l.all isF = true by have := HA.out; rwa [List.take_of_length_le (by rw [h.len]; omega)] at this)
      go_wp2
      go_ret
      exact ⟨ret_bool HF.out.symm, hb⟩
end Go.Proofs.Ytoeeaohgihipgaa
