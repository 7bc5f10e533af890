/-
  Contracts: whether two slices of flips are the same; the document's own words for a flip and its order.
-/
import Derived.Test.YtoeeaohgihipgaaB5c
import Derived.Deep.QuietTactic
import Derived.Deep.Light
import Derived.WalkSmall
namespace Go.Proofs.Ytoeeaohgihipgaa
open Go.RowKit Go.Sort
set_option linter.unusedVariables false

theorem eqF (s s2 : Int) (u u2 : Nat) (w : World) : (binOp .eql 38 (.agg #[.int .i64 s, .int .u8 (u : Int)]) (.agg #[.int .i64 s2, .int .u8 (u2 : Int)])).run Try.prog w = .ok (.bool (decide ((s, u) = (s2, u2)))) w := by
  have u3 := Try.underlying3
  have a3 := Try.isAgg3
  have z3 := Try.sizeOf3
  have u5 := Try.underlying5
  have a5 := Try.isAgg5
  have z5 := Try.sizeOf5
  have hS : Try.prog.underlying 38 = some (.struct (Try.prog.fieldsOf 38)) := by kernel_rfl
  have hp : Try.prog.stoodInHeld 38 = false := by kernel_rfl
  rw [run_eql_struct, show (10000 : Nat) = 9999 + 1 from rfl, run_equalIn_agg w 9999 38 _ _ hS hp]
  simp only [Program.fieldsOf, Try.underlying38]
  go_simp
  by_cases h1 : s = s2 <;> by_cases h2 : u = u2 <;> simp [h1, h2] <;> omega

theorem neF (s s2 : Int) (u u2 : Nat) (w : World) : (binOp .neq 38 (.agg #[.int .i64 s, .int .u8 (u : Int)]) (.agg #[.int .i64 s2, .int .u8 (u2 : Int)])).run Try.prog w = .ok (.bool (!decide ((s, u) = (s2, u2)))) w := by
  have u3 := Try.underlying3
  have a3 := Try.isAgg3
  have z3 := Try.sizeOf3
  have u5 := Try.underlying5
  have a5 := Try.isAgg5
  have z5 := Try.sizeOf5
  have hS : Try.prog.underlying 38 = some (.struct (Try.prog.fieldsOf 38)) := by kernel_rfl
  have hp : Try.prog.stoodInHeld 38 = false := by kernel_rfl
  rw [run_neq_struct, show (10000 : Nat) = 9999 + 1 from rfl, run_equalIn_agg w 9999 38 _ _ hS hp]
  simp only [Program.fieldsOf, Try.underlying38]
  go_simp
  by_cases h1 : s = s2 <;> by_cases h2 : u = u2 <;> simp [h1, h2] <;> omega

theorem guF : Try.prog.eqGuardType Try.prog.depth 38 = false := by kernel_rfl
theorem may_any (w : World) (s : Int) (u : Nat) : Calls Try.prog 27 #[.agg #[.int .i64 s, .int .u8 (u : Int)]] w fun e w' => e = .returned (.bool (isF (s, u))) ∧ Below w.heap.size w w' := by
  by_cases hs0 : s < 0
  · have hF : isF (s, u) = false := by simp [isF]; omega
    rw [hF]; clear hF
    go_enter Try.func27, Try.ntmps27
    go_wp2
    go_ret
    exact ⟨rfl, bnew0 w _⟩
  · by_cases hs1 : 1099511627776 < s
    · have hF : isF (s, u) = false := by simp [isF]; omega
      rw [hF]; clear hF
      go_enter Try.func27, Try.ntmps27
      go_wp2
      go_ret
      exact ⟨rfl, bnew0 w _⟩
    · by_cases hu : 31 < (u : Int)
      · have hF : isF (s, u) = false := by simp [isF]; omega
        rw [hF]; clear hF
        have hu' : decide (u ≤ 31) = false := by simp; omega
        have hu2 : decide ((u : Int) ≤ 31) = false := by simp; omega
        go_enter Try.func27, Try.ntmps27
        go_wp2
        go_ret
        exact ⟨rfl, bnew0 w _⟩
      · have hF : isF (s, u) = true := by simp [isF]; omega
        rw [hF]; clear hF
        have hu' : decide (u ≤ 31) = true := by simp; omega
        have hu2 : decide ((u : Int) ≤ 31) = true := by simp; omega
        go_enter Try.func27, Try.ntmps27
        go_wp2
        go_ret
        exact ⟨rfl, bnew0 w _⟩

theorem lists_any (w : World) (a : Option Addr) (n c : Nat) (l : List Fl) (a2 : Option Addr) (n2 c2 : Nat) (l2 : List Fl) (h : RK fe 2 w a n c l) (h2 : RK fe 2 w a2 n2 c2 l2) (hn : n ≤ 1000000) :
    Calls Try.prog 13 #[.slice a n c, .slice a2 n2 c2] w fun e w' => e = .returned (.bool (decide (l = l2))) ∧ Below w.heap.size w w' := by
  by_cases hne : n = n2
  · subst hne
    have HE : Hid (∀ k, l.take k = l2.take k → n ≤ k → l = l2) := fun k hk hkn => by
      rwa [List.take_of_length_le (by rw [h.len]; omega), List.take_of_length_le (by rw [h2.len]; omega)] at hk
    go_enter Try.func13, Try.ntmps13
    go_wp2
    go_loopg [13] n (fun gn i wr => ∃ k : Nat, k ≤ n ∧ gn = n - k ∧ i = .int .i64 k ∧ l.take k = l2.take k ∧ Below w.heap.size w wr)
    case atStart => exact ⟨0, by omega, by omega, rfl, rfl, Below.refl _ _⟩
    case round =>
      obtain ⟨k, hk, rfl, rfl, hall, hb⟩ := hrel
      have HA := hid hall; clear hall
      by_cases hlt : k < n
      · obtain ⟨b, off, s, u, rfl, hx, hbk, hc0, hc1⟩ := rf_at (h.below hb) hlt
        obtain ⟨b2, off2, s2, u2, rfl, hx2, hbk2, hc2, hc3⟩ := rf_at (h2.below hb) hlt
        have HX := hid hx; clear hx
        have HX2 := hid hx2; clear hx2
        have hgu := guF
        by_cases hxx : (s, u) = (s2, u2)
        · have hq := fun w' => neF s s2 u u2 w'
          rw [decide_eq_true hxx] at hq
          have HXX := hid hxx; clear hxx
          go_wp2
          go_quiet (fail)
          go_wp2
          go_roundg (n - (k + 1))
          case measure => omega
          case rel => exact ⟨k + 1, by omega, rfl, by go_num, by rw [take_more HX.out, take_more HX2.out, HA.out, HXX.out], below_drewN hb _⟩
        · have hq := fun w' => neF s s2 u u2 w'
          rw [decide_eq_false hxx] at hq
          have HXX := hid hxx; clear hxx
          go_wp2
          go_quiet (fail)
          go_wp2
          go_ret
          exact ⟨ret_bool (decide_eq_false (fun e => HXX.out (by have := HX.out; rw [e, HX2.out] at this; exact (by simpa using this.symm)))).symm, below_drewN hb _⟩
      · have hl := HE.out k HA.out (by omega)
        have HL := hid hl; clear hl
        go_wp2
        go_ret
        exact ⟨ret_bool (decide_eq_true HL.out).symm, hb⟩
  · have HN : Hid (¬ l = l2) := fun e => by
      subst e; exact hne (h.len.symm.trans h2.len)
    have hd : ((n : Int) == (n2 : Int)) = false := by simp; omega
    have hd' : ((n : Int) != (n2 : Int)) = true := by simp; omega
    go_enter Try.func13, Try.ntmps13
    go_wp2
    go_ret
    exact ⟨ret_bool (decide_eq_false HN.out).symm, Below.refl _ _⟩
end Go.Proofs.Ytoeeaohgihipgaa
