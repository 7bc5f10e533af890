/-
  Contracts of the statements' own helpers on bits (Same, Anew, Text): each returns what a plain function on lists says.
-/
import Derived.Test.YthpgcgkgokfnpaaBase
import Derived.Test.YthpgcgkgokfnpaaM1
namespace Go.Proofs.Ythpgcgkgokfnpaa
open Go.RowKit
set_option linter.unusedVariables false

theorem tB : ElT Try.prog 22 4 (.bool false) 1 := ⟨by kernel_rfl, by kernel_rfl, by kernel_rfl, by kernel_rfl, by kernel_rfl⟩

theorem same_any (w : World) (a : Option Addr) (n c : Nat) (l : List Bool) (a2 : Option Addr) (n2 c2 : Nat) (l2 : List Bool) (h : RL .bool w a n c l) (h2 : RL .bool w a2 n2 c2 l2) (hn : n ≤ 1000000) :
    Calls Try.prog 18 #[.slice a n c, .slice a2 n2 c2] w fun e w' => e = .returned (.bool (decide (l = l2))) ∧ w = w' := by
  by_cases hne : n = n2
  · subst hne
    have HE : Hid (∀ k, l.take k = l2.take k → n ≤ k → l = l2) := fun k hk hkn => by
      rwa [List.take_of_length_le (by rw [h.len]; omega), List.take_of_length_le (by rw [h2.len]; omega)] at hk
    go_enter Try.func18, Try.ntmps18
    go_wp2
    go_loop [14] (fun i => ∃ k : Nat, k ≤ n ∧ i = .int .i64 k ∧ l.take k = l2.take k) (fun i => n - (intOf i).toNat)
    case atStart => exact ⟨0, Nat.zero_le _, rfl, rfl⟩
    case round =>
      obtain ⟨k, hk, rfl, hall⟩ := hrel
      have HA := hid hall; clear hall
      by_cases hlt : k < n
      · obtain ⟨b, off, x, rfl, hx, hck⟩ := h.at hlt
        obtain ⟨b2, off2, x2, rfl, hx2, hck2⟩ := h2.at hlt
        have HX := hid hx; clear hx
        have HX2 := hid hx2; clear hx2
        by_cases hxx : x = x2
        · subst hxx
          go_wp2
          go_round
          case rel => exact ⟨k + 1, by omega, by go_num, by rw [take_snoc HX.out, take_snoc HX2.out, HA.out]⟩
          case measure => simp [intOf]; omega
        · have HN : Hid (¬ l = l2) := fun e => by
            have := HX.out; rw [e, HX2.out] at this; exact hxx (by simpa using this.symm)
          have hb : (x2 == x) = false := by simp; exact fun e => hxx e.symm
          have hb' : (x2 != x) = true := by simp; exact fun e => hxx e.symm
          clear hxx
          go_wp2
          go_ret
          exact ⟨ret_bool (decide_eq_false HN.out).symm, rfl⟩
      · have hl := HE.out k HA.out (by omega)
        have HL := hid hl; clear hl
        go_wp2
        go_ret
        exact ⟨ret_bool (decide_eq_true HL.out).symm, rfl⟩
  · have HN : Hid (¬ l = l2) := fun e => by
      subst e; exact hne (h.len.symm.trans h2.len)
    have hd : ((n : Int) == (n2 : Int)) = false := by simp; omega
    have hd' : ((n : Int) != (n2 : Int)) = true := by simp; omega
    go_enter Try.func18, Try.ntmps18
    go_wp2
    go_ret
    exact ⟨ret_bool (decide_eq_false HN.out).symm, rfl⟩

theorem anew_any (w : World) (a : Option Addr) (n c : Nat) (l : List Bool) (h : RL .bool w a n c l) (hn : n ≤ 1000000) :
    Calls Try.prog 20 #[.slice a n c] w fun e w' => ∃ a' c', e = .returned (.slice a' n c') ∧ OL .bool 4 w.heap.size w' a' n c' l ∧ Below w.heap.size w w' := by
  go_enter Try.func20, Try.ntmps20
  go_wp2_with (first
    | (at_make; refine wpList_mk (f := Value.bool) (n := n) tB false rfl rfl _ _ rfl _ _ _ _ rfl rfl rfl rfl (by omega) (by omega) ?_; intro w1 hown hb1 hs1)
    | (with_reducible refine wpList_cp (f := Value.bool) (n := n) tB rfl _ _ rfl rfl rfl hown (h.below hb1) (fun _ => rfl) ?_; intro w2 hown2 hb2))
  go_ret
  exact ⟨_, _, rfl, hown2, hb1.trans hb2⟩

/-- A bit as its letter. -/
def chB (x : Bool) : UInt8 := if x then 114 else 100

end Go.Proofs.Ythpgcgkgokfnpaa
