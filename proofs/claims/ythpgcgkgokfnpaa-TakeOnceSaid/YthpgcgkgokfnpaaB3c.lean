/-
  Contracts of layer 3, more of them: crc.Bits, and the document's own answers, Sum and Bits.
-/
import Derived.Test.YthpgcgkgokfnpaaB3b
import Derived.Test.YthpgcgkgokfnpaaB1f
import Derived.Test.YthpgcgkgokfnpaaBase2
namespace Go.Proofs.Ythpgcgkgokfnpaa
open Go.RowKit
set_option linter.unusedVariables false

theorem bits_any (w : World) (x : Nat) (hx : x < 65536) :
    Calls Try.prog 34 #[.int .u16 (x : Int)] w fun e w' => ∃ a c, e = .returned (.slice a 15 c) ∧ OL .bool 4 w.heap.size w' a 15 c (ofL x 15) ∧ Below w.heap.size w w' := by
  have hc : clampM 15 = 15 := by decide
  go_enter Try.func34, Try.ntmps34
  go_wp2_with (go_at_call 56; refine (of_any w x 15 (by omega) (by omega)).mono ?_; rw [hc]; rintro e w1 ⟨a1, c1, rfl, hol1, hb1⟩)
  go_ret
  exact ⟨_, _, rfl, hol1, hb1⟩

theorem half14 (k : Nat) (hk : k ≤ 15) : 16384 / 2 ^ k = if k = 15 then 0 else 2 ^ (14 - k) := by
  by_cases h : k = 15
  · subst h; rfl
  · rw [if_neg h, show (16384 : Nat) = 2 ^ 14 from rfl, Nat.pow_div (by omega) (by decide)]

end Go.Proofs.Ythpgcgkgokfnpaa
