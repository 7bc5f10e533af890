/-
  Contracts of the document's own answers of layer 2, the rest.
-/
import Derived.Test.YthpgcgkgokfnpaaB2c
namespace Go.Proofs.Ythpgcgkgokfnpaa
open Go.RowKit
set_option linter.unusedVariables false

theorem field1 (u v : Value) (w : World) : (Instr.field 27 (.agg #[u, v]) 1).run Try.prog w = .ok v w := by kernel_rfl

theorem five_any (w : World) (a : Option Addr) (n c : Nat) (l : List Bool) (h : RL .bool w a n c l) (hn : n ≤ 1000000) :
    Calls Try.prog 40 #[.slice a n c] w fun e w' => e = .returned (.bool (decide ((rowL l).2 = 5))) ∧ Below w.heap.size w w' := by
  obtain ⟨q, hq⟩ : ∃ q, q = (rowL l).2 := ⟨_, rfl⟩
  rw [← hq]
  have HQ := hid hq; clear hq
  have hf := fun u v w => field1 u v w
  by_cases h5 : q = 5
  · subst h5
    go_enter Try.func40, Try.ntmps40
    go_wp2_with (go_at_call 63; refine (row_any w a n c l h hn).mono ?_; rw [← HQ.out]; rintro e w2 ⟨rfl, g2⟩)
    go_ret
    exact ⟨rfl, g2⟩
  · have hd : decide (q = 5) = false := by simp [h5]
    rw [hd]
    go_enter Try.func40, Try.ntmps40
    go_wp2_with (go_at_call 63; refine (row_any w a n c l h hn).mono ?_; rw [← HQ.out]; rintro e w2 ⟨rfl, g2⟩)
    go_ret
    exact ⟨ret_bool (by simp; omega), g2⟩

end Go.Proofs.Ythpgcgkgokfnpaa
