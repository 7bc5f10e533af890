/-
  MailOrder: for every input the statement's function returns true, and its arguments read behind the call as before it. No condition.
-/
import Derived.Test.YtjekkjmjiljaeaaOpen
import Derived.Test.YtjekkjmjiljaeaaMailOrderWalk
import Derived.Test.YtjekkjmjiljaeaaB10
import Derived.Test.YtjekkjmjiljaeaaOpenS
namespace Go.Proofs.Ytjekkjmjiljaeaa
open Go.RowKit Go.ChangeShapes Go.WideShapes Go.ChangeAt
set_option linter.unusedVariables false

set_option maxRecDepth 100000 in
theorem mailOrder_contract (H : Type) (enc : TypeId × Value → H) (W : World) (base : Nat) (args : Array Value) (ds gs : List (DataW H)) (before : List MemPlace)
    (hval : ∀ (j : Nat) t v, Try.f5.params[j]? = some t → args[j]? = some v → Value.okWide Try.prog W .any base t v)
    (hW : DataW.Whole enc Try.prog Try.f5.params.toList Rows.mailOrderSpec.vars false W args.toList ds gs before)
    (hz : (DataW.weightsEach Try.prog (Try.f5.params.toList ++ Rows.mailOrderSpec.plain.varTypes Try.prog) (ds ++ gs)).all (· ≤ reachBytes) = true) :
    Calls Try.prog 5 args W fun e W' => ∃ v, e = .returned v ∧ Rows.mailOrderSpec.post enc Try.prog Try.f5 false true false false W args v W' := by
  have hW' := hW
  obtain ⟨p, q, hA0, hV, rfl, hfz, hnd⟩ := hW
  have hA : DataW.TrodAll enc Try.prog W 0 (fun _ => true) true Try.f5.params.toList args.toList ds p := hA0
  rw [Try.params5] at hA hval
  obtain ⟨v0, vs0, d0, ds0, p0, q0, hargs, rfl, rfl, h0, r0⟩ := trodAll_cons hA
  obtain ⟨v1, vs1, d1, ds1, p1, q1, rfl, rfl, rfl, h1, r1⟩ := trodAll_cons r0
  obtain ⟨rfl, rfl, rfl⟩ := trodAll_nil r1
  obtain rfl : args = #[v0, v1] := by cases args; simp_all
  clear hargs
  obtain ⟨rfl, rfl⟩ := trodVars_none hV
  obtain ⟨a0, n0, c0, fs0, rfl, hl0, hd0, m0⟩ := arg_frames (hval 0 47 v0 rfl rfl) h0
  obtain ⟨a1, n1, c1, l1, rfl, hl1, m1', hsp⟩ := arg_boolsS tB.und (by kernel_rfl) tB.size (hval 1 48 v1 rfl rfl) h1
  have m1 : n1 ≤ 140737488351232 := by
    rcases hsp with h0 | ⟨elems, spare, hd3, hle⟩
    · omega
    · have := sized_slice hz (j := 1) (t := 48) (e := 4) (elems := elems) (spare := spare) rfl (by rw [hd3]; rfl) tB.und
      rw [show Try.prog.bytesOf 4 = 1 by kernel_rfl, Nat.mul_one] at this
      exact Nat.le_trans hle (Nat.le_trans this (by decide))
  clear hA0 hsp hz
  refine (mailOrder_walk W a0 n0 c0 fs0 a1 n1 c1 l1 hl0 hl1 hd0 m0 m1).mono fun e W' ⟨he, hg⟩ => ?_
  subst he
  exact ⟨_, rfl, law_post (b := 4) laidOut rfl (by kernel_rfl) (by kernel_rfl) (by decide +kernel) hW' rfl hg⟩

set_option maxRecDepth 100000 in
theorem mailOrder_lifted (os : Os) (started : os.Started) (H : Type) (enc : TypeId × Value → H) :
    ReturnsInHanded {} Try.checked os 5 .any (Rows.mailOrderSpec.pre6 enc Try.prog Try.f5 Rows.mailOrderRow.domain false) (Rows.mailOrderSpec.post enc Try.prog Try.f5 false true false false) := by
  refine returnsInHanded_of_change_sized (C := Try.checked) own started (by kernel_rfl) Try.func5
    (ChangeSpec.witness6 (enc := enc) (C := Try.checked) false ⟨#[], #[.slice none 0 0, .slice none 0 0], []⟩ 8 (by kernel_rfl) (by kernel_rfl) (by kernel_rfl) (by kernel_rfl)) ?_
  intro W base args ds gs before hval hW _ hz _
  exact mailOrder_contract H enc W base args ds gs before hval hW hz

theorem mailOrder_holds : Rows.MailOrderSaid :=
  OpenClaim.holds_of_wide 5 Try.f5 rfl rfl rfl rfl rfl rfl rfl ⟨rfl, rfl, rfl, rfl, rfl⟩ rfl rfl rfl rfl rfl (by kernel_rfl) Try.func5 (by kernel_rfl)
    (of_decide_eq_true (by kernel_rfl)) (by unfold Func.isWrapper; first | (rw [if_pos (by decide +kernel)]; kernel_rfl) | (rw [if_neg (by decide +kernel)]; exact ⟨rfl, rfl⟩))
    (fun os started H enc _ => mailOrder_lifted os started H enc)
end Go.Proofs.Ytjekkjmjiljaeaa
