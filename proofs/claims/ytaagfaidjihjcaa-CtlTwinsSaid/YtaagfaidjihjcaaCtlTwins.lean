/-
  CtlTwins: for every input the statement's function returns true, and its arguments read behind the call as before it. No condition.
-/
import Derived.Test.YtaagfaidjihjcaaOpen
import Derived.Test.YtaagfaidjihjcaaCtlTwinsWalk
import Derived.Test.YtaagfaidjihjcaaOpen4
namespace Go.Proofs.Ytaagfaidjihjcaa
open Go.RowKit Go.ChangeShapes Go.WideShapes Go.ChangeAt
set_option linter.unusedVariables false

set_option maxRecDepth 100000 in
theorem ctlTwins_contract (H : Type) (enc : TypeId × Value → H) (W : World) (base : Nat) (args : Array Value) (ds gs : List (DataW H)) (before : List MemPlace)
    (hval : ∀ (j : Nat) t v, Try.f9.params[j]? = some t → args[j]? = some v → Value.okWide Try.prog W .any base t v)
    (hW : DataW.Whole enc Try.prog Try.f9.params.toList Rows.ctlTwinsSpec.vars false W args.toList ds gs before) :
    Calls Try.prog 9 args W fun e W' => ∃ v, e = .returned v ∧ Rows.ctlTwinsSpec.post enc Try.prog Try.f9 false true false false W args v W' := by
  have hW' := hW
  obtain ⟨p, q, hA0, hV, rfl, hfz, hnd⟩ := hW
  have hA : DataW.TrodAll enc Try.prog W 0 (fun _ => true) true Try.f9.params.toList args.toList ds p := hA0
  rw [Try.params9] at hA hval
  obtain ⟨v0, vs0, d0, ds0, p0, q0, hargs, rfl, rfl, h0, r0⟩ := trodAll_cons hA
  obtain ⟨v1, vs1, d1, ds1, p1, q1, rfl, rfl, rfl, h1, r1⟩ := trodAll_cons r0
  obtain ⟨rfl, rfl, rfl⟩ := trodAll_nil r1
  obtain rfl : args = #[v0, v1] := by cases args; simp_all
  clear hargs
  obtain ⟨rfl, rfl⟩ := trodVars_none hV
  obtain ⟨id0, ext0, rem0, dlc0, a0, n0, c0, l0, rfl, hi0, hd0, hl0, m0⟩ := arg_frame (hval 0 25 v0 rfl rfl) h0
  obtain ⟨id1, ext1, rem1, dlc1, a1, n1, c1, l1, rfl, hi1, hd1, hl1, m1⟩ := arg_frame (hval 1 25 v1 rfl rfl) h1
  clear hA0
  refine (ctlTwins_walk W id0 ext0 rem0 dlc0 a0 n0 c0 l0 id1 ext1 rem1 dlc1 a1 n1 c1 l1 hi0 hd0 hl0 hi1 hd1 hl1 m0 m1).mono fun e W' ⟨he, hg⟩ => ?_
  subst he
  exact ⟨_, rfl, law_post (b := 4) laidOut rfl (by kernel_rfl) (by kernel_rfl) (by decide +kernel) hW' rfl hg⟩

set_option maxRecDepth 100000 in
theorem ctlTwins_lifted (os : Os) (started : os.Started) (H : Type) (enc : TypeId × Value → H) :
    ReturnsInHanded {} Try.checked os 9 .any (Rows.ctlTwinsSpec.pre6 enc Try.prog Try.f9 Rows.ctlTwinsRow.domain false) (Rows.ctlTwinsSpec.post enc Try.prog Try.f9 false true false false) := by
  refine returnsInHanded_of_change (C := Try.checked) own started (by kernel_rfl) Try.func9
    (ChangeSpec.witness6 (enc := enc) (C := Try.checked) false ⟨#[], #[.agg #[.int .u32 0, .bool false, .bool false, .int .u8 0, .slice none 0 0], .agg #[.int .u32 0, .bool false, .bool false, .int .u8 0, .slice none 0 0]], []⟩ 8 (by kernel_rfl) (by kernel_rfl) (by kernel_rfl) (by kernel_rfl)) ?_
  intro W base args ds gs before hval hW _ _
  exact ctlTwins_contract H enc W base args ds gs before hval hW

theorem ctlTwins_holds : Rows.CtlTwinsSaid :=
  OpenClaim.holds_of_wide 9 Try.f9 rfl rfl rfl rfl rfl rfl rfl ⟨rfl, rfl, rfl, rfl, rfl⟩ rfl rfl rfl rfl rfl (by kernel_rfl) Try.func9 (by kernel_rfl)
    (of_decide_eq_true (by kernel_rfl)) (by unfold Func.isWrapper; first | (rw [if_pos (by decide +kernel)]; kernel_rfl) | (rw [if_neg (by decide +kernel)]; exact ⟨rfl, rfl⟩))
    (fun os started H enc _ => ctlTwins_lifted os started H enc)
end Go.Proofs.Ytaagfaidjihjcaa
