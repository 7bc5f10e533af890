/-
  Words on a map of the call's own, from numbers of 32 bits to numbers.
-/
import Derived.Test.YtjekkjmjiljaeaaMp
namespace Go.Proofs.Ytjekkjmjiljaeaa
open Go.RowKit Go.Maps Go.Sort
set_option linter.unusedVariables false

theorem lawU : Keyed Try.prog 31 := int_keyed Try.underlying31
theorem wfU (x : Nat) (h : x < 4294967296) : (Lit.int .u32 (x : Int)).wf = true := by
  simp [Lit.wf, IntKind.min, IntKind.max, IntKind.signed, IntKind.bits]; omega
abbrev MU (w : World) (b n : Nat) (D : DataW Unit) : Prop := w.ownsMap Try.prog 31 (plainElem Try.prog 3) b n D
/-- The map reads 0 at just those keys that are not among ts. -/
def HitU (D : DataW Unit) (ts : List Nat) : Prop :=
  IsMap D ∧ ∀ t : Nat, ∃ c : Int, D.atKey (.int .u32 (t : Int)) (.lit (.int .i64 0)) = .lit (.int .i64 c) ∧ 0 ≤ c ∧ c ≤ ts.length ∧ (c = 0 ↔ t ∉ ts)
theorem hitU_made : HitU (.map []) [] := ⟨isMap_empty, fun t => ⟨0, rfl, by omega, by simp, by simp⟩⟩
theorem hitU_put {D : DataW Unit} {ts : List Nat} {t : Nat} {c : Int} (h : HitU D ts) (hc : D.atKey (.int .u32 (t : Int)) (.lit (.int .i64 0)) = .lit (.int .i64 c)) : HitU (D.put (.int .u32 (t : Int)) (.lit (.int .i64 (c + 1)))) (ts ++ [t]) := by
  refine ⟨h.1.put _ _, fun u => ?_⟩
  by_cases e : u = t
  · subst e
    obtain ⟨c', h1, h2, h3, h4⟩ := h.2 u
    rw [hc] at h1
    obtain rfl : c = c' := by simpa using h1
    refine ⟨c + 1, atKey_put_same h.1 (show WideAt.IsKeyLit (.int .u32 (u : Int)) by simp [WideAt.IsKeyLit]) _ _, by omega, by simp; omega, by simp; omega⟩
  · obtain ⟨c', h1, h2, h3, h4⟩ := h.2 u
    have hne : (Lit.int .u32 (u : Int)) ≠ (Lit.int .u32 (t : Int)) := fun e' => by
      injection e' with _ e2
      exact e (by omega)
    refine ⟨c', by rw [atKey_put_other hne]; exact h1, h2, by simp; omega, by rw [h4]; simp [e]⟩
section
variable {w w1 : World} {b n : Nat} {D : DataW Unit} {S : Nat → Prop}
theorem MU.at (h : MU w b n D) (k : w1.heap[b]? = w.heap[b]?) : MU w1 b n D := by
  obtain ⟨es, clock, hb, F, hs, hD⟩ := h
  exact ⟨es, clock, k.trans hb, F, hs, hD⟩
theorem MU.below (h : MU w b n D) (k : Below w.heap.size w w1) : MU w1 b n D := h.at (k.block b h.lt)
theorem mu_look (h : MU w b n D) {t : Nat} {c : Int} (hat : D.atKey (.int .u32 (t : Int)) (.lit (.int .i64 0)) = .lit (.int .i64 c)) (hwf : (Lit.int .u32 (t : Int)).wf = true) :
    (Instr.lookup 63 (.map (some b)) (.int .u32 (t : Int)) false).run Try.prog w = .ok (.int .i64 c) w := by
  obtain ⟨c', hrun, hat', _⟩ := World.ownsMap.lookup_int h lawU Try.underlying63 Try.underlying3 (zeroI _) (keyOf_int_mk Try.underlying31 hwf)
  rw [hat] at hat'
  obtain rfl : c = c' := by simpa using hat'
  exact hrun
end
end Go.Proofs.Ytjekkjmjiljaeaa
