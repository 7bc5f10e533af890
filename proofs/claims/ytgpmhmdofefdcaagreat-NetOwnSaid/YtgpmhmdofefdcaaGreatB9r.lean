/-
  Laws for regions that draw their order: two operations ready at once, whole elements of rows, closures with what they hold.
-/
import Derived.Test.YtgpmhmdofefdcaaGreatB9f
import Derived.Test.YtgpmhmdofefdcaaGreatB8za
import Derived.Test.YtgpmhmdofefdcaaGreatB1f
import Derived.Test.YtgpmhmdofefdcaaGreatFrs
import Derived.Test.YtgpmhmdofefdcaaGreatLdM
namespace Go.Proofs.YtgpmhmdofefdcaaGreat
open Go.RowKit Go.Sort
set_option linter.unusedVariables false

section
variable {P : Program} {md : Region.Mode} {ops : Array Oper} {Q : Exit → Act → World → Prop} {S : World → Prop} {X : List Nat} {i j m : Nat} {o oi oj : Oper} {l : Array Bool} {a : Act} {w : World}
/-- Two may come up now. -/
theorem Rest.two (hr : Region.ready md ops l = [i, j]) (hoi : ops[i]? = some oi) (hoj : ops[j]? = some oj)
    (h : ∀ K' : Act → World → Prop, (∀ a w, (S w ∨ Thru X (l.setIfInBounds i true)) ∧ Rest P md ops Q S X m (l.setIfInBounds i true) a w → K' a w) → if Region.wanted oi (yielded ops a.tmps) = true then Oper.wp P oi a w K' Q else K' (a.put oi.dst undef) w)
    (h' : ∀ K' : Act → World → Prop, (∀ a w, (S w ∨ Thru X (l.setIfInBounds j true)) ∧ Rest P md ops Q S X m (l.setIfInBounds j true) a w → K' a w) → if Region.wanted oj (yielded ops a.tmps) = true then Oper.wp P oj a w K' Q else K' (a.put oj.dst undef) w) :
    Rest P md ops Q S X (m + 1) l a w :=
  ⟨fun h0 => (by rw [hr] at h0; cases h0), fun q hq => by
    rw [hr] at hq
    have : q = i ∨ q = j := by simpa using hq
    rcases this with rfl | rfl
    · exact wpOp_step hoi h
    · exact wpOp_step hoj h'⟩

end


section
variable {ops : Array Oper} {rest : List Oper} {o : Oper} {a : Act} {C : World → Prop} {Q : Act → Prop}
/-- A closure called, where all only read. -/
theorem quiet_callC (F : FuncId) (caps : Array Value) (hpl : plainFn F = true) (hgd : o.guard = none) (x : Operand) (xs : Array Operand) (ts : Array TypeId) (ho : o.op = Op.call { callee := .value x, args := xs, argTypes := ts }) (hx : a.eval x = .func (.func F) #[] caps)
    (args : Array Value) (ha : xs.map a.eval ++ caps = args) (v : Value) (hc : ∀ w, C w → Calls Tryz.prog F args w fun e w'' => e = .returned v ∧ C w'') (h : wpQuiet Tryz.prog ops C Q rest (a.put o.dst v)) : wpQuiet Tryz.prog ops C Q (o :: rest) a := by
  refine wpQuiet_step fun K hK => ?_
  rw [if_pos (by simp [Region.wanted, hgd])]
  refine ⟨v, fun w hw => ?_, hK _ h⟩
  unfold Oper.quietAt
  have e : (execOp a.eval o).run Tryz.prog w = .ok (.enter F args) w := by
    subst ha
    have := call_plain hpl (xs.map a.eval ++ caps) w
    simp [execOp, ho, resolve, Deferred.ofValue, hx, invoke, this]
  rw [e]
  exact ⟨rfl, hc w hw⟩
end
section
variable {ops : Array Oper} {o : Oper} {a : Act} {w : World} {K : Act → World → Prop} {Q : Exit → Act → World → Prop}
/-- A closure called, in a region that draws its order. -/
theorem draw_callC (F : FuncId) (caps : Array Value) (hpl : plainFn F = true) (hw : Region.wanted o (yielded ops a.tmps) = true) (x : Operand) (xs : Array Operand) (ts : Array TypeId) (ho : o.op = Op.call { callee := .value x, args := xs, argTypes := ts }) (hx : a.eval x = .func (.func F) #[] caps)
    (args : Array Value) (ha : xs.map a.eval ++ caps = args) (R : Ending → World → Prop) (hc : Calls Tryz.prog F args w R) (h : ∀ e w', R e w' → ∃ v, e = .returned v ∧ K (a.put o.dst v) w') :
    if Region.wanted o (yielded ops a.tmps) = true then Oper.wp Tryz.prog o a w K Q else K (a.put o.dst undef) w := by
  rw [if_pos hw]
  unfold Oper.wp
  have e : (execOp a.eval o).run Tryz.prog w = .ok (.enter F args) w := by
    subst ha
    have := call_plain hpl (xs.map a.eval ++ caps) w
    simp [execOp, ho, resolve, Deferred.ofValue, hx, invoke, this]
  rw [e]
  refine hc.mono fun e w' hR => ?_
  obtain ⟨v, rfl, hk⟩ := h e w' hR
  exact hk
end
theorem plain_step2 : plainFn 24 = true := by kernel_rfl
end Go.Proofs.YtgpmhmdofefdcaaGreat
