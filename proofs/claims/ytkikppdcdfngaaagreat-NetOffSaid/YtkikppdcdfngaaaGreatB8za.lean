/-
  Laws for calls in a region that draws its order; the statement CtlOverload's own function (run).
-/
import Derived.Test.YtkikppdcdfngaaaGreatB8z
namespace Go.Proofs.YtkikppdcdfngaaaGreat
open Go.RowKit Go.Sort
set_option linter.unusedVariables false

section
variable {ops : Array Oper} {o : Oper} {a : Act} {w : World} {K : Act → World → Prop} {Q : Exit → Act → World → Prop} {T : TypeId} {n : Nat}

/-- A function called, in a region that draws its order. -/
theorem draw_callF (F : FuncId) (hpl : plainFn F = true) (hw : Region.wanted o (yielded ops a.tmps) = true) (x : Operand) (xs : Array Operand) (ts : Array TypeId) (ho : o.op = Op.call { callee := .value x, args := xs, argTypes := ts }) (hx : a.eval x = .func (.func F) #[] #[])
    (args : Array Value) (ha : xs.map a.eval = args) (R : Ending → World → Prop) (hc : Calls Tryz.prog F args w R) (h : ∀ e w', R e w' → ∃ v, e = .returned v ∧ K (a.put o.dst v) w') :
    if Region.wanted o (yielded ops a.tmps) = true then Oper.wp Tryz.prog o a w K Q else K (a.put o.dst undef) w := by
  rw [if_pos hw]
  unfold Oper.wp
  have e : (execOp a.eval o).run Tryz.prog w = .ok (.enter F args) w := by
    subst ha
    have := call_plain hpl (xs.map a.eval) w
    simp [execOp, ho, resolve, Deferred.ofValue, hx, invoke, this]
  rw [e]
  refine hc.mono fun e w' hR => ?_
  obtain ⟨v, rfl, hk⟩ := h e w' hR
  exact hk

theorem draw_loadW (hT : RowT Tryz.prog T n) (hw : Region.wanted o (yielded ops a.tmps) = true) (x : Operand) (ho : o.op = .load T x)
    (g : Nat) (hx : a.eval x = .pointer (some ⟨g, 0, none⟩)) {t : TypeId} {cs : Array Value} {fr : Nat × Nat} (hg : w.heap[g]? = some (.cells cs t fr)) (hn : cs.size = n)
    (h : K (a.put o.dst (.agg cs)) w) : if Region.wanted o (yielded ops a.tmps) = true then Oper.wp Tryz.prog o a w K Q else K (a.put o.dst undef) w := by
  obtain ⟨d, hu, hd⟩ := hT.und
  rw [if_pos hw]
  exact wp_load_row T x ho g hx t cs fr d hg hu (by cases d <;> simp_all) (by rw [hT.size, hn]) h
end

theorem plain_step : plainFn 36 = true := by kernel_rfl

/-- A controller behind so many bits of one kind, and what happened last. -/
def ruC (c : Ct) (x : Bool) : Nat → Ct × Nat
  | 0 => (c, 0)
  | n + 1 => ((stC (ruC c x n).1 x).1, (stC (ruC c x n).1 x).2.1)

end Go.Proofs.YtkikppdcdfngaaaGreat
