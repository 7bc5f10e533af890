/-
  Laws for a region that draws its order, reads rows of cells, and calls functions of the program's own text; the bus of two.
-/
import Derived.Test.YtkikppdcdfngaaaGreatB1
import Derived.Deep.Quiet
namespace Go.Proofs.YtkikppdcdfngaaaGreat
open Go.RowKit Go.Sort
set_option linter.unusedVariables false

section
variable {ops : Array Oper} {rest : List Oper} {o : Oper} {a : Act} {C : World → Prop} {Q : Act → Prop} {T : TypeId} {n : Nat}

theorem quiet_loadR (hT : RowT Tryz.prog T n) (hgd : o.guard = none) (x : Operand) (ho : o.op = .load T x) (g : Nat) (hx : a.eval x = .pointer (some ⟨g, 0, none⟩)) {t : TypeId} {cs : Array Value} {fr : Nat × Nat}
    (hg : ∀ w, C w → w.heap[g]? = some (.cells cs t fr)) (hn : cs.size = n) (h : wpQuiet Tryz.prog ops C Q rest (a.put o.dst (.agg cs))) : wpQuiet Tryz.prog ops C Q (o :: rest) a := by
  obtain ⟨d, hu, hd⟩ := hT.und
  refine wpQuiet_step fun K hK => ?_
  rw [if_pos (by simp [Region.wanted, hgd])]
  refine ⟨.agg cs, fun w hw => ?_, hK _ h⟩
  have e := run_loadVar_row (P := Tryz.prog) w g t T cs fr d (hg w hw) hu (by cases d <;> simp_all) (by rw [hT.size, hn])
  unfold Oper.quietAt execOp
  simp only [ho, hx, Instr.loadAt, Instr.sureAddr, Sem.run_bind, Sem.run_pure, Result.andThen_ok, e]
  exact ⟨rfl, rfl⟩

theorem quiet_callF (F : FuncId) (hpl : plainFn F = true) (hgd : o.guard = none) (x : Operand) (xs : Array Operand) (ts : Array TypeId) (ho : o.op = Op.call { callee := .value x, args := xs, argTypes := ts }) (hx : a.eval x = .func (.func F) #[] #[])
    (args : Array Value) (ha : xs.map a.eval = args) (v : Value) (hc : ∀ w, C w → Calls Tryz.prog F args w fun e w'' => e = .returned v ∧ C w'') (h : wpQuiet Tryz.prog ops C Q rest (a.put o.dst v)) : wpQuiet Tryz.prog ops C Q (o :: rest) a := by
  refine wpQuiet_step fun K hK => ?_
  rw [if_pos (by simp [Region.wanted, hgd])]
  refine ⟨v, fun w hw => ?_, hK _ h⟩
  unfold Oper.quietAt
  have e : (execOp a.eval o).run Tryz.prog w = .ok (.enter F args) w := by
    subst ha
    have := call_plain hpl (xs.map a.eval) w
    simp [execOp, ho, resolve, Deferred.ofValue, hx, invoke, this]
  rw [e]
  exact ⟨rfl, hc w hw⟩

theorem quiet_assign (hgd : o.guard = none) (x : Operand) (ho : o.op = .assign x) (v : Value) (hx : a.eval x = v) (h : wpQuiet Tryz.prog ops C Q rest (a.put o.dst v)) : wpQuiet Tryz.prog ops C Q (o :: rest) a := by
  refine wpQuiet_step fun K hK => ?_
  rw [if_pos (by simp [Region.wanted, hgd])]
  refine ⟨v, fun w hw => ?_, hK _ h⟩
  unfold Oper.quietAt execOp
  simp [ho, hx, Oper.quietUpon, Sem.run_pure]
end

theorem plain_drive : plainFn 54 = true := by kernel_rfl
theorem bus_two (w : World) (x y : Bool) (q : Nat) (hq : q = w.heap.size) : Calls Tryz.prog 35 #[.slice (some ⟨q, 0, none⟩) 2 2] (w.alloc (.cells #[.bool x, .bool y] 4)) fun e w' => e = .returned (.bool (x && y)) ∧ (w.alloc (.cells #[.bool x, .bool y] 4)) = w' := by
  subst hq
  have h2 := (ol_lit Value.bool 4 0 w [x, y] #[.bool x, .bool y] 2 rfl rfl (by omega) (Nat.zero_le _)).rl
  have := bus_any _ _ 2 2 [x, y] h2 (by omega)
  rw [show [x, y].all id = (x && y) by simp] at this
  exact this
end Go.Proofs.YtkikppdcdfngaaaGreat
