/-
  Laws on a struct in the middle of a block: loaded in a drawn region, stored.
-/
import Derived.Test.YtgpmhmdofefdcaaGreatB1f
namespace Go.Proofs.YtgpmhmdofefdcaaGreat
open Go.RowKit Go.Sort
set_option linter.unusedVariables false

/-- No panic. -/
def noPn (Q : Exit → Act → World → Prop) : Exit → Act → World → Prop := fun e a w => match e with
  | .panic _ => False
  | e => Q e a w
theorem noPn_imp {Q : Exit → Act → World → Prop} {e : Exit} {a : Act} {w : World} (h : noPn Q e a w) : Q e a w := by
  cases e <;> first | exact h | exact h.elim

section
variable {P : Program} {ops : Array Oper} {rest : List Oper} {o : Oper} {a : Act} {w : World} {K : Act → World → Prop} {Q : Exit → Act → World → Prop} {S : World → Prop} {T : TypeId} {n : Nat}

theorem yields_loadM (hT : RowT P T n) (hw : Region.wanted o (yielded ops a.tmps) = true) (x : Operand) (ho : o.op = .load T x) (b off : Nat) (hx : a.eval x = .pointer (some ⟨b, off, none⟩)) (cs : Array Value) (hn : cs.size = n)
    (hS : ∀ w, S w → w.rangeAt b off cs.toList) : YieldsIf P ops S o (.agg cs) a := by
  obtain ⟨d, hu, hd⟩ := hT.und
  refine .inl ⟨hw, fun w h => ?_⟩
  have e := run_loadVar_mid (P := P) w b off T cs.toList d (hS w h) hu (by cases d <;> simp_all) (by rw [hT.size, Array.length_toList, hn])
  rw [Array.toArray_toList] at e
  unfold execOp
  simp only [ho, hx, Instr.loadAt, Instr.sureAddr, Sem.run_bind, Sem.run_pure, Result.andThen_ok, e]

/-- A struct is stored in the middle of a block. -/
theorem wpList_setM (hT : RowT P T n) (hgd : o.guard = none) (x y : Operand) (ho : o.op = .store T x y) (b off : Nat) (cells : Array Value) (hx : a.eval x = .pointer (some ⟨b, off, none⟩)) (hy : a.eval y = .agg cells)
    (ht : w.there b off n) (hn : cells.size = n) (h1 : cells.all (·.oneCell') = true) (h : ∀ w', Hid (w' = w.setCells b off cells.toList) → wpList P ops Q rest (a.put o.dst undef) w') : wpList P ops Q (o :: rest) a w :=
  wpList_plain hgd fun _ hK => wp_store_mid T x y ho b off cells hx hy (by rw [hn]; exact ht) (by rw [hT.size, hn]) h1 (hK _ _ (h _ (hid rfl)))
theorem draw_setM (hT : RowT P T n) (hgd : o.guard = none) (x y : Operand) (ho : o.op = .store T x y) (b off : Nat) (cells : Array Value) (hx : a.eval x = .pointer (some ⟨b, off, none⟩)) (hy : a.eval y = .agg cells)
    (ht : w.there b off n) (hn : cells.size = n) (h1 : cells.all (·.oneCell') = true) (h : ∀ w', Hid (w' = w.setCells b off cells.toList) → K (a.put o.dst undef) w') :
    if Region.wanted o (yielded ops a.tmps) = true then Oper.wp P o a w K Q else K (a.put o.dst undef) w := by
  rw [if_pos (by simp [Region.wanted, hgd])]
  exact wp_store_mid T x y ho b off cells hx hy (by rw [hn]; exact ht) (by rw [hT.size, hn]) h1 (h _ (hid rfl))
end
end Go.Proofs.YtgpmhmdofefdcaaGreat
