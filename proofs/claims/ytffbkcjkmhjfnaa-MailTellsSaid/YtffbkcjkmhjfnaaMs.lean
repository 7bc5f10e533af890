/-
  Laws on steps of a region that draws its order: cuts as equations, a list appended that may be empty, a closure called.
-/
import Derived.Test.YtffbkcjkmhjfnaaB10n
import Derived.Deep.Upon
namespace Go.Proofs.Ytffbkcjkmhjfnaa
open Go.RowKit Go.Sort
set_option linter.unusedVariables false

section
variable {α : Type} {enc : α → List Value} {k : Nat} {T E : TypeId} {z : Value} {bytes : Nat} {w : World} {P : Program} {l : List α} {n c : Nat} {a : Option Addr}

theorem cutTo_eq (hT : ElK P T E k z bytes) (hr : RK enc k w a n c l) (kh : IntKind) (h0 : Nat) (h2 : h0 ≤ n) :
    ∃ a', (∀ w', (Instr.sliceAt T (.slice a n c) none (some (.int kh (h0 : Int))) none).run P w' = .ok (.slice a' h0 c) w') ∧ RK enc k w a' h0 c (l.take h0) := by
  obtain ⟨a', he, hr'⟩ := hr.sliced 0 h0 k rfl (Nat.zero_le _) h2
  have hu : P.underlying T = some (.slice (P.elem T)) := by rw [hT.und, hT.el]
  refine ⟨a', fun w' => ?_, by simpa using hr'⟩
  have hrun := run_slice_h (P := P) w' T a n c hu kh h0 (by omega) (by have := hr.cap; omega)
  simp only [Int.toNat_natCast, run_sizeOf_k hT, Result.andThen] at hrun
  rw [run_sliceAt_slice w' T _ _ _ _ hu, hrun, he]; simp

theorem cutFrom_eq (hT : ElK P T E k z bytes) (hr : RK enc k w a n c l) (kl : IntKind) (l0 : Nat) (h2 : l0 ≤ n) :
    ∃ a', (∀ w', (Instr.sliceAt T (.slice a n c) (some (.int kl (l0 : Int))) none none).run P w' = .ok (.slice a' (n - l0) (c - l0)) w') ∧ RK enc k w a' (n - l0) (c - l0) (l.drop l0) := by
  obtain ⟨a', he, hr'⟩ := hr.sliced l0 n k rfl h2 (Nat.le_refl _)
  rw [← hr.len, List.take_length, hr.len] at hr'
  have hu : P.underlying T = some (.slice (P.elem T)) := by rw [hT.und, hT.el]
  refine ⟨a', fun w' => ?_, hr'⟩
  have hrun := run_slice_l (P := P) w' T a n c hu kl l0 (by omega) (by omega)
  simp only [Int.toNat_natCast, run_sizeOf_k hT, Result.andThen] at hrun
  rw [run_sliceAt_slice w' T _ _ _ _ hu, hrun, he]

theorem src_none {size : Nat} {tx e' : TypeId} (hk : P.underlying tx = some (.slice e')) (a : Option Addr) (c : Nat) : Src P size tx (.slice a 0 c) 0 [] w := by
  cases a with
  | none => exact Src.ofNil w hk c
  | some a => exact Src.ofSlice w hk a 0 c [] (by simp) (fun j u h => by simp at h) (fun u h => by cases h)

/-- A list appended, that may be empty. -/
theorem step_appgK0 {m : List α} {B : Nat} {ops : Array Oper} {o : Oper} {ac : Act} {K : Act → World → Prop} {Q : Exit → Act → World → Prop} {R : Prop}
    (hT : ElK P T E k z bytes) (hk : EnK enc k) (hgd : o.guard = none) (s x : Operand)
    (ho : o.op = .call { callee := .builtin .append, args := #[s, x], argTypes := #[T, T] })
    {a2 : Option Addr} {n2 c2 : Nat} (hs : ac.eval s = .slice a n c) (hown : OK enc k E B w a n c l) (hx : ac.eval x = .slice a2 n2 c2) (hr : RK enc k w a2 n2 c2 m)
    (h63 : n + n2 ≤ 1000000000) (hby : bytes ≤ 64) (hbase : B ≤ w.heap.size)
    (h : ∀ w' a' c', OK enc k E B w' a' (n + n2) c' (l ++ m) → Below B w w' → w.heap.size ≤ w'.heap.size → K (ac.put o.dst (.slice a' (n + n2) c')) w') :
    if Region.wanted o (yielded ops ac.tmps) = true then Oper.wp P o ac w K Q else R := by
  by_cases h0 : 0 < n2
  · exact step_appgK hT hk hgd s x ho hs hown hx hr h0 h63 hby hbase fun w' a' c' o1 g1 _ z1 => h w' a' c' o1 g1 z1
  · obtain rfl : n2 = 0 := by omega
    obtain rfl : m = [] := List.length_eq_zero_iff.1 hr.len
    rw [if_pos (by simp [Region.wanted, hgd])]
    obtain ⟨i, hi, hz0, hz1, hz2⟩ := info_parts hT.info
    have hrun := run_append_nothing (P := P) w T T o.type E i hT.und hi a n c hown.cap (.slice a2 0 c2) (src_none hT.und a2 c2)
    unfold Oper.wp execOp
    simp only [ho, resolve, invoke, builtin, Sem.run_bind, Sem.run_pure, Result.andThen_ok, List.map_toArray, List.map_cons, List.map_nil, hs, hx, hrun]
    exact h w a c (by rw [List.append_nil]; exact hown) (Below.refl _ _) (Nat.le_refl _)
end

section
variable {ops : Array Oper} {o : Oper} {a : Act} {w : World} {K : Act → World → Prop} {Q : Exit → Act → World → Prop}
/-- A closure called, in a region that draws its order. -/
theorem draw_callC (F : FuncId) (hpl : plainFn F = true) (hw : Region.wanted o (yielded ops a.tmps) = true) (x : Operand) (xs : Array Operand) (ts : Array TypeId) (ho : o.op = Op.call { callee := .value x, args := xs, argTypes := ts }) (cap : Array Value) (hx : a.eval x = .func (.func F) #[] cap)
    (args : Array Value) (ha : xs.map a.eval ++ cap = args) (R : Ending → World → Prop) (hc : Calls Try.prog F args w R) (h : ∀ e w', R e w' → ∃ v, e = .returned v ∧ K (a.put o.dst v) w') :
    if Region.wanted o (yielded ops a.tmps) = true then Oper.wp Try.prog o a w K Q else K (a.put o.dst undef) w := by
  rw [if_pos hw]
  unfold Oper.wp
  have e : (execOp a.eval o).run Try.prog w = .ok (.enter F args) w := by
    subst ha
    have := call_plain hpl (xs.map a.eval ++ cap) w
    simp [execOp, ho, resolve, Deferred.ofValue, hx, invoke, this]
  rw [e]
  refine hc.mono fun e w' hR => ?_
  obtain ⟨v, rfl, hk⟩ := h e w' hR
  exact hk
end
end Go.Proofs.Ytffbkcjkmhjfnaa
