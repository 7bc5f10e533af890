/-
  A cut at the head, of what reads in an earlier world.
-/
import Derived.Test.YtpnmnffefdjegaaBaseK
namespace Go.Proofs.Ytpnmnffefdjegaa
open Go.RowKit
set_option linter.unusedVariables false

/-- A cut of what reads as a list in some world (elements of k cells; of one): the cut itself asks nothing of memory. -/
theorem wpList_cutToK0 {P : Program} {T E : TypeId} {k : Nat} {z : Value} {bytes : Nat} {α : Type} {enc : α → List Value} {w w0 : World} {a : Option Addr} {n c : Nat} {l : List α} {ops : Array Oper} {rest : List Oper} {o : Oper} {ac : Act} {Q : Exit → Act → World → Prop} (hT : ElK P T E k z bytes) (hgd : o.guard = none) (s hi : Operand)
    (ho : o.op = .slice T s none (some hi) none) (kh : IntKind) (H : Int) (h0 : Nat) (hs : ac.eval s = .slice a n c) (hh : ac.eval hi = .int kh H) (hH : H = (h0 : Int))
    (hr : RK enc k w0 a n c l) (h2 : h0 ≤ n)
    (h : ∀ a', RK enc k w0 a' h0 c (l.take h0) → wpList P ops Q rest (ac.put o.dst (.slice a' h0 c)) w) : wpList P ops Q (o :: rest) ac w := by
  subst hH
  refine wpList_plain hgd fun K hK => ?_
  obtain ⟨a', he, hr'⟩ := hr.sliced 0 h0 k rfl (Nat.zero_le _) h2
  have hu : P.underlying T = some (.slice (P.elem T)) := by rw [hT.und, hT.el]
  have hrun := run_slice_h (P := P) w T a n c hu kh h0 (by omega) (by have := hr.cap; omega)
  unfold Oper.wp
  simp only [Int.toNat_natCast, run_sizeOf_k hT, Result.andThen] at hrun
  simp [execOp, ho, hs, hh, run_sliceAt_slice w T _ _ _ _ hu, hrun, he, Result.andThen]
  exact hK _ _ (h a' (by simpa using hr'))

theorem wpList_cutTo0 {P : Program} {T E : TypeId} {z : Value} {bytes : Nat} {α : Type} {f : α → Value} {w w0 : World} {a : Option Addr} {n c : Nat} {l : List α} {ops : Array Oper} {rest : List Oper} {o : Oper} {ac : Act} {Q : Exit → Act → World → Prop} (hT : ElT P T E z bytes) (hgd : o.guard = none) (s hi : Operand)
    (ho : o.op = .slice T s none (some hi) none) (kh : IntKind) (H : Int) (h0 : Nat) (hs : ac.eval s = .slice a n c) (hh : ac.eval hi = .int kh H) (hH : H = (h0 : Int))
    (hr : RL f w0 a n c l) (h2 : h0 ≤ n)
    (h : ∀ a', RL f w0 a' h0 c (l.take h0) → wpList P ops Q rest (ac.put o.dst (.slice a' h0 c)) w) : wpList P ops Q (o :: rest) ac w := by
  subst hH
  refine wpList_plain hgd fun K hK => ?_
  obtain ⟨a', he, hr'⟩ := hr.sliced 0 h0 1 rfl (Nat.zero_le _) h2
  have hu : P.underlying T = some (.slice (P.elem T)) := by rw [hT.und, hT.el]
  have hrun := run_slice_h (P := P) w T a n c hu kh h0 (by omega) (by have := hr.cap; omega)
  unfold Oper.wp
  simp only [Int.toNat_natCast, run_sizeOf_el hT, Result.andThen] at hrun
  simp [execOp, ho, hs, hh, run_sliceAt_slice w T _ _ _ _ hu, hrun, he, Result.andThen]
  exact hK _ _ (h a' (by simpa using hr'))
end Go.Proofs.Ytpnmnffefdjegaa
