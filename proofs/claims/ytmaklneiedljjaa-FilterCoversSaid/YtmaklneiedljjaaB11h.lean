/-
  A cut of a row of filters as an equation of any world; two lists, one behind the other: which is the first that lets a frame in.
-/
import Derived.Test.YtmaklneiedljjaaB11g
namespace Go.Proofs.Ytmaklneiedljjaa
open Go.RowKit Go.Sort
set_option linter.unusedVariables false

theorem cutK_eq {α : Type} {enc : α → List Value} {k : Nat} {T E : TypeId} {z : Value} {bytes : Nat} {w : World} {P : Program} {l : List α} {n c : Nat} {a : Option Addr} (hT : ElK P T E k z bytes) (hr : RK enc k w a n c l) (kh : IntKind) (h0 : Nat) (h2 : h0 ≤ n) :
    ∃ a', (∀ w', (Instr.sliceAt T (.slice a n c) none (some (.int kh (h0 : Int))) none).run P w' = .ok (.slice a' h0 c) w') ∧ RK enc k w a' h0 c (l.take h0) := by
  obtain ⟨a', he, hr'⟩ := hr.sliced 0 h0 k rfl (Nat.zero_le _) h2
  have hu : P.underlying T = some (.slice (P.elem T)) := by rw [hT.und, hT.el]
  refine ⟨a', fun w' => ?_, by simpa using hr'⟩
  have hrun := run_slice_h (P := P) w' T a n c hu kh h0 (by omega) (by have := hr.cap; omega)
  simp only [Int.toNat_natCast, run_sizeOf_k hT, Result.andThen] at hrun
  rw [run_sliceAt_slice w' T _ _ _ _ hu, hrun, he]; simp
theorem cutL_eq {α : Type} {f : α → Value} {T E : TypeId} {z : Value} {bytes : Nat} {w : World} {P : Program} {l : List α} {n c : Nat} {a : Option Addr} (hT : ElT P T E z bytes) (hr : RL f w a n c l) (kh : IntKind) (h0 : Nat) (h2 : h0 ≤ n) :
    ∃ a', (∀ w', (Instr.sliceAt T (.slice a n c) none (some (.int kh (h0 : Int))) none).run P w' = .ok (.slice a' h0 c) w') ∧ RL f w a' h0 c (l.take h0) := by
  obtain ⟨a', h1, h3, h4⟩ := run_cutTo hT hr kh h0 h2
  exact ⟨a', h1, h4⟩
theorem min_fact {P : Program} (n N k : Nat) (h : N = min n k) : ∀ ts t w', (Builtin.min_ ts t #[.int .i64 (n : Int), .int .i64 (k : Int)]).run P w' = .ok (.int .i64 (N : Int)) w' := fun ts t w' => by
  rw [run_min_int2]; congr 2; split <;> omega

theorem anyF_app (id : Nat) (e : Bool) (l m : List Fi) : anyF id e (l ++ m) = (anyF id e l || anyF id e m) := by simp [anyF, List.any_append]
theorem fiF_app1 {id : Nat} {e : Bool} {l m : List Fi} (h : anyF id e l = true) : fiF id e (l ++ m) = fiF id e l := by
  unfold fiF
  rw [anyF_app, h, Bool.true_or, if_pos rfl, if_pos rfl]
  congr 1
  rw [List.findIdx_append, if_pos]
  rw [anyF, List.any_eq_true] at h
  obtain ⟨x, hx, hp⟩ := h
  exact List.findIdx_lt_length_of_exists ⟨x, hx, hp⟩
theorem fiF_app2 {id : Nat} {e : Bool} {l m : List Fi} (h : anyF id e l = false) (h2 : anyF id e m = true) : fiF id e (l ++ m) = fiF id e m + (l.length : Int) := by
  unfold fiF
  rw [anyF_app, h, h2, Bool.false_or, if_pos rfl, if_pos rfl]
  have hf : ∀ y ∈ l, letsF id e y = false := by
    rw [anyF, List.any_eq_false] at h
    exact fun y hy => by simpa using h y hy
  rw [List.findIdx_append, List.findIdx_eq_length_of_false hf, if_neg (by omega)]
  omega
theorem fiF_pos {id : Nat} {e : Bool} {l : List Fi} (h : anyF id e l = true) : max (fiF id e l) 0 = fiF id e l := by
  have := fiF_ge id e l
  rw [h] at this
  have h0 : (0 : Int) ≤ fiF id e l := by simpa using this
  omega
theorem fiF_neg {id : Nat} {e : Bool} {l : List Fi} (h : anyF id e l = false) : max (fiF id e l) 0 = 0 := by rw [fiF_no h]; omega
end Go.Proofs.Ytmaklneiedljjaa
