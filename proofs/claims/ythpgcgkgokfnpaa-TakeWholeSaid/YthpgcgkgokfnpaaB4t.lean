/-
  The statements' own examples (awake, stage 4).
-/
import Derived.Test.YthpgcgkgokfnpaaB4r
import Derived.Test.YthpgcgkgokfnpaaB4s
import Derived.Test.YthpgcgkgokfnpaaB4g
import Derived.Test.YthpgcgkgokfnpaaB4i
import Derived.Test.YthpgcgkgokfnpaaM4
namespace Go.Proofs.Ythpgcgkgokfnpaa
open Go.RowKit Go.Sort
set_option linter.unusedVariables false

theorem run_to {α : Type} {f : α → Value} {E T : TypeId} {z : Value} {bytes : Nat} {w : World} {P : Program} {l : List α} {n c : Nat} {a : Option Addr} (hT : ElT P T E z bytes) (hr : RL f w a n c l) (kh : IntKind) (H : Int) (h0 : Nat) (hH : H = (h0 : Int)) (h2 : h0 ≤ n) :
    ∃ a', (∀ w', (Instr.sliceAt T (.slice a n c) none (some (.int kh H)) none).run P w' = .ok (.slice a' h0 c) w') ∧ (∀ w', (Instr.slice T (.slice a n c) none (some (.int kh H)) none).run P w' = .ok (.slice a' h0 c) w') ∧ RL f w a' h0 c (l.take h0) := by
  subst hH
  exact run_cutTo hT hr kh h0 h2

def F0 : Fr := ⟨291, false, false, 1, [170]⟩
def b0 : List Bool := boL F0
theorem good0 : Good F0 := ⟨by decide, by decide, by decide⟩
theorem b0_len : b0.length = 42 := by decide +kernel
theorem b0_text : ((b0.take 27).map chB) = [100, 100, 100, 114, 100, 100, 114, 100, 100, 100, 114, 114, 100, 100, 100, 100, 100, 100, 114, 114, 100, 114, 100, 114, 100, 114, 100] := by decide +kernel

theorem aw_body0 (w : World) (a : Option Addr) (h : RL bv w a 1 1 [170]) :
    Calls Try.prog 16 #[.agg #[.int .u32 291, .bool false, .bool false, .int .u8 1, .slice a 1 1]] w fun e w' => ∃ a' c', e = .returned (.tuple #[.slice a' 42 c', .int .i64 0]) ∧ OL .bool 4 w.heap.size w' a' 42 c' b0 ∧ Below w.heap.size w w' :=
  body_any w 291 false false 1 a 1 1 [170] (by omega) (by omega) h (by decide)

theorem aw_body1 (w : World) :
    Calls Try.prog 16 #[.agg #[.int .u32 5, .bool true, .bool true, .int .u8 8, .slice none 0 0]] w fun e w' => ∃ a' c', e = .returned (.tuple #[.slice a' 54 c', .int .i64 0]) ∧ Below w.heap.size w w' :=
  (body_any w 5 true true 8 none 0 0 [] (by omega) (by omega) (RL.nil _ _ _ _) (by decide)).mono fun e w' ⟨a', c', he, _, hb⟩ => ⟨a', c', he, hb⟩

theorem aw_h18 (w : World) (a : Option Addr) (c : Nat) (h : RL .bool w a 18 c (b0.take 18)) :
    Calls Try.prog 47 #[.slice a 18 c] w fun e w' => e = .returned (.tuple #[.int .i64 0, .bool false]) ∧ Below w.heap.size w w' :=
  fhead_none w a 18 c _ h (by omega) (bo_take F0 good0 18 (by decide))

theorem aw_h19 (w : World) (a : Option Addr) (c : Nat) (h : RL .bool w a 19 c (b0.take 19)) :
    Calls Try.prog 47 #[.slice a 19 c] w fun e w' => e = .returned (.tuple #[.int .i64 42, .bool true]) ∧ Below w.heap.size w w' := by
  have e := bo_from F0 good0 []
  rw [List.append_nil] at e
  obtain ⟨h1, _, h3⟩ := he_head F0 good0 []
  rw [← e] at h1 h3
  have := fhead_any w a 19 c _ h (by omega) h1
  rw [show hdN (b0.take 19) = 42 from h3] at this
  exact this

theorem aw_parse (w : World) (a : Option Addr) (c : Nat) (h : RL .bool w a 42 c b0) :
    Calls Try.prog 28 #[.slice a 42 c] w fun e w' => ∃ a' c', e = .returned (.tuple #[.agg #[.int .u32 291, .bool false, .bool false, .int .u8 1, .slice a' 1 c'], .int .i64 0]) ∧ RL bv w' a' 1 c' [170] ∧ Below w.heap.size w w' := by
  obtain ⟨h1, h2, h3, h4, _⟩ := bo_all F0 good0
  have := parse_ok w a 42 c b0 h h1 h2
  rw [show reF b0 = ⟨291, false, false, 1, []⟩ from h3, show paD b0 = [170] from h4] at this
  exact this

theorem aw_same (w : World) (a : Option Addr) (a2 : Option Addr) (c2 : Nat) (h : RL bv w a 1 1 [170]) (h2 : RL bv w a2 1 c2 [170]) :
    Calls Try.prog 14 #[.agg #[.int .u32 291, .bool false, .bool false, .int .u8 1, .slice a 1 1], .agg #[.int .u32 291, .bool false, .bool false, .int .u8 1, .slice a2 1 c2]] w fun e w' => e = .returned (.bool true) ∧ Below w.heap.size w w' := by
  have := sameFrame_any w 291 false false 1 a 1 1 [170] 291 false false 1 a2 1 c2 [170] h h2
  rw [decide_eq_true rfl] at this
  exact this

theorem aw_right (w : World) : Calls Try.prog 31 #[.agg #[.int .u32 2048, .bool false, .bool false, .int .u8 0, .slice none 0 0]] w fun e w' => e = .returned (.bool false) ∧ Below w.heap.size w w' := by
  have := frRight_any w 2048 false false 0 none 0 0 (by omega) (by omega)
  rw [show riF 2048 false false 0 0 = false from by decide] at this
  exact this

theorem lit170 (w : World) : RL bv (w.alloc (.cells #[.int .u8 170] 5)) (some ⟨w.heap.size, 0, none⟩) 1 1 [170] := (ol_lit bv 5 w.heap.size w [170] #[.int .u8 170] 1 rfl rfl (by omega) (Nat.le_refl _)).rl

end Go.Proofs.Ythpgcgkgokfnpaa
