/-
  The chapter's examples, in the statements of layer 8 (awake).
-/
import Derived.Test.YtgpmhmdofefdcaaGreatM8j
import Derived.Test.YtgpmhmdofefdcaaGreatB6f
namespace Go.Proofs.YtgpmhmdofefdcaaGreat
open Go.RowKit Go.Sort
set_option linter.unusedVariables false

theorem good1 : Good F1 := ⟨by decide, by decide, rfl⟩

theorem aw8_give (w : World) : Calls Tryz.prog 31 #[.agg ctZ, .agg #[.int .u32 1, .bool false, .bool false, .int .u8 0, .slice none 0 0]] w fun e w' => ∃ s', e = .returned (.tuple #[.agg (ctA (giC F1) s'), .int .i64 0]) ∧
    CtO w.heap.size w' (giC F1) s' ∧ Below w.heap.size w w' :=
  give_yes w c0 sl0 F1 good1 none 0 (CtO.zero 0 w).r (RL.nil _ _ _ _) rfl (by simp [c0]) (by simp [c0, s0])

theorem aw8_drive0 (w : World) : Calls Tryz.prog 43 #[.agg ctZ] w fun e w' => e = .returned (.bool true) ∧ Below w.heap.size w w' :=
  drive_any w c0 sl0 (CtO.zero 0 w).r (by decide) (fun e => by cases e)
theorem aw8_drive1 (w : World) (s : Sl) (h : CtR w (giC F1) s) : Calls Tryz.prog 43 #[.agg (ctA (giC F1) s)] w fun e w' => e = .returned (.bool false) ∧ Below w.heap.size w w' :=
  drive_any w (giC F1) s h (by decide) (fun e => by cases e)

end Go.Proofs.YtgpmhmdofefdcaaGreat
