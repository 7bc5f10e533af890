/-
  The chapter's own examples of layer 3 hold: 'awake' returns true.
-/
import Derived.Test.YtlddkbcmbhacpaaB3d
import Derived.Lib.SlBytesConst
namespace Go.Proofs.Ytlddkbcmbhacpaa
open Go.RowKit
set_option linter.unusedVariables false

def nine : List UInt8 := [49, 50, 51, 52, 53, 54, 55, 56, 57]

theorem suV_ex0 : ((suV []).toNat : Int) = 0 := by decide
theorem suV_ex1 : ((suV [true]).toNat : Int) = 17817 := by decide
theorem suV_ex2 : ((suV [false]).toNat : Int) = 0 := by decide
theorem suV_ex9 : ((suV (obL nine)).toNat : Int) = 1438 := by decide +kernel
theorem text_ex : (ofL 16384 15).map chB = [114, 100, 100, 100, 100, 100, 100, 100, 100, 100, 100, 100, 100, 100, 100] := by decide +kernel

def nineC : Array Value := #[.int .u8 49, .int .u8 50, .int .u8 51, .int .u8 52, .int .u8 53, .int .u8 54, .int .u8 55, .int .u8 56, .int .u8 57]

theorem nine_rl (w : World) (fr : Nat × Nat) : RL bv (w.alloc (.cells nineC 5 fr)) (some ⟨w.heap.size, 0, none⟩) 9 9 nine := by
  have hh : (w.alloc (.cells nineC 5 fr)).heap[w.heap.size]? = some (.cells nineC 5 fr) := heap_alloc_new w _
  refine ⟨rfl, Nat.le_refl _, fun _ => ⟨w.heap.size, 0, rfl, by simp, fun i x hx => ?_⟩⟩
  have hi : i < 9 := by
    have := (List.getElem?_eq_some_iff.1 hx).1
    exact this
  have : (w.alloc (.cells nineC 5 fr)).cell? ⟨w.heap.size, 0 + i, none⟩ = nineC[0 + i]? := World.cell?_alloc_mark w nineC _ fr _
  rw [this, Nat.zero_add]
  match i, hi with
  | 0, _ => cases hx; rfl
  | 1, _ => cases hx; rfl
  | 2, _ => cases hx; rfl
  | 3, _ => cases hx; rfl
  | 4, _ => cases hx; rfl
  | 5, _ => cases hx; rfl
  | 6, _ => cases hx; rfl
  | 7, _ => cases hx; rfl
  | 8, _ => cases hx; rfl
  | k + 9, h => exact absurd h (by omega)

theorem awake3_any (w : World) :
    Calls Try.prog 7 #[] w fun e w' => e = .returned (.bool true) ∧ Below w.heap.size w w' := by
  have kc := fun (w : World) (C : Array Value) (n c : Nat) => Lib.run_convert_bytes_const (P := Try.prog) w 34 5 C n c (by kernel_rfl) (by kernel_rfl)
  go_enter Try.func7, Try.ntmps7
  go_wp2_with (first
    | (go_at_call 8; (with_reducible refine (sum_any w none 0 0 [] (RL.nil _ _ _ _) (by omega)).mono ?_); rw [suV_ex0]; rintro e w1 ⟨rfl, g1⟩; have h1 := (ol_lit Value.bool 4 0 w1 [true] #[.bool true] 1 rfl rfl (by omega) (Nat.zero_le _)).rl)
    | (go_at_call 8; (with_reducible refine (sum_any (w1.alloc (.cells #[.bool true] 4)) (some ⟨w1.heap.size, 0, none⟩) 1 1 [true] h1 (by omega)).mono ?_); rw [suV_ex1]; rintro e w2 ⟨rfl, g2'⟩; have g2 := bstep (bnew g1 _) g2'; clear g2'; have h2 := (ol_lit Value.bool 4 0 w2 [false] #[.bool false] 1 rfl rfl (by omega) (Nat.zero_le _)).rl)
    | (go_at_call 8; (with_reducible refine (sum_any (w2.alloc (.cells #[.bool false] 4)) (some ⟨w2.heap.size, 0, none⟩) 1 1 [false] h2 (by omega)).mono ?_); rw [suV_ex2]; rintro e w3 ⟨rfl, g3'⟩; have g3 := bstep (bnew g2 _) g3'; clear g3')
    | (go_at_call 15; refine (ofBytes_any _ (some ⟨w3.heap.size, 0, none⟩) 9 9 nine (nine_rl w3 _) (by omega)).mono ?_; rintro e w4 ⟨a4, c4, rfl, hol4, g4'⟩; have g4 := bstep (bnew g3 _) g4'; clear g4')
    | (go_at_call 8; (with_reducible refine (sum_any w4 a4 (8 * 9) c4 (obL nine) hol4.rl (by omega)).mono ?_); rw [suV_ex9]; rintro e w5 ⟨rfl, g5'⟩; have g5 := bstep g4 g5'; clear g5')
    | (go_at_call 11; refine (bits_any w5 16384 (by omega)).mono ?_; rintro e w6 ⟨a6, c6, rfl, hol6, g6'⟩; have g6 := bstep g5 g6'; clear g6')
    | (go_at_call 16; (with_reducible refine (text_any w6 a6 15 c6 _ hol6.rl (by omega)).mono ?_); rw [text_ex]; rintro e w7 ⟨rfl, rfl⟩))
  go_ret
  exact ⟨rfl, g6⟩
end Go.Proofs.Ytlddkbcmbhacpaa
