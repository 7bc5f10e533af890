/-
  The walk of the statement WheelNone: for any numbers it returns true, and nothing that was there has changed.
-/
import Derived.Test.YtpnmnffefdjegaaB13i
namespace Go.Proofs.Ytpnmnffefdjegaa
open Go.RowKit Go.Maps Go.Sort
set_option linter.unusedVariables false

set_option maxRecDepth 100000 in
set_option maxHeartbeats 8000000 in
theorem wheelNone_walk (w : World) (id after : Int) (hi : -9223372036854775808 ≤ id ∧ id ≤ 9223372036854775807) (ha : -9223372036854775808 ≤ after ∧ after ≤ 9223372036854775807) :
    Calls Try.prog 7 #[.int .i64 id, .int .i64 after] w fun e w' => e = .returned (.bool true) ∧ Below w.heap.size w w' := by
  have b1 := bx_alloc (.cells #[.pointer none, .pointer (some ⟨w.heap.size, 0, none⟩)] 23) (heap_alloc_new w (.cells whZ 58))
  have b2 : ((w.alloc (.cells whZ 58)).alloc (.cells #[.pointer none, .pointer (some ⟨w.heap.size, 0, none⟩)] 23)).heap[w.heap.size + 1]? = some (.cells #[.pointer none, .pointer (some ⟨w.heap.size, 0, none⟩)] 23 (0, 0)) := by
    have := heap_alloc_new (w.alloc (.cells whZ 58)) (.cells #[.pointer none, .pointer (some ⟨w.heap.size, 0, none⟩)] 23); rwa [heap_size_alloc] at this
  have gg2 : Below w.heap.size w ((w.alloc (.cells whZ 58)).alloc (.cells #[.pointer none, .pointer (some ⟨w.heap.size, 0, none⟩)] 23)) := bnew (bnew0 w _) _
  clear hi ha
  go_enter Try.func7, Try.ntmps7
  go_wp2
  go_loopg [13] 2 (fun gn vi wr => ∃ k : Nat, k ≤ 2 ∧ gn = 2 - k ∧ vi = .int .i64 (k : Int) ∧ wr.heap[w.heap.size]? = some (.cells whZ 58 (0, 0)) ∧ wr.heap[w.heap.size + 1]? = some (.cells #[.pointer none, .pointer (some ⟨w.heap.size, 0, none⟩)] 23 (0, 0)) ∧ Below w.heap.size w wr)
  case atStart => exact ⟨0, by omega, by omega, rfl, b1, b2, gg2⟩
  case round =>
    obtain ⟨k, hk, rfl, rfl, c1, c2, gg⟩ := hrel
    clear b1 b2 gg2
    by_cases hlt : k < 2
    · obtain ⟨v, hv, hno⟩ : ∃ v, wr.cell? ⟨w.heap.size + 1, k, none⟩ = some v ∧ NoW wr v := by
        rcases (show k = 0 ∨ k = 1 by omega) with rfl | rfl
        · exact ⟨_, (bx c2).1, .inl rfl⟩
        · exact ⟨_, (bx c2).2.1, .inr ⟨_, rfl, c1⟩⟩
      go_wp2_with (first
        | (go_at_call 18; (with_reducible refine (whLeft_none hno _).mono ?_); rintro e w2 ⟨rfl, rfl⟩)
        | (go_at_call 12; (with_reducible refine (whSet_none hno _ _).mono ?_); rintro e w2 ⟨rfl, rfl⟩)
        | (go_at_call 14; (with_reducible refine (whCancel_none hno _).mono ?_); rintro e w2 ⟨rfl, rfl⟩)
        | (go_at_call 17; (with_reducible refine (whTick_none hno).mono ?_); rintro e w2 ⟨rfl, g2⟩
           have hno2 := hno.below g2)
        | (go_at_call 20; (with_reducible refine (whNow_none hno2).mono ?_); rintro e w3 ⟨rfl, rfl⟩)
        | (go_at_call 21; (with_reducible refine (whLen_none hno2).mono ?_); rintro e w3 ⟨rfl, rfl⟩))
      go_roundg (2 - (k + 1))
      case measure => omega
      case rel => exact ⟨k + 1, by omega, rfl, by go_num, bx_below c1 g2, bx_below c2 g2, bstep gg g2⟩
    · obtain rfl : k = 2 := by omega
      go_wp2_with (go_at_call 10; (with_reducible refine (awake13_any wr).mono ?_); rintro e w5 ⟨rfl, g5⟩)
      go_ret
      exact ⟨rfl, bstep gg g5⟩
end Go.Proofs.Ytpnmnffefdjegaa
