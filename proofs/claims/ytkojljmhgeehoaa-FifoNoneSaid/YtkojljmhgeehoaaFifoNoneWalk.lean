/-
  The walk of the statement FifoNone: for any frame it returns true, and nothing that was there has changed.
-/
import Derived.Test.YtkojljmhgeehoaaB12f
namespace Go.Proofs.Ytkojljmhgeehoaa
open Go.RowKit Go.Sort
set_option linter.unusedVariables false

set_option maxRecDepth 100000 in
set_option maxHeartbeats 8000000 in
theorem fifoNone_walk (w : World) (p : Rx) (hl : RL bv w p.1.2.1 p.1.1.data.length p.1.2.2 p.1.1.data) (m : p.1.1.data.length ≤ 9223372036854775807) :
    Calls Try.prog 6 #[.agg (rxV p)] w fun e w' => e = .returned (.bool true) ∧ Below w.heap.size w w' := by
  obtain ⟨w0, hw0, hbf, gg0⟩ : ∃ w0, Hid (w.alloc (.cells (rxV p) 36) = w0) ∧ w0.heap[w.heap.size]? = some (.cells (rxV p) 36 (0, 0)) ∧ Below w.heap.size w w0 := ⟨_, rfl, heap_alloc_new w _, bnew0 w _⟩
  have b1 := bx_alloc (.cells #[.pointer none, .pointer (some ⟨w0.heap.size, 0, none⟩)] 23) (heap_alloc_new w0 (.cells ffZ 56))
  have b2 : ((w0.alloc (.cells ffZ 56)).alloc (.cells #[.pointer none, .pointer (some ⟨w0.heap.size, 0, none⟩)] 23)).heap[w0.heap.size + 1]? = some (.cells #[.pointer none, .pointer (some ⟨w0.heap.size, 0, none⟩)] 23 (0, 0)) := by
    have := heap_alloc_new (w0.alloc (.cells ffZ 56)) (.cells #[.pointer none, .pointer (some ⟨w0.heap.size, 0, none⟩)] 23); rwa [heap_size_alloc] at this
  have b0 := bx_alloc (.cells #[.pointer none, .pointer (some ⟨w0.heap.size, 0, none⟩)] 23) (bx_alloc (.cells ffZ 56) hbf)
  have gg2 : Below w.heap.size w ((w0.alloc (.cells ffZ 56)).alloc (.cells #[.pointer none, .pointer (some ⟨w0.heap.size, 0, none⟩)] 23)) := bnew (bnew gg0 _) _
  clear hbf gg0 hl m
  go_enter Try.func6, Try.ntmps6
  go_wp2_with (rw [hw0.out])
  go_loopg [11] 2 (fun gn vi wr => ∃ k : Nat, k ≤ 2 ∧ gn = 2 - k ∧ vi = .int .i64 (k : Int) ∧ wr.heap[w.heap.size]? = some (.cells (rxV p) 36 (0, 0)) ∧ wr.heap[w0.heap.size]? = some (.cells ffZ 56 (0, 0)) ∧ wr.heap[w0.heap.size + 1]? = some (.cells #[.pointer none, .pointer (some ⟨w0.heap.size, 0, none⟩)] 23 (0, 0)) ∧ Below w.heap.size w wr)
  case atStart => exact ⟨0, by omega, by omega, rfl, b0, b1, b2, gg2⟩
  case round =>
    obtain ⟨k, hk, rfl, rfl, c0, c1, c2, gg⟩ := hrel
    clear b0 b1 b2 gg2 hw0
    by_cases hlt : k < 2
    · obtain ⟨v, hv, hno⟩ : ∃ v, wr.cell? ⟨w0.heap.size + 1, k, none⟩ = some v ∧ NoF wr v := by
        rcases (show k = 0 ∨ k = 1 by omega) with rfl | rfl
        · exact ⟨_, (bx c2).1, .inl rfl⟩
        · exact ⟨_, (bx c2).2.1, .inr ⟨_, rfl, c1⟩⟩
      go_wp2_with (first
        | (go_at_call 12; (with_reducible refine (ffPop_none hno).mono ?_); rintro e w2 ⟨rfl, g2⟩
           have b2 := heap_alloc_new w2 (.cells rxZ 36)
           have k3 : Below w2.heap.size w2 ((w2.alloc (.cells rxZ 36)).setRow w2.heap.size rxZ) := below_setRow (bnew0 w2 _) (Nat.le_refl _) _
           have hno3 := (hno.below g2).below k3
           have b3 := setRow_heap _ _ _ rxZ _ _ b2
           have gg3 := bstep (bstep gg g2) k3
           have c03 := bx_below (bx_below c0 g2) k3
           have c13 := bx_below (bx_below c1 g2) k3
           have c23 := bx_below (bx_below c2 g2) k3)
        | (with_reducible refine wpList_storeR rowX rfl _ _ rfl _ _ rfl rfl b2 rfl rfl rxZ_ones ?_)
        | (with_reducible refine wpList_loadR rowX rfl _ rfl _ rfl c03 rfl ?_)
        | (go_at_call 10; (with_reducible refine (ffPush_none hno3 _).mono ?_); rintro e w4 ⟨rfl, g4⟩
           have hno4 := hno3.below g4
           obtain ⟨x0, x1, x2, x3, x4, x5⟩ := bx6 (bx_below b3 g4))
        | (go_at_call 15; (with_reducible refine (ffLen_none hno4).mono ?_); rintro e w6 ⟨rfl, rfl⟩)
        | (go_at_call 16; (with_reducible refine (ffOver_none hno4).mono ?_); rintro e w6 ⟨rfl, rfl⟩)
        | (go_at_call 14; (with_reducible refine (ffClear_none hno4).mono ?_); rintro e w6 ⟨rfl, rfl⟩))
      go_roundg (2 - (k + 1))
      case measure => omega
      case rel => exact ⟨k + 1, by omega, rfl, by go_num, bx_below c03 g4, bx_below c13 g4, bx_below c23 g4, bstep gg3 g4⟩
    · obtain rfl : k = 2 := by omega
      go_wp2_with (go_at_call 8; (with_reducible refine (awake12_any wr).mono ?_); rintro e w5 ⟨rfl, g5⟩)
      go_ret
      exact ⟨rfl, bstep gg g5⟩
end Go.Proofs.Ytkojljmhgeehoaa
