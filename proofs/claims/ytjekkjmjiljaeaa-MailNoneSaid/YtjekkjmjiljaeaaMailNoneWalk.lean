/-
  The walk of the statement MailNone: for any frame and number it returns true, and nothing that was there has changed.
-/
import Derived.Test.YtjekkjmjiljaeaaB10o
namespace Go.Proofs.Ytjekkjmjiljaeaa
open Go.RowKit Go.Sort
set_option linter.unusedVariables false

set_option maxRecDepth 100000 in
set_option maxHeartbeats 8000000 in
theorem mailNone_walk (w : World) (id : Nat) (ext rem : Bool) (dlc : Nat) (a : Option Addr) (n c : Nat) (l : List UInt8) (N : Int)
    (hi : id < 4294967296) (hd : dlc < 256) (hl : RL bv w a n c l) (hN : -9223372036854775808 ≤ N ∧ N ≤ 9223372036854775807) (m : n ≤ 9223372036854775807) :
    Calls Try.prog 7 #[.agg #[.int .u32 (id : Int), .bool ext, .bool rem, .int .u8 (dlc : Int), .slice a n c], .int .i64 N] w fun e w' => e = .returned (.bool true) ∧ Below w.heap.size w w' := by
  obtain ⟨w0, hw0, hbf, gg0⟩ : ∃ w0, Hid (w.alloc (.cells #[.int .u32 (id : Int), .bool ext, .bool rem, .int .u8 (dlc : Int), .slice a n c] 34) = w0) ∧ w0.heap[w.heap.size]? = some (.cells #[.int .u32 (id : Int), .bool ext, .bool rem, .int .u8 (dlc : Int), .slice a n c] 34 (0, 0)) ∧ Below w.heap.size w w0 := ⟨_, rfl, heap_alloc_new w _, bnew0 w _⟩
  have b1 := bx_alloc (.cells #[.pointer none, .pointer (some ⟨w0.heap.size, 0, none⟩)] 23) (heap_alloc_new w0 (.cells mlZ 60))
  have b2 : ((w0.alloc (.cells mlZ 60)).alloc (.cells #[.pointer none, .pointer (some ⟨w0.heap.size, 0, none⟩)] 23)).heap[w0.heap.size + 1]? = some (.cells #[.pointer none, .pointer (some ⟨w0.heap.size, 0, none⟩)] 23 (0, 0)) := by
    have := heap_alloc_new (w0.alloc (.cells mlZ 60)) (.cells #[.pointer none, .pointer (some ⟨w0.heap.size, 0, none⟩)] 23); rwa [heap_size_alloc] at this
  have b0 := bx_alloc (.cells #[.pointer none, .pointer (some ⟨w0.heap.size, 0, none⟩)] 23) (bx_alloc (.cells mlZ 60) hbf)
  have gg2 : Below w.heap.size w ((w0.alloc (.cells mlZ 60)).alloc (.cells #[.pointer none, .pointer (some ⟨w0.heap.size, 0, none⟩)] 23)) := bnew (bnew gg0 _) _
  clear hbf gg0 hl m
  go_enter Try.func7, Try.ntmps7
  go_wp2_with (rw [hw0.out])
  go_loopg [22] 2 (fun gn vi wr => ∃ k : Nat, k ≤ 2 ∧ gn = 2 - k ∧ vi = .int .i64 (k : Int) ∧ wr.heap[w.heap.size]? = some (.cells #[.int .u32 (id : Int), .bool ext, .bool rem, .int .u8 (dlc : Int), .slice a n c] 34 (0, 0)) ∧ wr.heap[w0.heap.size]? = some (.cells mlZ 60 (0, 0)) ∧ wr.heap[w0.heap.size + 1]? = some (.cells #[.pointer none, .pointer (some ⟨w0.heap.size, 0, none⟩)] 23 (0, 0)) ∧ Below w.heap.size w wr)
  case atStart => exact ⟨0, by omega, by omega, rfl, b0, b1, b2, gg2⟩
  case round =>
    obtain ⟨k, hk, rfl, rfl, c0, c1, c2, gg⟩ := hrel
    clear b0 b1 b2 gg2 hw0
    by_cases hlt : k < 2
    · obtain ⟨v, hv, hno⟩ : ∃ v, wr.cell? ⟨w0.heap.size + 1, k, none⟩ = some v ∧ NoM wr v := by
        rcases (show k = 0 ∨ k = 1 by omega) with rfl | rfl
        · exact ⟨_, (bx c2).1, .inl rfl⟩
        · exact ⟨_, (bx c2).2.1, .inr ⟨_, rfl, c1⟩⟩
      obtain ⟨x0, x1, x2, x3, x4⟩ := bx5 c0
      go_wp2_with (first
        | (go_at_call 22; (with_reducible refine (mlPut_none hno _).mono ?_); rintro e w1 ⟨rfl, g1⟩; have hno1 := hno.below g1)
        | (go_at_call 12; (with_reducible refine (best_none hno1).mono ?_); rintro e w2 ⟨rfl, g2⟩
           have b2 := heap_alloc_new w2 (.cells frZr 34)
           have k3 : Below w2.heap.size w2 ((w2.alloc (.cells frZr 34)).setRow w2.heap.size frZr) := below_setRow (bnew0 w2 _) (Nat.le_refl _) _
           have hno3 := (hno1.below g2).below k3
           have b3 := setRow_heap _ _ _ frZr _ _ b2
           have gg3 := bstep (bstep (bstep gg g1) g2) k3
           have c03 := bx_below (bx_below (bx_below c0 g1) g2) k3
           have c13 := bx_below (bx_below (bx_below c1 g1) g2) k3
           have c23 := bx_below (bx_below (bx_below c2 g1) g2) k3)
        | (with_reducible refine wpList_storeR rowF rfl _ _ rfl _ _ rfl rfl b2 rfl rfl (by kernel_rfl) ?_)
        | (go_at_call 23; (with_reducible refine (start_none hno3).mono ?_); rintro e w4 ⟨rfl, rfl⟩)
        | (go_at_call 25; (with_reducible refine (sent_none hno3).mono ?_); rintro e w4 ⟨rfl, rfl⟩)
        | (go_at_call 26; (with_reducible refine (abort_none hno3 _).mono ?_); rintro e w4 ⟨rfl, rfl⟩)
        | (go_at_call 24; (with_reducible refine (lost_none hno3).mono ?_); rintro e w4 ⟨rfl, rfl⟩)
        | (with_reducible refine wpList_loadW rowF (by simp [Region.wanted, yielded]) _ rfl _ rfl b3 rfl ?_)
        | (go_at_call 14; (with_reducible refine (same_zero _).mono ?_); rintro e w5 ⟨rfl, g5⟩; have hno5 := hno3.below g5)
        | (go_at_call 15; (with_reducible refine (mlen_none hno5).mono ?_); rintro e w6 ⟨rfl, rfl⟩)
        | (go_at_call 16; (with_reducible refine (waits_none hno5 _).mono ?_); rintro e w6 ⟨rfl, rfl⟩))
      go_roundg (2 - (k + 1))
      case measure => omega
      case rel => exact ⟨k + 1, by omega, rfl, by go_num, bx_below c03 g5, bx_below c13 g5, bx_below c23 g5, bstep gg3 g5⟩
    · obtain rfl : k = 2 := by omega
      go_wp2_with (go_at_call 10; (with_reducible refine (awake10_any wr).mono ?_); rintro e w5 ⟨rfl, g5⟩)
      go_ret
      exact ⟨rfl, bstep gg g5⟩
end Go.Proofs.Ytjekkjmjiljaeaa
