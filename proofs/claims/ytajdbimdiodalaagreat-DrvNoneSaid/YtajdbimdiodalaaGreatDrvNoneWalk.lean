/-
  The walk of the statement DrvNone: for any frame, number and bit it returns true, and nothing that was there has changed.
-/
import Derived.Test.YtajdbimdiodalaaGreatZ8
namespace Go.Proofs.YtajdbimdiodalaaGreat
open Go.RowKit Go.Sort
set_option linter.unusedVariables false

theorem fieldCz (w : World) : (Instr.field 42 (.agg ctZ) 3).run Tryz.prog w = .ok (.bool false) w := by kernel_rfl

set_option maxRecDepth 100000 in
set_option maxHeartbeats 8000000 in
theorem drvNone_walk (w : World) (id : Nat) (ext rem : Bool) (dlc : Nat) (a : Option Addr) (n c : Nat) (l : List UInt8) (N : Int) (x : Bool) (hi : id < 4294967296) (hd : dlc < 256) (hl : RL bv w a n c l) (hN : -9223372036854775808 ≤ N ∧ N ≤ 9223372036854775807) (m : n ≤ 9223372036854775807) :
    Calls Tryz.prog 7 #[.agg #[.int .u32 (id : Int), .bool ext, .bool rem, .int .u8 (dlc : Int), .slice a n c], .int .i64 N, .bool x] w fun e w' => e = .returned (.bool true) ∧ Below w.heap.size w w' := by
  obtain ⟨cs, hcs⟩ : ∃ cs : Array Value, cs = #[.int .u32 (id : Int), .bool ext, .bool rem, .int .u8 (dlc : Int), .slice a n c] := ⟨_, rfl⟩
  have hcz : cs.size = 5 := by rw [hcs]; rfl
  obtain ⟨w0, hw0, hbf, gg0⟩ : ∃ w0, Hid (w.alloc (.cells cs 35) = w0) ∧ w0.heap[w.heap.size]? = some (.cells cs 35 (0, 0)) ∧ Below w.heap.size w w0 := ⟨_, rfl, heap_alloc_new w _, bnew0 w _⟩
  obtain ⟨g0, w2, hw2, HG, b0, b1, b2, gg2⟩ : ∃ g0 w2, Hid ((w0.alloc (.cells dvZ 96)).alloc (.cells #[.pointer none, .pointer (some ⟨w0.heap.size, 0, none⟩)] 24) = w2) ∧ Hid (w0.heap.size = g0) ∧ w2.heap[w.heap.size]? = some (.cells cs 35 (0, 0)) ∧ w2.heap[g0]? = some (.cells dvZ 96 (0, 0)) ∧ w2.heap[g0 + 1]? = some (.cells #[.pointer none, .pointer (some ⟨g0, 0, none⟩)] 24 (0, 0)) ∧ Below w.heap.size w w2 :=
    ⟨_, _, rfl, rfl, bx_alloc _ (bx_alloc _ hbf), bx_alloc _ (heap_alloc_new w0 _), by have := heap_alloc_new (w0.alloc (.cells dvZ 96)) (.cells #[.pointer none, .pointer (some ⟨w0.heap.size, 0, none⟩)] 24); rwa [heap_size_alloc] at this, bnew (bnew gg0 _) _⟩
  rw [← hcs]
  clear hbf gg0 hl m hcs hi hd hN
  have hfc := fun w => fieldCz w
  go_enter Tryz.func7, Tryz.ntmps7
  go_wp2_with (first
    | (rw [hw0.out])
    | (rw [hw2.out, HG.out]))
  go_loopg [22] 2 (fun gn vi wr => ∃ k : Nat, k ≤ 2 ∧ gn = 2 - k ∧ vi = .int .i64 (k : Int) ∧ wr.heap[w.heap.size]? = some (.cells cs 35 (0, 0)) ∧ wr.heap[g0]? = some (.cells dvZ 96 (0, 0)) ∧ wr.heap[g0 + 1]? = some (.cells #[.pointer none, .pointer (some ⟨g0, 0, none⟩)] 24 (0, 0)) ∧ Below w.heap.size w wr)
  case atStart => exact ⟨0, by omega, by omega, rfl, b0, b1, b2, gg2⟩
  case round =>
    obtain ⟨k, hk, rfl, rfl, c0, c1, c2, gg⟩ := hrel
    clear b0 b1 b2 gg2 hw0 hw2
    by_cases hlt : k < 2
    · obtain ⟨v, hv, hno⟩ : ∃ v, wr.cell? ⟨g0 + 1, k, none⟩ = some v ∧ NoD wr v := by
        rcases (show k = 0 ∨ k = 1 by omega) with rfl | rfl
        · exact ⟨_, by rw [cell_of_row _ _ 0 _ _ _ c2]; rfl, .inl rfl⟩
        · exact ⟨_, by rw [cell_of_row _ _ 1 _ _ _ c2]; rfl, .inr ⟨_, rfl, c1⟩⟩
      go_upto_region 7 with (first
        | (with_reducible refine wpList_loadR rowF rfl _ rfl _ rfl c0 hcz ?_)
        | (go_at_call 22; (with_reducible refine (dvSend_none hno cs).mono ?_); rintro e w3 ⟨rfl, g3⟩
           have no3 := hno.below g3)
        | (go_at_call 30; (with_reducible refine (dvAbort_none no3 N).mono ?_); rintro e w4 ⟨rfl, rfl⟩)
        | (go_at_call 26; (with_reducible refine (dvRead_none no3).mono ?_); rintro e w5 ⟨rfl, g5⟩
           have z5 := heap_alloc_new w5 (.cells rxZ 80))
        | (with_reducible refine wpList_storeR rowX rfl _ _ rfl _ _ rfl rfl z5 rfl rfl rxZ_ones ?_))
      have g6 : Below w3.heap.size w3 ((w5.alloc (.cells rxZ 80)).setRow w5.heap.size rxZ) := below_setRow (g5.alloc g5.size _) g5.size _
      have g36 := bstep g3 g6
      clear z5 g5 g6
      generalize (w5.alloc (.cells rxZ 80)).setRow w5.heap.size rxZ = V at *
      have no6 := hno.below g36
      have d0 := bx_below c0 g36
      have d1 := bx_below c1 g36
      have d2 := bx_below c2 g36
      have gg6 := bstep gg g36
      clear c0 c1 c2 gg g36 no3 g3 hno hv
      go_upto_region 9 with (first
        | (go_at_call 14; (with_reducible refine (dvFill_none no6).mono ?_); rintro e w7 ⟨rfl, rfl⟩)
        | (go_at_call 28; (with_reducible refine (dvStep_none no6 x).mono ?_); rintro e w8 ⟨rfl, g8⟩
           have z8 := heap_alloc_new w8 (.cells noZ 73))
        | (with_reducible refine wpList_storeR rowN rfl _ _ rfl _ _ rfl rfl z8 rfl rfl (by kernel_rfl) ?_))
      have g9 : Below V.heap.size V ((w8.alloc (.cells noZ 73)).setRow w8.heap.size noZ) := below_setRow (g8.alloc g8.size _) g8.size _
      have q9 : ((w8.alloc (.cells noZ 73)).setRow w8.heap.size noZ).cell? ⟨w8.heap.size, 0, none⟩ = some (.int .u8 0) := by rw [cell_of_row _ _ 0 _ _ _ (setRow_heap _ _ _ noZ _ _ z8)]; rfl
      have no9 := no6.below g9
      have e0 := bx_below d0 g9
      have e1 := bx_below d1 g9
      have e2 := bx_below d2 g9
      have gg9 := bstep gg6 g9
      clear z8 g8 g9 d0 d1 d2 gg6 no6
      generalize (w8.alloc (.cells noZ 73)).setRow w8.heap.size noZ = W at *
      generalize w8.heap.size = nb at *
      go_wp2_with (first
        | (go_at_call 29; (with_reducible refine (dvDrive_none no9).mono ?_); rintro e w11 ⟨rfl, rfl⟩)
        | (go_at_call 16; (with_reducible refine (dvNow_none no9).mono ?_); rintro e w11 ⟨rfl, rfl⟩)
        | (go_at_call 15; (with_reducible refine (dvOver_none no9).mono ?_); rintro e w11 ⟨rfl, rfl⟩)
        | (go_at_call 32; (with_reducible refine (dvClear_none no9).mono ?_); rintro e w11 ⟨rfl, rfl⟩)
        | (go_at_call 17; (with_reducible refine (dvWaits_none no9 N).mono ?_); rintro e w11 ⟨rfl, rfl⟩)
        | (go_at_call 19; (with_reducible refine (dvCtl_none no9).mono ?_); rintro e w12 ⟨rfl, g12⟩))
      go_roundg (2 - (k + 1))
      case measure => omega
      case rel => exact ⟨k + 1, by omega, rfl, by go_num, bx_below e0 g12, bx_below e1 g12, bx_below e2 g12, bstep gg9 g12⟩
    · obtain rfl : k = 2 := by omega
      go_wp2_with (go_at_call 11; (with_reducible refine (awake14_any wr).mono ?_); rintro e w5 ⟨rfl, g5⟩)
      go_ret
      exact ⟨rfl, bstep gg g5⟩
end Go.Proofs.YtajdbimdiodalaaGreat
