/-
  IdentTells, walked: which idents are right, their identifiers and frames, what is read, and which is less, is as the document says. Written by gen_identtells.py.
-/
import Derived.Test.YtdkgdjdhmonccaaDoorZ2
namespace Go.Proofs.YtdkgdjdhmonccaaDoor
open Go.RowKit Go.Sort
set_option linter.unusedVariables false
set_option linter.unusedSimpArgs false

set_option maxRecDepth 100000 in
set_option maxHeartbeats 8000000 in
theorem identTells_walk (w : World) (hw : WdO w) (k f s r k2 f2 s2 r2 : Nat) (x : Nat) (a : Option Addr) (n c : Nat) (l : List UInt8) (id : Nat) (ext rem : Bool) (dlc : Nat) (a2 : Option Addr) (n2 c2 : Nat) (l2 : List UInt8)
    (hi : k < 256 ∧ f < 256 ∧ s < 65536 ∧ r < 256) (hi2 : k2 < 256 ∧ f2 < 256 ∧ s2 < 65536 ∧ r2 < 256) (hx : x < 4294967296) (hl : RL bv w a n c l) (hid' : id < 4294967296) (hd : dlc < 256) (hl2 : RL bv w a2 n2 c2 l2) (m : n ≤ 9223372036854775807) (m2 : n2 ≤ 9223372036854775807) :
    Calls Tryd.prog 3 #[.agg #[.int .u8 (k : Int), .int .u8 (f : Int), .int .u16 (s : Int), .int .u8 (r : Int)], .agg #[.int .u8 (k2 : Int), .int .u8 (f2 : Int), .int .u16 (s2 : Int), .int .u8 (r2 : Int)], .int .u32 (x : Int), .slice a n c, .agg #[.int .u32 (id : Int), .bool ext, .bool rem, .int .u8 (dlc : Int), .slice a2 n2 c2]] w fun e w' => e = .returned (.bool true) ∧ Below w.heap.size w w' := by
  obtain ⟨w0, hw0, bA, bB, bF, gg⟩ : ∃ w0, Hid (((w.alloc (.cells #[.int .u8 (k : Int), .int .u8 (f : Int), .int .u16 (s : Int), .int .u8 (r : Int)] 24)).alloc (.cells #[.int .u8 (k2 : Int), .int .u8 (f2 : Int), .int .u16 (s2 : Int), .int .u8 (r2 : Int)] 24)).alloc (.cells #[.int .u32 (id : Int), .bool ext, .bool rem, .int .u8 (dlc : Int), .slice a2 n2 c2] 28) = w0) ∧ w0.heap[w.heap.size]? = some (.cells #[.int .u8 (k : Int), .int .u8 (f : Int), .int .u16 (s : Int), .int .u8 (r : Int)] 24 (0, 0)) ∧ w0.heap[w.heap.size + 1]? = some (.cells #[.int .u8 (k2 : Int), .int .u8 (f2 : Int), .int .u16 (s2 : Int), .int .u8 (r2 : Int)] 24 (0, 0)) ∧ w0.heap[w.heap.size + 2]? = some (.cells #[.int .u32 (id : Int), .bool ext, .bool rem, .int .u8 (dlc : Int), .slice a2 n2 c2] 28 (0, 0)) ∧ Below w.heap.size w w0 :=
    ⟨_, rfl, bx_alloc _ (bx_alloc _ (heap_alloc_new w _)), bx_alloc _ (new2 w _ _), by have := heap_alloc_new ((w.alloc (.cells #[.int .u8 (k : Int), .int .u8 (f : Int), .int .u16 (s : Int), .int .u8 (r : Int)] 24)).alloc (.cells #[.int .u8 (k2 : Int), .int .u8 (f2 : Int), .int .u16 (s2 : Int), .int .u8 (r2 : Int)] 24)) (.cells #[.int .u32 (id : Int), .bool ext, .bool rem, .int .u8 (dlc : Int), .slice a2 n2 c2] 28); rwa [heap_size_alloc, heap_size_alloc] at this, bnew (bnew (bnew0 w _) _) _⟩
  obtain ⟨h1, h2, h3, h4⟩ := hi
  obtain ⟨j1, j2, j3, j4⟩ := hi2
  obtain ⟨N, hN⟩ : ∃ N, N = min n 20 := ⟨_, rfl⟩
  have hmn := min15_20 n N hN
  obtain ⟨a3, p1, p2, hr3⟩ := run_cutTo tY hl .i64 N (by omega)
  obtain ⟨M, E, cM, cMr⟩ := make_both k f s r h1 h2 h3 h4
  obtain ⟨F, E2, hF8, cF, cFr⟩ := frame_both k f s r h1 h2 h3 h4 N (l.take N) hr3.len
  obtain ⟨K, P, S, R, B, cO, cOr⟩ := of_both id ext rem dlc n2 hid' hd
  have CM := hid cM; have CMr := hid cMr; have CF := hid cF; have CFr := hid cFr; have CO := hid cO; have COr := hid cOr; have HF8 := hid hF8
  have CR := hid (fun w hw => idRead_any w hw x hx)
  have CRr := hid (fun w => refIdRead_any w x hx)
  have CI := hid (fun w => idRight_any w k f s r)
  have CIr := hid (fun w => refIdRight_any w k f s r)
  have CL := hid (fun w => idLess_any w k f s r k2 f2 s2 r2 h1 h2 h3 h4 j1 j2 j3 j4)
  have CLr := hid (fun w => refIdLess_any w k f s r k2 f2 s2 r2)
  have HL := hid hr3
  have HP := hid p1; have HP2 := hid p2
  clear cM cMr cF cFr cO cOr hN hl hl2 m m2 h1 h2 h3 h4 j1 j2 j3 j4 hx hid' hd hr3 hF8
  generalize riI ⟨k, f, s, r⟩ = RI at *
  generalize lsI ⟨k, f, s, r⟩ ⟨k2, f2, s2, r2⟩ = LS at *
  generalize rK x = X1 at *; generalize rF x = X2 at *; generalize rS x = X3 at *; generalize rR x = X4 at *; generalize rB x = X5 at *
  generalize l.take N = ld at *
  go_enter Tryd.func3, Tryd.ntmps3
  go_upto_region 1 with fail
  rw [hw0.out]
  go_upto_region 2 with fail
  clear hw0 p1 p2 hmn HP HP2
  go_upto_region 3 with (first
    | (with_reducible refine wpList_loadR rowI rfl _ rfl _ rfl bA rfl ?_)
    | (go_at_call 7; (with_reducible refine (CM.out _ (hw.below gg)).mono ?_); rintro e w3 ⟨rfl, g0⟩; replace bA := bx_below bA g0; replace bB := bx_below bB g0; replace bF := bx_below bF g0; replace gg := bstep gg g0; clear g0))
  go_upto_region 4 with (first
    | (with_reducible refine wpList_loadR rowI rfl _ rfl _ rfl bA rfl ?_)
    | (go_at_call 8; (with_reducible refine (CMr.out _).mono ?_); rintro e w4 ⟨rfl, g0⟩; replace bA := bx_below bA g0; replace bB := bx_below bB g0; replace bF := bx_below bF g0; replace gg := bstep gg g0; clear g0))
  go_upto_region 5 with (first
    | (go_at_call 9; (with_reducible refine (CR.out _ (hw.below gg)).mono ?_); rintro e w5 ⟨rfl, g0⟩; replace bA := bx_below bA g0; replace bB := bx_below bB g0; replace bF := bx_below bF g0; replace gg := bstep gg g0; clear g0))
  have b5 := heap_alloc_new w5 (.cells #[.int .u8 (X1 : Int), .int .u8 (X2 : Int), .int .u16 (X3 : Int), .int .u8 (X4 : Int)] 24)
  replace bA := bx_alloc (.cells #[.int .u8 (X1 : Int), .int .u8 (X2 : Int), .int .u16 (X3 : Int), .int .u8 (X4 : Int)] 24) bA
  replace bB := bx_alloc (.cells #[.int .u8 (X1 : Int), .int .u8 (X2 : Int), .int .u16 (X3 : Int), .int .u8 (X4 : Int)] 24) bB
  replace bF := bx_alloc (.cells #[.int .u8 (X1 : Int), .int .u8 (X2 : Int), .int .u16 (X3 : Int), .int .u8 (X4 : Int)] 24) bF
  replace gg := bnew gg (.cells #[.int .u8 (X1 : Int), .int .u8 (X2 : Int), .int .u16 (X3 : Int), .int .u8 (X4 : Int)] 24)
  generalize w5.alloc (.cells #[.int .u8 (X1 : Int), .int .u8 (X2 : Int), .int .u16 (X3 : Int), .int .u8 (X4 : Int)] 24) = W5 at *
  generalize w5.heap.size = q5 at *
  go_upto_region 6 with (first
    | (go_at_call 10; (with_reducible refine (CRr.out _).mono ?_); rintro e w6 ⟨rfl, g0⟩; replace bA := bx_below bA g0; replace bB := bx_below bB g0; replace bF := bx_below bF g0; replace b5 := bx_below b5 g0; replace gg := bstep gg g0; clear g0))
  have b6 := heap_alloc_new w6 (.cells #[.int .u8 (X1 : Int), .int .u8 (X2 : Int), .int .u16 (X3 : Int), .int .u8 (X4 : Int)] 24)
  replace bA := bx_alloc (.cells #[.int .u8 (X1 : Int), .int .u8 (X2 : Int), .int .u16 (X3 : Int), .int .u8 (X4 : Int)] 24) bA
  replace bB := bx_alloc (.cells #[.int .u8 (X1 : Int), .int .u8 (X2 : Int), .int .u16 (X3 : Int), .int .u8 (X4 : Int)] 24) bB
  replace bF := bx_alloc (.cells #[.int .u8 (X1 : Int), .int .u8 (X2 : Int), .int .u16 (X3 : Int), .int .u8 (X4 : Int)] 24) bF
  replace b5 := bx_alloc (.cells #[.int .u8 (X1 : Int), .int .u8 (X2 : Int), .int .u16 (X3 : Int), .int .u8 (X4 : Int)] 24) b5
  replace gg := bnew gg (.cells #[.int .u8 (X1 : Int), .int .u8 (X2 : Int), .int .u16 (X3 : Int), .int .u8 (X4 : Int)] 24)
  generalize w6.alloc (.cells #[.int .u8 (X1 : Int), .int .u8 (X2 : Int), .int .u16 (X3 : Int), .int .u8 (X4 : Int)] 24) = W6 at *
  generalize w6.heap.size = q6 at *
  have hd0 := HL.out.below gg
  go_upto_region 7 with (first
    | (with_reducible refine wpList_loadR rowI rfl _ rfl _ rfl bA rfl ?_)
    | (go_at_call 11; (with_reducible refine (CF.out _ _ _ (hw.below gg) hd0).mono ?_); rintro e w7 ⟨a7, c7, rfl, r7, g0⟩; replace bA := bx_below bA g0; replace bB := bx_below bB g0; replace bF := bx_below bF g0; replace b5 := bx_below b5 g0; replace b6 := bx_below b6 g0; replace gg := bstep gg g0; clear g0))
  have b7 := heap_alloc_new w7 (.cells (frV F a7 c7) 28)
  replace bA := bx_alloc (.cells (frV F a7 c7) 28) bA
  replace bB := bx_alloc (.cells (frV F a7 c7) 28) bB
  replace bF := bx_alloc (.cells (frV F a7 c7) 28) bF
  replace b5 := bx_alloc (.cells (frV F a7 c7) 28) b5
  replace b6 := bx_alloc (.cells (frV F a7 c7) 28) b6
  replace r7 := r7.below (bnew0 w7 (.cells (frV F a7 c7) 28))
  replace gg := bnew gg (.cells (frV F a7 c7) 28)
  generalize w7.alloc (.cells (frV F a7 c7) 28) = W7 at *
  generalize w7.heap.size = q7 at *
  replace hd0 := HL.out.below gg
  go_upto_region 8 with (first
    | (with_reducible refine wpList_loadR rowI rfl _ rfl _ rfl bA rfl ?_)
    | (go_at_call 12; (with_reducible refine (CFr.out _ _ _ hd0).mono ?_); rintro e w8 ⟨a8, c8, rfl, r8, g0⟩; replace bA := bx_below bA g0; replace bB := bx_below bB g0; replace bF := bx_below bF g0; replace b5 := bx_below b5 g0; replace b6 := bx_below b6 g0; replace b7 := bx_below b7 g0; replace r7 := r7.below g0; replace gg := bstep gg g0; clear g0))
  have b8 := heap_alloc_new w8 (.cells (frV F a8 c8) 28)
  replace bA := bx_alloc (.cells (frV F a8 c8) 28) bA
  replace bB := bx_alloc (.cells (frV F a8 c8) 28) bB
  replace bF := bx_alloc (.cells (frV F a8 c8) 28) bF
  replace b5 := bx_alloc (.cells (frV F a8 c8) 28) b5
  replace b6 := bx_alloc (.cells (frV F a8 c8) 28) b6
  replace b7 := bx_alloc (.cells (frV F a8 c8) 28) b7
  replace r7 := r7.below (bnew0 w8 (.cells (frV F a8 c8) 28))
  replace r8 := r8.below (bnew0 w8 (.cells (frV F a8 c8) 28))
  replace gg := bnew gg (.cells (frV F a8 c8) 28)
  generalize w8.alloc (.cells (frV F a8 c8) 28) = W8 at *
  generalize w8.heap.size = q8 at *
  go_upto_region 9 with (first
    | (with_reducible refine wpList_loadR rowF rfl _ rfl _ rfl bF rfl ?_)
    | (go_at_call 13; (with_reducible refine (CO.out _ _ _ (hw.below gg)).mono ?_); rintro e w9 ⟨rfl, g0⟩; replace bA := bx_below bA g0; replace bB := bx_below bB g0; replace bF := bx_below bF g0; replace b5 := bx_below b5 g0; replace b6 := bx_below b6 g0; replace b7 := bx_below b7 g0; replace b8 := bx_below b8 g0; replace r7 := r7.below g0; replace r8 := r8.below g0; replace gg := bstep gg g0; clear g0))
  have b9 := heap_alloc_new w9 (.cells #[.int .u8 K, .int .u8 P, .int .u16 S, .int .u8 R] 24)
  replace bA := bx_alloc (.cells #[.int .u8 K, .int .u8 P, .int .u16 S, .int .u8 R] 24) bA
  replace bB := bx_alloc (.cells #[.int .u8 K, .int .u8 P, .int .u16 S, .int .u8 R] 24) bB
  replace bF := bx_alloc (.cells #[.int .u8 K, .int .u8 P, .int .u16 S, .int .u8 R] 24) bF
  replace b5 := bx_alloc (.cells #[.int .u8 K, .int .u8 P, .int .u16 S, .int .u8 R] 24) b5
  replace b6 := bx_alloc (.cells #[.int .u8 K, .int .u8 P, .int .u16 S, .int .u8 R] 24) b6
  replace b7 := bx_alloc (.cells #[.int .u8 K, .int .u8 P, .int .u16 S, .int .u8 R] 24) b7
  replace b8 := bx_alloc (.cells #[.int .u8 K, .int .u8 P, .int .u16 S, .int .u8 R] 24) b8
  replace r7 := r7.below (bnew0 w9 (.cells #[.int .u8 K, .int .u8 P, .int .u16 S, .int .u8 R] 24))
  replace r8 := r8.below (bnew0 w9 (.cells #[.int .u8 K, .int .u8 P, .int .u16 S, .int .u8 R] 24))
  replace gg := bnew gg (.cells #[.int .u8 K, .int .u8 P, .int .u16 S, .int .u8 R] 24)
  generalize w9.alloc (.cells #[.int .u8 K, .int .u8 P, .int .u16 S, .int .u8 R] 24) = W9 at *
  generalize w9.heap.size = q9 at *
  go_upto_region 10 with (first
    | (with_reducible refine wpList_loadR rowF rfl _ rfl _ rfl bF rfl ?_)
    | (go_at_call 14; (with_reducible refine (COr.out _ _ _).mono ?_); rintro e w10 ⟨rfl, g0⟩; replace bA := bx_below bA g0; replace bB := bx_below bB g0; replace bF := bx_below bF g0; replace b5 := bx_below b5 g0; replace b6 := bx_below b6 g0; replace b7 := bx_below b7 g0; replace b8 := bx_below b8 g0; replace b9 := bx_below b9 g0; replace r7 := r7.below g0; replace r8 := r8.below g0; replace gg := bstep gg g0; clear g0))
  have b10 := heap_alloc_new w10 (.cells #[.int .u8 K, .int .u8 P, .int .u16 S, .int .u8 R] 24)
  replace bA := bx_alloc (.cells #[.int .u8 K, .int .u8 P, .int .u16 S, .int .u8 R] 24) bA
  replace bB := bx_alloc (.cells #[.int .u8 K, .int .u8 P, .int .u16 S, .int .u8 R] 24) bB
  replace bF := bx_alloc (.cells #[.int .u8 K, .int .u8 P, .int .u16 S, .int .u8 R] 24) bF
  replace b5 := bx_alloc (.cells #[.int .u8 K, .int .u8 P, .int .u16 S, .int .u8 R] 24) b5
  replace b6 := bx_alloc (.cells #[.int .u8 K, .int .u8 P, .int .u16 S, .int .u8 R] 24) b6
  replace b7 := bx_alloc (.cells #[.int .u8 K, .int .u8 P, .int .u16 S, .int .u8 R] 24) b7
  replace b8 := bx_alloc (.cells #[.int .u8 K, .int .u8 P, .int .u16 S, .int .u8 R] 24) b8
  replace b9 := bx_alloc (.cells #[.int .u8 K, .int .u8 P, .int .u16 S, .int .u8 R] 24) b9
  replace r7 := r7.below (bnew0 w10 (.cells #[.int .u8 K, .int .u8 P, .int .u16 S, .int .u8 R] 24))
  replace r8 := r8.below (bnew0 w10 (.cells #[.int .u8 K, .int .u8 P, .int .u16 S, .int .u8 R] 24))
  replace gg := bnew gg (.cells #[.int .u8 K, .int .u8 P, .int .u16 S, .int .u8 R] 24)
  generalize w10.alloc (.cells #[.int .u8 K, .int .u8 P, .int .u16 S, .int .u8 R] 24) = W10 at *
  generalize w10.heap.size = q10 at *
  clear CM CMr CR CRr CF CFr CO COr bF hd0 HL
  have kI := fun d os => Calls.regrown_of (CI.out (grow (redrawn W10 d) os))
  have kIr := fun d os => Calls.regrown_of (CIr.out (grow (redrawn W10 d) os))
  have kL := fun d os => Calls.regrown_of (CL.out (grow (redrawn W10 d) os))
  have kLr := fun d os => Calls.regrown_of (CLr.out (grow (redrawn W10 d) os))
  have kS := fun d os => Calls.regrown_of (same_eq (grow (redrawn W10 d) os) F a7 a8 c7 c8 (r7.below (below_regrown _ _ _)) (r8.below (below_regrown _ _ _)) HF8.out)
  have kA := fun d os => Calls.regrown_of (awake15_any (grow (redrawn W10 d) os) (hw.below (bstep gg (below_regrown _ _ _))))
  clear CI CIr CL CLr r7 r8 hw
  obtain ⟨xa0, xa1, xa2, xa3⟩ := cell4r bA; obtain ⟨xb0, xb1, xb2, xb3⟩ := cell4r bB; obtain ⟨x50, x51, x52, x53⟩ := cell4r b5; obtain ⟨x60, x61, x62, x63⟩ := cell4r b6
  obtain ⟨x70, x71, x72, x73, x74⟩ := cell5r b7; obtain ⟨x80, x81, x82, x83, x84⟩ := cell5r b8; obtain ⟨x90, x91, x92, x93⟩ := cell4r b9; obtain ⟨y0, y1, y2, y3⟩ := cell4r b10
  clear bA bB b5 b6 b7 b8 b9 b10
  have e1 : (RI == RI) = true := by simp
  have e2 : (M == M) = true := by simp
  have e3 : (E == E) = true := by simp
  have e4 : (X5 == X5) = true := by simp
  have e5 : (E2 == E2) = true := by simp
  have e6 : (B == B) = true := by simp
  have e7 : (LS == LS) = true := by simp
  refine wp_region_quiet_below (by kernel_rfl) (by kernel_rfl) ?_
  repeat (go_big_quiet_step (first | (go_at_call 15; with_reducible exact kI _ _) | (go_at_call 16; with_reducible exact kIr _ _) | (go_at_call 17; with_reducible exact kS _ _) | (go_at_call 18; with_reducible exact kL _ _) | (go_at_call 19; with_reducible exact kLr _ _) | (go_at_call 20; with_reducible exact kA _ _)))
  refine wpQuiet_nil ?_
  intro w9 hw9
  have g9 : RowKit.Below W10.heap.size W10 w9 := by obtain ⟨p9, rfl⟩ := hw9; exact below_regrown _ _ _
  clear hw9 kI kIr kL kLr kS kA
  go_wp2
  go_ret
  exact ⟨rfl, bstep gg g9⟩
end Go.Proofs.YtdkgdjdhmonccaaDoor
