/-
  Texts of this place, put together: B15f, B15g, Ch, Open, OpenFive, Open4, Frs, B10, B10c, Rt, B15b, B15c, Sm, B15h, B15i, Laid15, Open15. What stands here is used by the statement; conditions: none of their own.
-/
import Derived.Test.YtdkgdjdhmonccaaDoorZ1
import Derived.Lib.SmallJoins
import Derived.Deep.SlicePairs
import Derived.WalkKit
import Derived.BigQuiet
import Derived.Deep.QuietTactic
import Derived.ArgAppend
import Derived.Deep.RegionHeld3
import Derived.Deep.Cut
import Derived.Lib.QuietBelow
import Derived.WalkSmall
import Derived.LaidMore
import Derived.OpenShut
import Derived.Stop.Joined
import Derived.SevenTiedAt
namespace Go.Proofs.YtdkgdjdhmonccaaDoor
open Go.RowKit Go.Sort
set_option linter.unusedVariables false
set_option linter.unusedSimpArgs false

theorem idFrame_no (w : World) (hw : WdO w) (k f s r : Nat) (hk : k < 256) (hf : f < 256) (hs : s < 65536) (hr : r < 256) (a : Option Addr) (n c : Nat) (h : riI ⟨k, f, s, r⟩ = false) :
    Calls Tryd.prog 11 #[.agg #[.int .u8 (k : Int), .int .u8 (f : Int), .int .u16 (s : Int), .int .u8 (r : Int)], .slice a n c] w fun e w' => e = .returned (.tuple #[.agg #[.int .u32 0, .bool false, .bool false, .int .u8 0, .slice none 0 0], .int .i64 150]) ∧ Below w.heap.size w w' := by
  obtain ⟨w0, hw0, hb0, hb1, g0⟩ : ∃ w0, Hid ((w.alloc (.cells #[.int .u8 (k : Int), .int .u8 (f : Int), .int .u16 (s : Int), .int .u8 (r : Int)] 24)).alloc (.cells #[.int .u32 0, .bool false, .bool false, .int .u8 0, .slice none 0 0] 28) = w0) ∧ w0.heap[w.heap.size]? = some (.cells #[.int .u8 (k : Int), .int .u8 (f : Int), .int .u16 (s : Int), .int .u8 (r : Int)] 24 (0, 0)) ∧ w0.heap[w.heap.size + 1]? = some (.cells #[.int .u32 0, .bool false, .bool false, .int .u8 0, .slice none 0 0] 28 (0, 0)) ∧ Below w.heap.size w w0 := ⟨_, rfl, bx_alloc _ (heap_alloc_new w _), new2 w _ _, bnew (bnew0 w _) _⟩
  have hm := hid (idMake_any w0 (hw.below g0) k f s r hk hf hs hr)
  rw [h] at hm
  go_enter Tryd.func11, Tryd.ntmps11
  go_wp2_with (first
      | (rw [hw0.out]; with_reducible refine wpList_loadR rowI rfl _ rfl _ rfl hb0 rfl ?_)
      | (with_reducible refine wpList_loadR rowI rfl _ rfl _ rfl hb0 rfl ?_)
      | (go_at_call 7; (with_reducible refine hm.out.mono ?_); rintro e w1 ⟨rfl, g1⟩; replace hb1 := bx_below hb1 g1; replace g0 := bstep g0 g1; clear hm)
      | (with_reducible refine wpList_storeR rowF rfl _ _ rfl (w.heap.size + 1) _ rfl rfl hb1 rfl rfl (by kernel_rfl) ?_))
  exact bodyPost_ret (v := .tuple #[.agg #[.int .u32 0, .bool false, .bool false, .int .u8 0, .slice none 0 0], .int .i64 150]) (results_row1 rowF rfl _ _ (w.heap.size + 1) rfl rfl (setRow_heap _ _ _ _ _ _ hb1) rfl) rfl ⟨rfl, below_setRow g0 (by omega) _⟩

theorem idFrame_long (w : World) (hw : WdO w) (k f s r : Nat) (hk : k < 256) (hf : f < 256) (hs : s < 65536) (hr : r < 256) (a : Option Addr) (n c : Nat) (h : riI ⟨k, f, s, r⟩ = true) (hn : 8 < n) :
    Calls Tryd.prog 11 #[.agg #[.int .u8 (k : Int), .int .u8 (f : Int), .int .u16 (s : Int), .int .u8 (r : Int)], .slice a n c] w fun e w' => e = .returned (.tuple #[.agg #[.int .u32 0, .bool false, .bool false, .int .u8 0, .slice none 0 0], .int .i64 240]) ∧ Below w.heap.size w w' := by
  obtain ⟨w0, hw0, hb0, hb1, g0⟩ : ∃ w0, Hid ((w.alloc (.cells #[.int .u8 (k : Int), .int .u8 (f : Int), .int .u16 (s : Int), .int .u8 (r : Int)] 24)).alloc (.cells #[.int .u32 0, .bool false, .bool false, .int .u8 0, .slice none 0 0] 28) = w0) ∧ w0.heap[w.heap.size]? = some (.cells #[.int .u8 (k : Int), .int .u8 (f : Int), .int .u16 (s : Int), .int .u8 (r : Int)] 24 (0, 0)) ∧ w0.heap[w.heap.size + 1]? = some (.cells #[.int .u32 0, .bool false, .bool false, .int .u8 0, .slice none 0 0] 28 (0, 0)) ∧ Below w.heap.size w w0 := ⟨_, rfl, bx_alloc _ (heap_alloc_new w _), new2 w _ _, bnew (bnew0 w _) _⟩
  have hm := hid (idMake_any w0 (hw.below g0) k f s r hk hf hs hr)
  rw [h] at hm
  simp only [if_true] at hm
  generalize mkI ⟨k, f, s, r⟩ = mm at *
  go_enter Tryd.func11, Tryd.ntmps11
  go_wp2_with (first
      | (rw [hw0.out]; with_reducible refine wpList_loadR rowI rfl _ rfl _ rfl hb0 rfl ?_)
      | (with_reducible refine wpList_loadR rowI rfl _ rfl _ rfl hb0 rfl ?_)
      | (go_at_call 7; (with_reducible refine hm.out.mono ?_); rintro e w1 ⟨rfl, g1⟩; replace hb1 := bx_below hb1 g1; replace g0 := bstep g0 g1; clear hm)
      | (with_reducible refine wpList_storeR rowF rfl _ _ rfl (w.heap.size + 1) _ rfl rfl hb1 rfl rfl (by kernel_rfl) ?_))
  exact bodyPost_ret (v := .tuple #[.agg #[.int .u32 0, .bool false, .bool false, .int .u8 0, .slice none 0 0], .int .i64 240]) (results_row1 rowF rfl _ _ (w.heap.size + 1) rfl rfl (setRow_heap _ _ _ _ _ _ hb1) rfl) rfl ⟨rfl, below_setRow g0 (by omega) _⟩

theorem idFrame_ok (w : World) (hw : WdO w) (k f s r : Nat) (hk : k < 256) (hf : f < 256) (hs : s < 65536) (hr : r < 256) (a : Option Addr) (n c : Nat) (h : riI ⟨k, f, s, r⟩ = true) (hn : n ≤ 8) (l : List UInt8) (hl : RL bv w a n c l) :
    Calls Tryd.prog 11 #[.agg #[.int .u8 (k : Int), .int .u8 (f : Int), .int .u16 (s : Int), .int .u8 (r : Int)], .slice a n c] w fun e w' => ∃ a2 c2, e = .returned (.tuple #[.agg #[.int .u32 (mkI ⟨k, f, s, r⟩ : Int), .bool true, .bool false, .int .u8 (n : Int), .slice a2 n c2], .int .i64 0]) ∧ OL bv 5 w.heap.size w' a2 n c2 l ∧ Below w.heap.size w w' := by
  obtain ⟨w0, hw0, hb0, hb1, g0⟩ : ∃ w0, Hid ((w.alloc (.cells #[.int .u8 (k : Int), .int .u8 (f : Int), .int .u16 (s : Int), .int .u8 (r : Int)] 24)).alloc (.cells #[.int .u32 0, .bool false, .bool false, .int .u8 0, .slice none 0 0] 28) = w0) ∧ w0.heap[w.heap.size]? = some (.cells #[.int .u8 (k : Int), .int .u8 (f : Int), .int .u16 (s : Int), .int .u8 (r : Int)] 24 (0, 0)) ∧ w0.heap[w.heap.size + 1]? = some (.cells #[.int .u32 0, .bool false, .bool false, .int .u8 0, .slice none 0 0] 28 (0, 0)) ∧ Below w.heap.size w w0 := ⟨_, rfl, bx_alloc _ (heap_alloc_new w _), new2 w _ _, bnew (bnew0 w _) _⟩
  have hm := hid (idMake_any w0 (hw.below g0) k f s r hk hf hs hr)
  rw [h] at hm
  simp only [if_true] at hm
  have hsz : w.heap.size + 2 ≤ w0.heap.size := by rw [← hw0.out]; simp
  generalize mkI ⟨k, f, s, r⟩ = mm at *
  go_enter Tryd.func11, Tryd.ntmps11
  go_upto_region 6 with (first
      | (rw [hw0.out]; with_reducible refine wpList_loadR rowI rfl _ rfl _ rfl hb0 rfl ?_)
      | (with_reducible refine wpList_loadR rowI rfl _ rfl _ rfl hb0 rfl ?_)
      | (go_at_call 7; (with_reducible refine hm.out.mono ?_); rintro e w1 ⟨rfl, g1⟩; replace hb1 := bx_below hb1 g1; replace g0 := bstep g0 g1; clear hm)
      | (with_reducible refine wpList_storeR rowF rfl _ _ rfl (w.heap.size + 1) _ rfl rfl hb1 rfl rfl (by kernel_rfl) ?_))
  replace hsz : w.heap.size + 2 ≤ w1.heap.size := Nat.le_trans hsz g1.size
  clear g1 hb0 hw0
  go_wp2_with (first
      | (go_at_call 25; (with_reducible refine (cloneY_any _ a n c l (hl.below g0) (by omega)).mono ?_); rintro e w2 ⟨a2, c2, rfl, ho, g2⟩; replace hb1 := bx_below hb1 g2; replace ho := ho.mono hsz; replace g0 := bstep g0 g2; clear g2)
      | (with_reducible refine wpList_storeR rowF rfl _ _ rfl (w.heap.size + 1) _ rfl rfl hb1 rfl rfl (by kernel_rfl) ?_))
  exact bodyPost_ret (v := .tuple #[.agg #[.int .u32 (mm : Int), .bool true, .bool false, .int .u8 (n : Int), .slice a2 n c2], .int .i64 0]) (results_row1 rowF rfl _ _ (w.heap.size + 1) rfl rfl (setRow_heap _ _ _ _ _ _ hb1) rfl) rfl ⟨a2, c2, rfl, (ho.kept fun g hg => setRow_other _ _ _ _ (by have := (ho.ltB hg).2; dsimp only at this; omega)).mono (by omega), below_setRow g0 (by omega) _⟩

theorem refIdFrame_no (w : World) (k f s r : Nat) (hk : k < 256) (hf : f < 256) (hs : s < 65536) (hr : r < 256) (a : Option Addr) (n c : Nat) (h : riI ⟨k, f, s, r⟩ = false) :
    Calls Tryd.prog 12 #[.agg #[.int .u8 (k : Int), .int .u8 (f : Int), .int .u16 (s : Int), .int .u8 (r : Int)], .slice a n c] w fun e w' => e = .returned (.tuple #[.agg #[.int .u32 0, .bool false, .bool false, .int .u8 0, .slice none 0 0], .int .i64 150]) ∧ Below w.heap.size w w' := by
  obtain ⟨w0, hw0, hb0, hb1, g0⟩ : ∃ w0, Hid ((w.alloc (.cells #[.int .u8 (k : Int), .int .u8 (f : Int), .int .u16 (s : Int), .int .u8 (r : Int)] 24)).alloc (.cells #[.int .u32 0, .bool false, .bool false, .int .u8 0, .slice none 0 0] 28) = w0) ∧ w0.heap[w.heap.size]? = some (.cells #[.int .u8 (k : Int), .int .u8 (f : Int), .int .u16 (s : Int), .int .u8 (r : Int)] 24 (0, 0)) ∧ w0.heap[w.heap.size + 1]? = some (.cells #[.int .u32 0, .bool false, .bool false, .int .u8 0, .slice none 0 0] 28 (0, 0)) ∧ Below w.heap.size w w0 := ⟨_, rfl, bx_alloc _ (heap_alloc_new w _), new2 w _ _, bnew (bnew0 w _) _⟩
  have hm := hid (refIdMake_any w0 k f s r hk hf hs hr)
  rw [h] at hm
  go_enter Tryd.func12, Tryd.ntmps12
  go_wp2_with (first
      | (rw [hw0.out]; with_reducible refine wpList_loadR rowI rfl _ rfl _ rfl hb0 rfl ?_)
      | (with_reducible refine wpList_loadR rowI rfl _ rfl _ rfl hb0 rfl ?_)
      | (go_at_call 8; (with_reducible refine hm.out.mono ?_); rintro e w1 ⟨rfl, g1⟩; replace hb1 := bx_below hb1 g1; replace g0 := bstep g0 g1; clear hm)
      | (with_reducible refine wpList_storeR rowF rfl _ _ rfl (w.heap.size + 1) _ rfl rfl hb1 rfl rfl (by kernel_rfl) ?_))
  exact bodyPost_ret (v := .tuple #[.agg #[.int .u32 0, .bool false, .bool false, .int .u8 0, .slice none 0 0], .int .i64 150]) (results_row1 rowF rfl _ _ (w.heap.size + 1) rfl rfl (setRow_heap _ _ _ _ _ _ hb1) rfl) rfl ⟨rfl, below_setRow g0 (by omega) _⟩

theorem refIdFrame_long (w : World) (k f s r : Nat) (hk : k < 256) (hf : f < 256) (hs : s < 65536) (hr : r < 256) (a : Option Addr) (n c : Nat) (h : riI ⟨k, f, s, r⟩ = true) (hn : 8 < n) :
    Calls Tryd.prog 12 #[.agg #[.int .u8 (k : Int), .int .u8 (f : Int), .int .u16 (s : Int), .int .u8 (r : Int)], .slice a n c] w fun e w' => e = .returned (.tuple #[.agg #[.int .u32 0, .bool false, .bool false, .int .u8 0, .slice none 0 0], .int .i64 240]) ∧ Below w.heap.size w w' := by
  obtain ⟨w0, hw0, hb0, hb1, g0⟩ : ∃ w0, Hid ((w.alloc (.cells #[.int .u8 (k : Int), .int .u8 (f : Int), .int .u16 (s : Int), .int .u8 (r : Int)] 24)).alloc (.cells #[.int .u32 0, .bool false, .bool false, .int .u8 0, .slice none 0 0] 28) = w0) ∧ w0.heap[w.heap.size]? = some (.cells #[.int .u8 (k : Int), .int .u8 (f : Int), .int .u16 (s : Int), .int .u8 (r : Int)] 24 (0, 0)) ∧ w0.heap[w.heap.size + 1]? = some (.cells #[.int .u32 0, .bool false, .bool false, .int .u8 0, .slice none 0 0] 28 (0, 0)) ∧ Below w.heap.size w w0 := ⟨_, rfl, bx_alloc _ (heap_alloc_new w _), new2 w _ _, bnew (bnew0 w _) _⟩
  have hm := hid (refIdMake_any w0 k f s r hk hf hs hr)
  rw [h] at hm
  simp only [if_true] at hm
  generalize mkI ⟨k, f, s, r⟩ = mm at *
  go_enter Tryd.func12, Tryd.ntmps12
  go_wp2_with (first
      | (rw [hw0.out]; with_reducible refine wpList_loadR rowI rfl _ rfl _ rfl hb0 rfl ?_)
      | (with_reducible refine wpList_loadR rowI rfl _ rfl _ rfl hb0 rfl ?_)
      | (go_at_call 8; (with_reducible refine hm.out.mono ?_); rintro e w1 ⟨rfl, g1⟩; replace hb1 := bx_below hb1 g1; replace g0 := bstep g0 g1; clear hm)
      | (with_reducible refine wpList_storeR rowF rfl _ _ rfl (w.heap.size + 1) _ rfl rfl hb1 rfl rfl (by kernel_rfl) ?_))
  exact bodyPost_ret (v := .tuple #[.agg #[.int .u32 0, .bool false, .bool false, .int .u8 0, .slice none 0 0], .int .i64 240]) (results_row1 rowF rfl _ _ (w.heap.size + 1) rfl rfl (setRow_heap _ _ _ _ _ _ hb1) rfl) rfl ⟨rfl, below_setRow g0 (by omega) _⟩

theorem refIdFrame_ok (w : World) (k f s r : Nat) (hk : k < 256) (hf : f < 256) (hs : s < 65536) (hr : r < 256) (a : Option Addr) (n c : Nat) (h : riI ⟨k, f, s, r⟩ = true) (hn : n ≤ 8) (l : List UInt8) (hl : RL bv w a n c l) :
    Calls Tryd.prog 12 #[.agg #[.int .u8 (k : Int), .int .u8 (f : Int), .int .u16 (s : Int), .int .u8 (r : Int)], .slice a n c] w fun e w' => ∃ a2 c2, e = .returned (.tuple #[.agg #[.int .u32 (mkI ⟨k, f, s, r⟩ : Int), .bool true, .bool false, .int .u8 (n : Int), .slice a2 n c2], .int .i64 0]) ∧ OL bv 5 w.heap.size w' a2 n c2 l ∧ Below w.heap.size w w' := by
  obtain ⟨w0, hw0, hb0, hb1, g0⟩ : ∃ w0, Hid ((w.alloc (.cells #[.int .u8 (k : Int), .int .u8 (f : Int), .int .u16 (s : Int), .int .u8 (r : Int)] 24)).alloc (.cells #[.int .u32 0, .bool false, .bool false, .int .u8 0, .slice none 0 0] 28) = w0) ∧ w0.heap[w.heap.size]? = some (.cells #[.int .u8 (k : Int), .int .u8 (f : Int), .int .u16 (s : Int), .int .u8 (r : Int)] 24 (0, 0)) ∧ w0.heap[w.heap.size + 1]? = some (.cells #[.int .u32 0, .bool false, .bool false, .int .u8 0, .slice none 0 0] 28 (0, 0)) ∧ Below w.heap.size w w0 := ⟨_, rfl, bx_alloc _ (heap_alloc_new w _), new2 w _ _, bnew (bnew0 w _) _⟩
  have hm := hid (refIdMake_any w0 k f s r hk hf hs hr)
  rw [h] at hm
  simp only [if_true] at hm
  have hsz : w.heap.size + 2 ≤ w0.heap.size := by rw [← hw0.out]; simp
  generalize mkI ⟨k, f, s, r⟩ = mm at *
  go_enter Tryd.func12, Tryd.ntmps12
  go_upto_region 6 with (first
      | (rw [hw0.out]; with_reducible refine wpList_loadR rowI rfl _ rfl _ rfl hb0 rfl ?_)
      | (with_reducible refine wpList_loadR rowI rfl _ rfl _ rfl hb0 rfl ?_)
      | (go_at_call 8; (with_reducible refine hm.out.mono ?_); rintro e w1 ⟨rfl, g1⟩; replace hb1 := bx_below hb1 g1; replace g0 := bstep g0 g1; clear hm)
      | (with_reducible refine wpList_storeR rowF rfl _ _ rfl (w.heap.size + 1) _ rfl rfl hb1 rfl rfl (by kernel_rfl) ?_))
  replace hsz : w.heap.size + 2 ≤ w1.heap.size := Nat.le_trans hsz g1.size
  clear g1 hb0 hw0
  have hol := ol_lit bv 5 (w.heap.size + 2) w1 [] #[] 0 rfl rfl (by omega) hsz
  have hl1 := (hl.below g0).below (bnew0 w1 (.cells #[] 5))
  go_wp2_with (first
      | (at_builtin; refine wpList_app (f := bv) tY rfl _ _ rfl rfl hol rfl hl1 (fun _ => rfl) (by omega) (by omega) (by simp; omega) ?_; intro w2 a2 c2 ho g2; rw [Nat.zero_add, List.nil_append] at ho; replace hb1 := (g2.block _ (by omega)).trans (bx_alloc _ hb1); replace g0 := (bnew g0 _).trans (g2.mono (by omega)); clear g2)
      | (with_reducible refine wpList_storeR rowF rfl _ _ rfl (w.heap.size + 1) _ rfl rfl hb1 rfl rfl (by kernel_rfl) ?_))
  exact bodyPost_ret (v := .tuple #[.agg #[.int .u32 (mm : Int), .bool true, .bool false, .int .u8 (n : Int), .slice a2 n c2], .int .i64 0]) (results_row1 rowF rfl _ _ (w.heap.size + 1) rfl rfl (setRow_heap _ _ _ _ _ _ hb1) rfl) rfl ⟨a2, c2, rfl, (ho.kept fun g hg => setRow_other _ _ _ _ (by have := (ho.ltB hg).2; dsimp only at this; omega)).mono (by omega), below_setRow g0 (by omega) _⟩

theorem idOf_no (w : World) (hw : WdO w) (id : Nat) (ext rem : Bool) (dlc : Nat) (a : Option Addr) (n c : Nat) (hi : id < 4294967296) (hd : dlc < 256) (h : (riF id ext rem dlc n && ext && !rem) = false) :
    Calls Tryd.prog 13 #[.agg #[.int .u32 (id : Int), .bool ext, .bool rem, .int .u8 (dlc : Int), .slice a n c]] w fun e w' => e = .returned (.tuple #[.agg #[.int .u8 0, .int .u8 0, .int .u16 0, .int .u8 0], .bool false]) ∧ Below w.heap.size w w' := by
  obtain ⟨w0, hw0, hb0, hb1, g0⟩ : ∃ w0, Hid ((w.alloc (.cells #[.int .u32 (id : Int), .bool ext, .bool rem, .int .u8 (dlc : Int), .slice a n c] 28)).alloc (.cells #[.int .u8 0, .int .u8 0, .int .u16 0, .int .u8 0] 24) = w0) ∧ w0.heap[w.heap.size]? = some (.cells #[.int .u32 (id : Int), .bool ext, .bool rem, .int .u8 (dlc : Int), .slice a n c] 28 (0, 0)) ∧ w0.heap[w.heap.size + 1]? = some (.cells #[.int .u8 0, .int .u8 0, .int .u16 0, .int .u8 0] 24 (0, 0)) ∧ Below w.heap.size w w0 := ⟨_, rfl, bx_alloc _ (heap_alloc_new w _), new2 w _ _, bnew (bnew0 w _) _⟩
  have cR := frRight_any w0 id ext rem dlc a n c hi hd
  cases hr : riF id ext rem dlc n
  · rw [hr] at cR
    clear h hr
    go_enter Tryd.func13, Tryd.ntmps13
    go_wp2_with (first
      | (rw [hw0.out]; with_reducible refine wpList_loadR rowF rfl _ rfl _ rfl hb0 rfl ?_)
      | (go_at_call 21; (with_reducible refine cR.mono ?_); rintro e w1 ⟨rfl, g1⟩; replace hb1 := bx_below hb1 g1; replace hb0 := bx_below hb0 g1; replace g0 := bstep g0 g1; clear cR g1; obtain ⟨x0, x1, x2, x3, x4⟩ := bx5 hb0)
      | (with_reducible refine wpList_storeR rowI rfl _ _ rfl (w.heap.size + 1) _ rfl rfl hb1 rfl rfl (by kernel_rfl) ?_))
    exact bodyPost_ret (v := .tuple #[.agg #[.int .u8 0, .int .u8 0, .int .u16 0, .int .u8 0], .bool false]) (results_row1 rowI rfl _ _ (w.heap.size + 1) rfl rfl (setRow_heap _ _ _ _ _ _ hb1) rfl) rfl ⟨rfl, below_setRow g0 (by omega) _⟩
  · rw [hr] at cR h
    cases ext
    · clear h hr
      go_enter Tryd.func13, Tryd.ntmps13
      go_wp2_with (first
      | (rw [hw0.out]; with_reducible refine wpList_loadR rowF rfl _ rfl _ rfl hb0 rfl ?_)
      | (go_at_call 21; (with_reducible refine cR.mono ?_); rintro e w1 ⟨rfl, g1⟩; replace hb1 := bx_below hb1 g1; replace hb0 := bx_below hb0 g1; replace g0 := bstep g0 g1; clear cR g1; obtain ⟨x0, x1, x2, x3, x4⟩ := bx5 hb0)
      | (with_reducible refine wpList_storeR rowI rfl _ _ rfl (w.heap.size + 1) _ rfl rfl hb1 rfl rfl (by kernel_rfl) ?_))
      exact bodyPost_ret (v := .tuple #[.agg #[.int .u8 0, .int .u8 0, .int .u16 0, .int .u8 0], .bool false]) (results_row1 rowI rfl _ _ (w.heap.size + 1) rfl rfl (setRow_heap _ _ _ _ _ _ hb1) rfl) rfl ⟨rfl, below_setRow g0 (by omega) _⟩
    · cases rem
      · simp at h
      · clear h hr
        go_enter Tryd.func13, Tryd.ntmps13
        go_wp2_with (first
      | (rw [hw0.out]; with_reducible refine wpList_loadR rowF rfl _ rfl _ rfl hb0 rfl ?_)
      | (go_at_call 21; (with_reducible refine cR.mono ?_); rintro e w1 ⟨rfl, g1⟩; replace hb1 := bx_below hb1 g1; replace hb0 := bx_below hb0 g1; replace g0 := bstep g0 g1; clear cR g1; obtain ⟨x0, x1, x2, x3, x4⟩ := bx5 hb0)
      | (with_reducible refine wpList_storeR rowI rfl _ _ rfl (w.heap.size + 1) _ rfl rfl hb1 rfl rfl (by kernel_rfl) ?_))
        exact bodyPost_ret (v := .tuple #[.agg #[.int .u8 0, .int .u8 0, .int .u16 0, .int .u8 0], .bool false]) (results_row1 rowI rfl _ _ (w.heap.size + 1) rfl rfl (setRow_heap _ _ _ _ _ _ hb1) rfl) rfl ⟨rfl, below_setRow g0 (by omega) _⟩

theorem idOf_ok (w : World) (hw : WdO w) (id : Nat) (ext rem : Bool) (dlc : Nat) (a : Option Addr) (n c : Nat) (hi : id < 4294967296) (hd : dlc < 256) (h : (riF id ext rem dlc n && ext && !rem) = true) :
    Calls Tryd.prog 13 #[.agg #[.int .u32 (id : Int), .bool ext, .bool rem, .int .u8 (dlc : Int), .slice a n c]] w fun e w' => e = .returned (.tuple #[.agg #[.int .u8 (rK id : Int), .int .u8 (rF id : Int), .int .u16 (rS id : Int), .int .u8 (rR id : Int)], .bool (rB id)]) ∧ Below w.heap.size w w' := by
  obtain ⟨w0, hw0, hb0, hb1, g0⟩ : ∃ w0, Hid ((w.alloc (.cells #[.int .u32 (id : Int), .bool ext, .bool rem, .int .u8 (dlc : Int), .slice a n c] 28)).alloc (.cells #[.int .u8 0, .int .u8 0, .int .u16 0, .int .u8 0] 24) = w0) ∧ w0.heap[w.heap.size]? = some (.cells #[.int .u32 (id : Int), .bool ext, .bool rem, .int .u8 (dlc : Int), .slice a n c] 28 (0, 0)) ∧ w0.heap[w.heap.size + 1]? = some (.cells #[.int .u8 0, .int .u8 0, .int .u16 0, .int .u8 0] 24 (0, 0)) ∧ Below w.heap.size w w0 := ⟨_, rfl, bx_alloc _ (heap_alloc_new w _), new2 w _ _, bnew (bnew0 w _) _⟩
  have cR := frRight_any w0 id ext rem dlc a n c hi hd
  simp only [Bool.and_eq_true, Bool.not_eq_true'] at h
  obtain ⟨⟨hr, rfl⟩, rfl⟩ := h
  rw [hr] at cR
  clear hr
  go_enter Tryd.func13, Tryd.ntmps13
  go_wp2_with (first
      | (rw [hw0.out]; with_reducible refine wpList_loadR rowF rfl _ rfl _ rfl hb0 rfl ?_)
      | (go_at_call 21; (with_reducible refine cR.mono ?_); rintro e w1 ⟨rfl, g1⟩; replace hb1 := bx_below hb1 g1; replace hb0 := bx_below hb0 g1; replace g0 := bstep g0 g1; clear cR g1; obtain ⟨x0, x1, x2, x3, x4⟩ := bx5 hb0)
      | (with_reducible refine wpList_storeR rowI rfl _ _ rfl (w.heap.size + 1) _ rfl rfl hb1 rfl rfl (by kernel_rfl) ?_)
      | (go_at_call 9; (with_reducible refine (idRead_any _ (hw.below g0) id hi).mono ?_); rintro e w2 ⟨rfl, g2⟩; replace hb1 := bx_below hb1 g2; replace g0 := bstep g0 g2; clear x0 x1 x2 x3 x4 hb0 g2))
  exact bodyPost_ret (v := .tuple #[.agg #[.int .u8 (rK id : Int), .int .u8 (rF id : Int), .int .u16 (rS id : Int), .int .u8 (rR id : Int)], .bool (rB id)]) (results_row1 rowI rfl _ _ (w.heap.size + 1) rfl rfl (setRow_heap _ _ _ _ _ _ hb1) rfl) rfl ⟨rfl, below_setRow g0 (by omega) _⟩

theorem refIdOf_no (w : World) (id : Nat) (ext rem : Bool) (dlc : Nat) (a : Option Addr) (n c : Nat) (hi : id < 4294967296) (hd : dlc < 256) (h : (riF id ext rem dlc n && ext && !rem) = false) :
    Calls Tryd.prog 14 #[.agg #[.int .u32 (id : Int), .bool ext, .bool rem, .int .u8 (dlc : Int), .slice a n c]] w fun e w' => e = .returned (.tuple #[.agg #[.int .u8 0, .int .u8 0, .int .u16 0, .int .u8 0], .bool false]) ∧ Below w.heap.size w w' := by
  obtain ⟨w0, hw0, hb0, hb1, g0⟩ : ∃ w0, Hid ((w.alloc (.cells #[.int .u32 (id : Int), .bool ext, .bool rem, .int .u8 (dlc : Int), .slice a n c] 28)).alloc (.cells #[.int .u8 0, .int .u8 0, .int .u16 0, .int .u8 0] 24) = w0) ∧ w0.heap[w.heap.size]? = some (.cells #[.int .u32 (id : Int), .bool ext, .bool rem, .int .u8 (dlc : Int), .slice a n c] 28 (0, 0)) ∧ w0.heap[w.heap.size + 1]? = some (.cells #[.int .u8 0, .int .u8 0, .int .u16 0, .int .u8 0] 24 (0, 0)) ∧ Below w.heap.size w w0 := ⟨_, rfl, bx_alloc _ (heap_alloc_new w _), new2 w _ _, bnew (bnew0 w _) _⟩
  have cR := refRight_any w0 id ext rem dlc a n c hi hd
  cases hr : riF id ext rem dlc n
  · rw [hr] at cR
    clear h hr
    go_enter Tryd.func14, Tryd.ntmps14
    go_wp2_with (first
      | (rw [hw0.out]; with_reducible refine wpList_loadR rowF rfl _ rfl _ rfl hb0 rfl ?_)
      | (go_at_call 26; (with_reducible refine cR.mono ?_); rintro e w1 ⟨rfl, g1⟩; replace hb1 := bx_below hb1 g1; replace hb0 := bx_below hb0 g1; replace g0 := bstep g0 g1; clear cR g1; obtain ⟨x0, x1, x2, x3, x4⟩ := bx5 hb0)
      | (with_reducible refine wpList_storeR rowI rfl _ _ rfl (w.heap.size + 1) _ rfl rfl hb1 rfl rfl (by kernel_rfl) ?_))
    exact bodyPost_ret (v := .tuple #[.agg #[.int .u8 0, .int .u8 0, .int .u16 0, .int .u8 0], .bool false]) (results_row1 rowI rfl _ _ (w.heap.size + 1) rfl rfl (setRow_heap _ _ _ _ _ _ hb1) rfl) rfl ⟨rfl, below_setRow g0 (by omega) _⟩
  · rw [hr] at cR h
    cases ext
    · clear h hr
      go_enter Tryd.func14, Tryd.ntmps14
      go_wp2_with (first
      | (rw [hw0.out]; with_reducible refine wpList_loadR rowF rfl _ rfl _ rfl hb0 rfl ?_)
      | (go_at_call 26; (with_reducible refine cR.mono ?_); rintro e w1 ⟨rfl, g1⟩; replace hb1 := bx_below hb1 g1; replace hb0 := bx_below hb0 g1; replace g0 := bstep g0 g1; clear cR g1; obtain ⟨x0, x1, x2, x3, x4⟩ := bx5 hb0)
      | (with_reducible refine wpList_storeR rowI rfl _ _ rfl (w.heap.size + 1) _ rfl rfl hb1 rfl rfl (by kernel_rfl) ?_))
      exact bodyPost_ret (v := .tuple #[.agg #[.int .u8 0, .int .u8 0, .int .u16 0, .int .u8 0], .bool false]) (results_row1 rowI rfl _ _ (w.heap.size + 1) rfl rfl (setRow_heap _ _ _ _ _ _ hb1) rfl) rfl ⟨rfl, below_setRow g0 (by omega) _⟩
    · cases rem
      · simp at h
      · clear h hr
        go_enter Tryd.func14, Tryd.ntmps14
        go_wp2_with (first
      | (rw [hw0.out]; with_reducible refine wpList_loadR rowF rfl _ rfl _ rfl hb0 rfl ?_)
      | (go_at_call 26; (with_reducible refine cR.mono ?_); rintro e w1 ⟨rfl, g1⟩; replace hb1 := bx_below hb1 g1; replace hb0 := bx_below hb0 g1; replace g0 := bstep g0 g1; clear cR g1; obtain ⟨x0, x1, x2, x3, x4⟩ := bx5 hb0)
      | (with_reducible refine wpList_storeR rowI rfl _ _ rfl (w.heap.size + 1) _ rfl rfl hb1 rfl rfl (by kernel_rfl) ?_))
        exact bodyPost_ret (v := .tuple #[.agg #[.int .u8 0, .int .u8 0, .int .u16 0, .int .u8 0], .bool false]) (results_row1 rowI rfl _ _ (w.heap.size + 1) rfl rfl (setRow_heap _ _ _ _ _ _ hb1) rfl) rfl ⟨rfl, below_setRow g0 (by omega) _⟩

theorem refIdOf_ok (w : World) (id : Nat) (ext rem : Bool) (dlc : Nat) (a : Option Addr) (n c : Nat) (hi : id < 4294967296) (hd : dlc < 256) (h : (riF id ext rem dlc n && ext && !rem) = true) :
    Calls Tryd.prog 14 #[.agg #[.int .u32 (id : Int), .bool ext, .bool rem, .int .u8 (dlc : Int), .slice a n c]] w fun e w' => e = .returned (.tuple #[.agg #[.int .u8 (rK id : Int), .int .u8 (rF id : Int), .int .u16 (rS id : Int), .int .u8 (rR id : Int)], .bool (rB id)]) ∧ Below w.heap.size w w' := by
  obtain ⟨w0, hw0, hb0, hb1, g0⟩ : ∃ w0, Hid ((w.alloc (.cells #[.int .u32 (id : Int), .bool ext, .bool rem, .int .u8 (dlc : Int), .slice a n c] 28)).alloc (.cells #[.int .u8 0, .int .u8 0, .int .u16 0, .int .u8 0] 24) = w0) ∧ w0.heap[w.heap.size]? = some (.cells #[.int .u32 (id : Int), .bool ext, .bool rem, .int .u8 (dlc : Int), .slice a n c] 28 (0, 0)) ∧ w0.heap[w.heap.size + 1]? = some (.cells #[.int .u8 0, .int .u8 0, .int .u16 0, .int .u8 0] 24 (0, 0)) ∧ Below w.heap.size w w0 := ⟨_, rfl, bx_alloc _ (heap_alloc_new w _), new2 w _ _, bnew (bnew0 w _) _⟩
  have cR := refRight_any w0 id ext rem dlc a n c hi hd
  simp only [Bool.and_eq_true, Bool.not_eq_true'] at h
  obtain ⟨⟨hr, rfl⟩, rfl⟩ := h
  rw [hr] at cR
  clear hr
  go_enter Tryd.func14, Tryd.ntmps14
  go_wp2_with (first
      | (rw [hw0.out]; with_reducible refine wpList_loadR rowF rfl _ rfl _ rfl hb0 rfl ?_)
      | (go_at_call 26; (with_reducible refine cR.mono ?_); rintro e w1 ⟨rfl, g1⟩; replace hb1 := bx_below hb1 g1; replace hb0 := bx_below hb0 g1; replace g0 := bstep g0 g1; clear cR g1; obtain ⟨x0, x1, x2, x3, x4⟩ := bx5 hb0)
      | (with_reducible refine wpList_storeR rowI rfl _ _ rfl (w.heap.size + 1) _ rfl rfl hb1 rfl rfl (by kernel_rfl) ?_)
      | (go_at_call 10; (with_reducible refine (refIdRead_any _ id hi).mono ?_); rintro e w2 ⟨rfl, g2⟩; replace hb1 := bx_below hb1 g2; replace g0 := bstep g0 g2; clear x0 x1 x2 x3 x4 hb0 g2))
  exact bodyPost_ret (v := .tuple #[.agg #[.int .u8 (rK id : Int), .int .u8 (rF id : Int), .int .u16 (rS id : Int), .int .u8 (rR id : Int)], .bool (rB id)]) (results_row1 rowI rfl _ _ (w.heap.size + 1) rfl rfl (setRow_heap _ _ _ _ _ _ hb1) rfl) rfl ⟨rfl, below_setRow g0 (by omega) _⟩

end Go.Proofs.YtdkgdjdhmonccaaDoor

namespace Go.Proofs.YtdkgdjdhmonccaaDoor
open Go.RowKit Go.Sort
set_option linter.unusedVariables false
set_option linter.unusedSimpArgs false

theorem aw15_make (w : World) (hw : WdO w) : Calls Tryd.prog 7 #[.agg #[.int .u8 1, .int .u8 2, .int .u16 3, .int .u8 4]] w fun e w' => e = .returned (.tuple #[.int .u32 35651636, .int .i64 0]) ∧ Below w.heap.size w w' :=
  idMake_any w hw 1 2 3 4 (by decide) (by decide) (by decide) (by decide)
theorem aw15_read0 (w : World) (hw : WdO w) : Calls Tryd.prog 9 #[.int .u32 0] w fun e w' => e = .returned (.tuple #[.agg #[.int .u8 0, .int .u8 0, .int .u16 0, .int .u8 0], .bool true]) ∧ Below w.heap.size w w' :=
  idRead_any w hw 0 (by decide)
theorem aw15_read1 (w : World) (hw : WdO w) : Calls Tryd.prog 9 #[.int .u32 536870911] w fun e w' => e = .returned (.tuple #[.agg #[.int .u8 0, .int .u8 0, .int .u16 0, .int .u8 0], .bool false]) ∧ Below w.heap.size w w' := by
  have h := idRead_any w hw 536870911 (by decide)
  rw [show rK 536870911 = 0 by decide, show rF 536870911 = 0 by decide, show rS 536870911 = 0 by decide, show rR 536870911 = 0 by decide, show rB 536870911 = false by decide] at h
  exact h
theorem aw15_frame (w : World) (hw : WdO w) (a : Option Addr) (c : Nat) (l : List UInt8) (hl : RL bv w a 2 c l) : Calls Tryd.prog 11 #[.agg #[.int .u8 1, .int .u8 2, .int .u16 3, .int .u8 4], .slice a 2 c] w fun e w' => ∃ a2 c2, e = .returned (.tuple #[.agg #[.int .u32 35651636, .bool true, .bool false, .int .u8 2, .slice a2 2 c2], .int .i64 0]) ∧ Below w.heap.size w w' :=
  (idFrame_ok w hw 1 2 3 4 (by decide) (by decide) (by decide) (by decide) a 2 c (by decide) (by decide) l hl).mono fun e w' ⟨a2, c2, h1, _, h3⟩ => ⟨a2, c2, h1, h3⟩
theorem aw15_of (w : World) (hw : WdO w) : Calls Tryd.prog 13 #[.agg #[.int .u32 5, .bool false, .bool false, .int .u8 0, .slice none 0 0]] w fun e w' => e = .returned (.tuple #[.agg #[.int .u8 0, .int .u8 0, .int .u16 0, .int .u8 0], .bool false]) ∧ Below w.heap.size w w' :=
  idOf_no w hw 5 false false 0 none 0 0 (by decide) (by decide) (by decide)

set_option maxHeartbeats 2000000 in
set_option maxRecDepth 100000 in
theorem awake15_any (w : World) (hw : WdO w) : Calls Tryd.prog 20 #[] w fun e w' => e = .returned (.bool true) ∧ Below w.heap.size w w' := by
  have b1 := heap_alloc_new w (.cells #[.int .u8 1, .int .u8 2, .int .u16 3, .int .u8 4] 24)
  have gg := bnew0 w (.cells #[.int .u8 1, .int .u8 2, .int .u16 3, .int .u8 4] 24)
  go_enter Tryd.func20, Tryd.ntmps20
  go_upto_region 3 with (first
    | (with_reducible refine wpList_loadR rowI rfl _ rfl _ rfl b1 rfl ?_)
    | (go_at_call 7; (with_reducible refine (aw15_make _ (hw.below gg)).mono ?_); rintro e w1 ⟨rfl, g1⟩; replace b1 := bx_below b1 g1; replace gg := bstep gg g1; clear g1))
  go_upto_region 4 with (first
    | (go_at_call 9; (with_reducible refine (aw15_read0 _ (hw.below gg)).mono ?_); rintro e w2 ⟨rfl, g2⟩; replace b1 := bx_below b1 g2; replace gg := bstep gg g2; clear g2))
  have b2 := heap_alloc_new w2 (.cells #[.int .u8 0, .int .u8 0, .int .u16 0, .int .u8 0] 24)
  replace b1 := bx_alloc (.cells #[.int .u8 0, .int .u8 0, .int .u16 0, .int .u8 0] 24) b1
  replace gg := bnew gg (.cells #[.int .u8 0, .int .u8 0, .int .u16 0, .int .u8 0] 24)
  generalize w2.alloc (.cells #[.int .u8 0, .int .u8 0, .int .u16 0, .int .u8 0] 24) = W2 at *
  go_upto_region 5 with (first
    | (go_at_call 9; (with_reducible refine (aw15_read1 _ (hw.below gg)).mono ?_); rintro e w3 ⟨rfl, g3⟩; replace b1 := bx_below b1 g3; replace b2 := bx_below b2 g3; replace gg := bstep gg g3; clear g3))
  replace b1 := bx_alloc (.cells #[.int .u8 0, .int .u8 0, .int .u16 0, .int .u8 0] 24) b1
  replace b2 := bx_alloc (.cells #[.int .u8 0, .int .u8 0, .int .u16 0, .int .u8 0] 24) b2
  replace gg := bnew gg (.cells #[.int .u8 0, .int .u8 0, .int .u16 0, .int .u8 0] 24)
  generalize w3.alloc (.cells #[.int .u8 0, .int .u8 0, .int .u16 0, .int .u8 0] 24) = W3 at *
  have hl : RL bv (W3.alloc (.cells #[.int .u8 1, .int .u8 2] 5)) (some ⟨W3.heap.size, 0, none⟩) 2 2 [1, 2] := (ol_lit bv 5 W3.heap.size W3 [1, 2] #[.int .u8 1, .int .u8 2] 2 rfl rfl (by omega) (Nat.le_refl _)).rl
  go_upto_region 6 with (first
    | (with_reducible refine wpList_loadR rowI rfl _ rfl _ rfl b1 rfl ?_)
    | (go_at_call 11; (with_reducible refine (aw15_frame _ (hw.below (bnew gg _)) _ _ [1, 2] hl).mono ?_); rintro e w4 ⟨a4, c4, rfl, g4⟩; replace b2 := bx_below (bx_alloc _ b2) g4; replace gg := bstep (bnew gg _) g4; clear g4 b1 hl))
  have b3 := heap_alloc_new w4 (.cells #[.int .u32 35651636, .bool true, .bool false, .int .u8 2, .slice a4 2 c4] 28)
  replace b2 := bx_alloc (.cells #[.int .u32 35651636, .bool true, .bool false, .int .u8 2, .slice a4 2 c4] 28) b2
  replace gg := bnew gg (.cells #[.int .u32 35651636, .bool true, .bool false, .int .u8 2, .slice a4 2 c4] 28)
  generalize w4.alloc (.cells #[.int .u32 35651636, .bool true, .bool false, .int .u8 2, .slice a4 2 c4] 28) = W4 at *
  go_upto_region 7 with (first
    | (go_at_call 13; (with_reducible refine (aw15_of _ (hw.below gg)).mono ?_); rintro e w5 ⟨rfl, g5⟩; replace b2 := bx_below b2 g5; replace b3 := bx_below b3 g5; replace gg := bstep gg g5; clear g5))
  replace b2 := bx_alloc (.cells #[.int .u8 0, .int .u8 0, .int .u16 0, .int .u8 0] 24) b2
  replace b3 := bx_alloc (.cells #[.int .u8 0, .int .u8 0, .int .u16 0, .int .u8 0] 24) b3
  replace gg := bnew gg (.cells #[.int .u8 0, .int .u8 0, .int .u16 0, .int .u8 0] 24)
  generalize w5.alloc (.cells #[.int .u8 0, .int .u8 0, .int .u16 0, .int .u8 0] 24) = W5 at *
  obtain ⟨x0, x1, x2, x3⟩ := bx4 b2
  obtain ⟨y0, y1, y2, y3, y4⟩ := bx5 b3
  go_wp2
  go_ret
  exact ⟨rfl, gg⟩
end Go.Proofs.YtdkgdjdhmonccaaDoor

namespace Go.Proofs.YtdkgdjdhmonccaaDoor
open Go.RowKit
set_option linter.unusedVariables false

structure Ch (S : Nat → Prop) (w w' : World) : Prop where
  os : w'.os = w.os
  tape : w'.tape = w.tape
  output : w'.output = w.output
  size : w.heap.size ≤ w'.heap.size
  block : ∀ k, k < w.heap.size → ¬ S k → w'.heap[k]? = w.heap[k]?

section
variable {S S1 S2 : Nat → Prop} {w w0 w1 w2 : World}

theorem Ch.refl (S : Nat → Prop) (w : World) : Ch S w w := ⟨rfl, rfl, rfl, Nat.le_refl _, fun _ _ _ => rfl⟩
theorem Ch.trans (h : Ch S w w1) (k : Ch S1 w1 w2) (hs : ∀ b, S1 b → S b ∨ w.heap.size ≤ b) : Ch S w w2 :=
  ⟨k.os.trans h.os, k.tape.trans h.tape, k.output.trans h.output, Nat.le_trans h.size k.size, fun i hi hg =>
    (k.block i (Nat.lt_of_lt_of_le hi h.size) (fun e => by rcases hs i e with x | x; exact hg x; omega)).trans (h.block i hi hg)⟩
theorem Ch.of_below (k : Below w.heap.size w w1) : Ch S w w1 := ⟨k.os, k.tape, k.output, k.size, fun i hi _ => k.block i hi⟩
theorem Ch.call (h : Ch S w w1) (k : Below w1.heap.size w1 w2) : Ch S w w2 := h.trans (Ch.of_below (S := fun _ => False) k) (fun _ e => e.elim)
theorem Ch.alloc (h : Ch S w w1) (o : Obj) : Ch S w (w1.alloc o) := h.call (bnew0 w1 o)
theorem Ch.setCell (h : Ch S w w1) {p : Addr} (hp : S p.block ∨ w.heap.size ≤ p.block) (u : Value) : Ch S w (w1.setCell p u) :=
  ⟨h.os, h.tape, h.output, by simpa [World.setCell] using h.size, fun k hk hg => by
    rw [Below.heap_setCell _ _ _ _ (by rcases hp with e | e; exact fun x => hg (x ▸ e); omega)]
    exact h.block k hk hg⟩
theorem Ch.setRow (h : Ch S w w1) {p : Nat} (hp : S p ∨ w.heap.size ≤ p) (cs : Array Value) : Ch S w (w1.setRow p cs) :=
  ⟨h.os, h.tape, h.output, by simpa using h.size, fun k hk hg => by
    rw [setRow_other _ _ _ _ (by rcases hp with e | e; exact fun x => hg (x ▸ e); omega)]
    exact h.block k hk hg⟩
theorem Ch.drew (h : Ch S w w1) : Ch S w w1.drew := ⟨h.os, h.tape, h.output, h.size, h.block⟩
theorem Ch.mono (h : Ch S w w1) (hs : ∀ b, S b → S1 b) : Ch S1 w w1 := ⟨h.os, h.tape, h.output, h.size, fun k hk hg => h.block k hk (fun e => hg (hs k e))⟩
/-- All that it may change lies from block B on. -/
theorem Ch.below {B : Nat} (k : Ch S w w1) (h : Below B w0 w) (hB : B ≤ w0.heap.size) (hs : ∀ b, S b → B ≤ b) : Below B w0 w1 :=
  h.trans ⟨k.os, k.tape, k.output, k.size, fun i hi => k.block i (by have := h.size; omega) (fun e => by have := hs i e; omega)⟩

variable {α : Type} {f : α → Value} {enc : α → List Value} {q : Nat} {E : TypeId} {B n c : Nat} {a : Option Addr} {l : List α} {g : Nat} {o : Obj}
theorem Ch.bx (k : Ch S w w1) (h : w.heap[g]? = some o) (hn : ¬ S g) : w1.heap[g]? = some o := (k.block g (bx_lt h) hn).trans h
end
end Go.Proofs.YtdkgdjdhmonccaaDoor

namespace Go.Proofs.YtdkgdjdhmonccaaDoor
open Go.RowKit Go.ChangeShapes Go.WideShapes Go.ChangeAt

theorem own : ownKnob Tryd.prog.godebug = none := by kernel_rfl
theorem laidOut : laidOutB Tryd.prog = true := by kernel_rfl

section
variable {H : Type} {enc : TypeId × Value → H} {P : Program} {W W' : World}

/-- All arguments read behind the call as they did ahead of it, if nothing below the heap's old size has turned. -/
theorem trodAll_below (hl : laidOutB P = true) : ∀ (ts : List TypeId), (∀ t ∈ ts, P.readableRec t = true ∧ t < P.types.size) → ∀ (vs : List Value) (ds : List (DataW H)) (ps : List MemPlace),
    DataW.TrodAll enc P W 0 (fun _ => true) true ts vs ds ps → Below W.heap.size W W' → (∀ x ∈ ps, x.block < W.heap.size) → DataW.TrodAll enc P W' 0 (fun b => decide (b < W.heap.size)) true ts vs ds ps := by
  intro ts
  induction ts with
  | nil =>
    intro _ vs ds ps h _ _
    obtain ⟨rfl, rfl, rfl⟩ := trodAll_nil h
    exact trodAll_mk0
  | cons t ts ih =>
    intro hr vs ds ps h hb hlt
    obtain ⟨v, vs', d, ds', p, q, rfl, rfl, rfl, h0, h1⟩ := trodAll_cons h
    exact trodAll_cons_mk (Below.trod hl (hr t (by simp)).1 (hr t (by simp)).2 h0 hb (fun x hx => hlt x (by simp [hx]))) (ih (fun t' ht' => hr t' (by simp [ht'])) _ _ _ h1 hb (fun x hx => hlt x (by simp [hx])))

/-- What a law's row asks: it returned true, and nothing that was there has turned. -/
theorem law_post {f : Func} {s : ChangeSpec} {b : TypeId} {args : Array Value} {ds gs : List (DataW H)} {before : List MemPlace} (hl : laidOutB P = true) (hv : s.vars = []) (hres : f.resultTypes = #[b]) (hb : P.underlying b = some .bool)
    (hts : ∀ t ∈ f.params.toList, P.readableRec t = true ∧ t < P.types.size) (hW : DataW.Whole enc P f.params.toList s.vars false W args.toList ds gs before)
    (hfn : s.fn H (ds ++ gs) = { results := [.lit (.bool true)], args := ds }) (hbel : Below W.heap.size W W') : s.post enc P f false true false false W args (.bool true) W' := by
  have hW' := hW
  obtain ⟨p, q, hA, hV, rfl, _, _⟩ := hW
  rw [hv] at hV
  obtain ⟨rfl, rfl⟩ := trodVars_none hV
  have hlt : ∀ x ∈ p, x.block < W.heap.size := fun x hx => hW'.lt x (by simp [hx])
  refine ⟨ds, [], p ++ [], [], p, [], hW', ?_, ?_, ?_, hbel.frame _, fun h => by cases h⟩
  · rw [hfn, hres]
    exact trodAll_cons_mk (shut_bool hb true) trodAll_mk0
  · rw [hfn]
    exact trodAll_below hl _ hts _ _ _ hA hbel hlt
  · rw [hfn, hv]
    exact rfl

/-- A slice of bytes that came in. -/
theorem arg_bytes {T e : TypeId} {r : Reach} {b0 : Nat} {v : Value} {d : DataW H} {ps : List MemPlace} (ht : P.underlying T = some (.slice e)) (he : P.underlying e = some (.int .u8)) (hc : P.cellsOf e = 1)
    (hval : Value.okWide P W r b0 T v) (h : DataW.Trod enc P W 0 (fun _ => true) true T v d ps) : ∃ a n c l, v = .slice a n c ∧ RL bv W a n c l ∧ n ≤ 9223372036854775807 := by
  obtain ⟨a, n, c, rfl⟩ := okWide_slice ht hval
  obtain ⟨fuel, hf⟩ := h
  rcases open_ints ht he hc hf with ⟨hcs, _⟩ | ⟨ad, len, cap, zs, hcs, _, hl, hm, hz, _, hcell, hwz⟩
  · simp [Value.cells] at hcs
    obtain ⟨rfl, rfl, rfl⟩ := hcs
    exact ⟨none, 0, 0, [], rfl, RL.nil _ _ _ _, by omega⟩
  · simp [Value.cells] at hcs
    obtain ⟨rfl, rfl, rfl⟩ := hcs
    simp only [if_true] at hz
    refine ⟨some ad, n, c, (zs.take n).map (fun z => UInt8.ofNat z.toNat), rfl, ⟨by simp; omega, hl, fun hn => ?_⟩, by unfold maxLen at hm; omega⟩
    obtain ⟨b, off, spot⟩ := ad
    have hspot : spot = none := by simpa [Addr.add] using World.cell?_spot (hcell 0 (by omega))
    subst hspot
    refine ⟨b, off, rfl, ?_, fun i x hx => ?_⟩
    · have := World.block_lt_of_cell? W _ (hcell 0 (by omega))
      simpa [Addr.add] using this
    · have hi : i < n := by
        have := (List.getElem?_eq_some_iff.1 hx).1
        simp at this
        omega
      have hiz : i < zs.length := by omega
      have := hcell i (by omega)
      rw [Addr.add_lit] at this
      rw [this]
      simp [hi, hiz] at hx
      subst hx
      have hw := hwz (zs[i]) (List.getElem_mem hiz)
      simp only [Lit.wf, IntKind.min, IntKind.max, IntKind.signed, IntKind.bits] at hw
      simp at hw
      simp [bv, List.getD, hiz]
      omega

end
end Go.Proofs.YtdkgdjdhmonccaaDoor

namespace Go.Proofs.YtdkgdjdhmonccaaDoor
open Go.RowKit Go.ChangeShapes Go.WideShapes Go.ChangeAt Go.Deep
set_option linter.unusedVariables false

section
variable {H : Type} {enc : TypeId × Value → H} {P : Program} {W : World}

theorem cells5 {cs : Array Value} (h : cs.size = 5) : ∃ c0 c1 c2 c3 c4, cs = #[c0, c1, c2, c3, c4] := by
  obtain ⟨l⟩ := cs
  match l, h with
  | [c0, c1, c2, c3, c4], _ => exact ⟨c0, c1, c2, c3, c4, rfl⟩

theorem open_five {r : Reach} {b0 : Nat} {t : TypeId} {f0 f1 f2 f3 f4 : Field} {v : Value} {d : DataW H} {p : List MemPlace} (hs : P.underlying t = some (.struct #[f0, f1, f2, f3, f4])) (hone : oneCellFields P #[f0, f1, f2, f3, f4] = true) (hC : P.cellsOf t = 5)
    (hv : Value.okWide P W r b0 t v) (h : DataW.Trod enc P W 0 (fun _ => true) true t v d p) :
    ∃ (v0 v1 v2 v3 v4 : Value) (y0 y1 y2 y3 y4 : DataW H × List MemPlace) (n : Nat), v = .agg #[v0, v1, v2, v3, v4] ∧
      DataW.trod enc P W 0 (fun _ => true) true n f0.type [v0] = some y0 ∧ DataW.trod enc P W 0 (fun _ => true) true n f1.type [v1] = some y1 ∧ DataW.trod enc P W 0 (fun _ => true) true n f2.type [v2] = some y2 ∧
      DataW.trod enc P W 0 (fun _ => true) true n f3.type [v3] = some y3 ∧ DataW.trod enc P W 0 (fun _ => true) true n f4.type [v4] = some y4 := by
  obtain ⟨cs, rfl, hsz⟩ := okWide_struct hs hv
  obtain ⟨c0, c1, c2, c3, c4, rfl⟩ := cells5 (hsz.trans hC)
  obtain ⟨fuel, hf⟩ := h
  obtain ⟨xs, n, _, hx, hl, hlen, hff⟩ := DataW.trod_struct hs hf
  obtain ⟨o0, k0⟩ := hone_of hone 0 f0 rfl
  obtain ⟨o1, k1⟩ := hone_of hone 1 f1 rfl
  obtain ⟨o2, k2⟩ := hone_of hone 2 f2 rfl
  obtain ⟨o3, k3⟩ := hone_of hone 3 f3 rfl
  obtain ⟨o4, k4⟩ := hone_of hone 4 f4 rfl
  match xs, hlen with
  | [y0, y1, y2, y3, y4], _ =>
    exact ⟨c0, c1, c2, c3, c4, y0, y1, y2, y3, y4, n, rfl, by simpa [Value.cells, o0, k0] using hff 0 f0 rfl, by simpa [Value.cells, o1, k1] using hff 1 f1 rfl, by simpa [Value.cells, o2, k2] using hff 2 f2 rfl, by simpa [Value.cells, o3, k3] using hff 3 f3 rfl, by simpa [Value.cells, o4, k4] using hff 4 f4 rfl⟩
end
end Go.Proofs.YtdkgdjdhmonccaaDoor

namespace Go.Proofs.YtdkgdjdhmonccaaDoor
open Go.RowKit Go.ChangeShapes Go.WideShapes Go.ChangeAt Go.Deep
set_option linter.unusedVariables false

section
variable {H : Type} {enc : TypeId × Value → H} {P : Program} {W : World}

theorem cell_bytes {T e : TypeId} {v : Value} {n0 : Nat} {x : DataW H × List MemPlace} (ht : P.underlying T = some (.slice e)) (he : P.underlying e = some (.int .u8)) (hc : P.cellsOf e = 1)
    (hf : DataW.trod enc P W 0 (fun _ => true) true n0 T [v] = some x) : ∃ a n c l, v = .slice a n c ∧ RL bv W a n c l ∧ n ≤ 9223372036854775807 := by
  rcases open_ints ht he hc hf with ⟨hcs, _⟩ | ⟨ad, len, cap, zs, hcs, _, hl, hm, hz, _, hcell, hwz⟩
  · simp at hcs
    subst hcs
    exact ⟨none, 0, 0, [], rfl, RL.nil _ _ _ _, by omega⟩
  · simp at hcs
    subst hcs
    simp only [if_true] at hz
    refine ⟨some ad, len, cap, (zs.take len).map (fun z => UInt8.ofNat z.toNat), rfl, ⟨by simp; omega, hl, fun hn => ?_⟩, by unfold maxLen at hm; omega⟩
    obtain ⟨b, off, spot⟩ := ad
    have hspot : spot = none := by simpa [Addr.add] using World.cell?_spot (hcell 0 (by omega))
    subst hspot
    refine ⟨b, off, rfl, ?_, fun i x hx => ?_⟩
    · have := World.block_lt_of_cell? W _ (hcell 0 (by omega))
      simpa [Addr.add] using this
    · have hi : i < len := by
        have := (List.getElem?_eq_some_iff.1 hx).1
        simp at this
        omega
      have hiz : i < zs.length := by omega
      have := hcell i (by omega)
      rw [Addr.add_lit] at this
      rw [this]
      simp [hi, hiz] at hx
      subst hx
      have hw := hwz (zs[i]) (List.getElem_mem hiz)
      simp only [Lit.wf, IntKind.min, IntKind.max, IntKind.signed, IntKind.bits] at hw
      simp at hw
      simp [bv, List.getD, hiz]
      omega
end

set_option maxRecDepth 100000 in
theorem arg_frame {H : Type} {enc : TypeId × Value → H} {W : World} {r : Reach} {b0 : Nat} {v : Value} {d : DataW H} {p : List MemPlace} (hv : Value.okWide Tryd.prog W r b0 28 v) (h : DataW.Trod enc Tryd.prog W 0 (fun _ => true) true 28 v d p) :
    ∃ (id : Nat) (ext rem : Bool) (dlc : Nat) (a : Option Addr) (n c : Nat) (l : List UInt8), v = .agg #[.int .u32 (id : Int), .bool ext, .bool rem, .int .u8 (dlc : Int), .slice a n c] ∧ id < 4294967296 ∧ dlc < 256 ∧ RL bv W a n c l ∧ n ≤ 9223372036854775807 := by
  obtain ⟨v0, v1, v2, v3, v4, y0, y1, y2, y3, y4, n, rfl, h0, h1, h2, h3, h4⟩ := open_five Tryd.underlying28 (by kernel_rfl) (show Tryd.prog.cellsOf 28 = 5 by kernel_rfl) hv h
  obtain ⟨x0, k0, _, z0⟩ := DataW.trod_int (show Tryd.prog.underlying 25 = some (.int .u32) by kernel_rfl) h0
  obtain ⟨x1, k1, _⟩ := DataW.trod_bool (show Tryd.prog.underlying 4 = some .bool by kernel_rfl) h1
  obtain ⟨x2, k2, _⟩ := DataW.trod_bool (show Tryd.prog.underlying 4 = some .bool by kernel_rfl) h2
  obtain ⟨x3, k3, _, z3⟩ := DataW.trod_int (show Tryd.prog.underlying 5 = some (.int .u8) by kernel_rfl) h3
  obtain ⟨a, m, c, l, rfl, hr, hm⟩ := cell_bytes tY.und (show Tryd.prog.underlying 5 = some (.int .u8) by kernel_rfl) tY.size h4
  simp at k0 k1 k2 k3
  subst k0 k1 k2 k3
  have w0 : 0 ≤ x0 ∧ x0 ≤ 4294967295 := by simpa [Lit.wf, IntKind.min, IntKind.max, IntKind.signed, IntKind.bits] using z0
  have w3 : 0 ≤ x3 ∧ x3 ≤ 255 := by simpa [Lit.wf, IntKind.min, IntKind.max, IntKind.signed, IntKind.bits] using z3
  obtain ⟨y0', rfl⟩ := Int.eq_ofNat_of_zero_le w0.1
  obtain ⟨y3', rfl⟩ := Int.eq_ofNat_of_zero_le w3.1
  exact ⟨y0', x1, x2, y3', a, m, c, l, rfl, by omega, by omega, hr, hm⟩
end Go.Proofs.YtdkgdjdhmonccaaDoor

namespace Go.Proofs.YtdkgdjdhmonccaaDoor
open Go.RowKit Go.ChangeShapes Go.WideShapes Go.ChangeAt Go.Deep
set_option linter.unusedVariables false

/-- A list of frames, read. -/
structure FrR (w : World) (a : Option Addr) (n c : Nat) (fs : List Ff) : Prop where
  row : RK enF 5 w a n c fs
  dat : ∀ p ∈ fs, RL bv w p.2.1 p.1.data.length p.2.2 p.1.data
  id : ∀ p ∈ fs, p.1.id < 4294967296
  dl : ∀ p ∈ fs, p.1.dlc < 256
theorem FrR.below {w w1 : World} {a : Option Addr} {n c : Nat} {fs : List Ff} (h : FrR w a n c fs) (g : Below w.heap.size w w1) : FrR w1 a n c fs := ⟨h.row.below g, fun p hp => (h.dat p hp).below g, h.id, h.dl⟩

end Go.Proofs.YtdkgdjdhmonccaaDoor

namespace Go.Proofs.YtdkgdjdhmonccaaDoor
open Go.RowKit Go.Sort
set_option linter.unusedVariables false

/-- A frame that waits: the frame, where its data lie, its number. -/
abbrev Wt := Ff × Nat
/-- A mail. -/
structure Ml where
  room : Nat
  puts : Nat
  ws : List Wt
  wire : Nat
  ab : Bool

/-- A frame that waits, as it lies: its data are read; its numbers are in their bounds. -/
structure WtR (w : World) (p : Wt) : Prop where
  dat : RL bv w p.1.2.1 p.1.1.data.length p.1.2.2 p.1.1.data
  id : p.1.1.id < 4294967296
  dl : p.1.1.dlc < 256
  len : p.1.1.data.length ≤ 1000000
  num : p.2 < 4611686018427387904

section
variable {B : Nat} {w w1 : World} {g : Nat} {m : Ml} {a : Option Addr} {c : Nat} {S S1 : Nat → Prop}

theorem WtR.below {p : Wt} (h : WtR w p) (k : Below w.heap.size w w1) : WtR w1 p := ⟨h.dat.below k, h.id, h.dl, h.len, h.num⟩
end
end Go.Proofs.YtdkgdjdhmonccaaDoor

namespace Go.Proofs.YtdkgdjdhmonccaaDoor
open Go.RowKit
set_option linter.unusedVariables false

theorem or_plus {a b k : Nat} (hb : b < 2 ^ k) (ha : a % 2 ^ k = 0) : a ||| b = a + b := by
  have h := Nat.two_pow_add_eq_or_of_lt hb (a / 2 ^ k)
  have e : 2 ^ k * (a / 2 ^ k) = a := by have := Nat.div_add_mod a (2 ^ k); omega
  rw [e] at h
  exact h.symm

theorem kb1 (id : Nat) : (id : Int) * 2097152 % 4294967296 = ((keyF id false false : Nat) : Int) := by rw [key_base]; simp; omega
theorem kb2 (id : Nat) : bits .or .u32 ((id : Int) * 2097152 % 4294967296) 1048576 = ((keyF id false true : Nat) : Int) := by
  have h1 : (id : Int) * 2097152 % 4294967296 = ((id % 2048 * 2097152 : Nat) : Int) := by omega
  have h2 := (u32_bits (id % 2048 * 2097152) 1048576 (by omega) (by omega)).2
  have h3 : (1048576 : Int) = ((1048576 : Nat) : Int) := rfl
  rw [h1, h3, h2, or_plus (k := 21) (by omega) (by omega), key_base]; simp; omega
theorem ke0 (id : Nat) (hi : id < 4294967296) : bits .or .u32 (bits .or .u32 ((id : Int) / 262144 * 2097152 % 4294967296) 1572864) (bits .and .u32 (id : Int) 262143 * 2 % 4294967296) = ((id / 262144 % 2048 * 2097152 + 1572864 + id % 262144 * 2 : Nat) : Int) := by
  have h1 : (id : Int) / 262144 * 2097152 % 4294967296 = ((id / 262144 % 2048 * 2097152 : Nat) : Int) := by omega
  have h2 := (u32_bits (id / 262144 % 2048 * 2097152) 1572864 (by omega) (by omega)).2
  have h3 : (1572864 : Int) = ((1572864 : Nat) : Int) := rfl
  have h4 := (u32_bits id 262143 hi (by omega)).1
  have h5 : (262143 : Int) = ((262143 : Nat) : Int) := rfl
  have h6 : id &&& 262143 = id % 262144 := Nat.and_two_pow_sub_one_eq_mod id 18
  have h7 : ((id % 262144 : Nat) : Int) * 2 % 4294967296 = ((id % 262144 * 2 : Nat) : Int) := by omega
  rw [h1, h3, h2, h5, h4, h6, h7, or_plus (k := 21) (a := id / 262144 % 2048 * 2097152) (by omega) (by omega)]
  have h8 := (u32_bits (id / 262144 % 2048 * 2097152 + 1572864) (id % 262144 * 2) (by omega) (by omega)).2
  rw [h8, or_plus (k := 19) (by omega) (by omega)]
theorem ke1 (id : Nat) (hi : id < 4294967296) : bits .or .u32 (bits .or .u32 ((id : Int) / 262144 * 2097152 % 4294967296) 1572864) (bits .and .u32 (id : Int) 262143 * 2 % 4294967296) = ((keyF id true false : Nat) : Int) := by
  rw [ke0 id hi, key_ext]; simp; omega
theorem ke2 (id : Nat) (hi : id < 4294967296) : bits .or .u32 (bits .or .u32 (bits .or .u32 ((id : Int) / 262144 * 2097152 % 4294967296) 1572864) (bits .and .u32 (id : Int) 262143 * 2 % 4294967296)) 1 = ((keyF id true true : Nat) : Int) := by
  rw [ke0 id hi]
  have h8 := (u32_bits (id / 262144 % 2048 * 2097152 + 1572864 + id % 262144 * 2) 1 (by omega) (by omega)).2
  have h3 : (1 : Int) = ((1 : Nat) : Int) := rfl
  rw [h3, h8, or_plus (k := 1) (by omega) (by omega), key_ext]; simp; omega

set_option maxHeartbeats 1000000 in
theorem key_any (w : World) (id : Nat) (ext rem : Bool) (dlc : Nat) (a : Option Addr) (n c : Nat) (hi : id < 4294967296) :
    Calls Tryd.prog 22 #[.agg #[.int .u32 (id : Int), .bool ext, .bool rem, .int .u8 (dlc : Int), .slice a n c]] w fun e w' => e = .returned (.int .u32 (keyF id ext rem : Int)) ∧ Below w.heap.size w w' := by
  cases ext <;> cases rem
  all_goals
    go_enter Tryd.func22, Tryd.ntmps22
    go_wp2
    go_ret
    exact ⟨ret_int (by first | exact kb1 id | exact kb2 id | exact ke1 id hi | exact ke2 id hi), bnew0 w _⟩

theorem isNaN_u32 (a : Int) (w : World) : Calls Tryd.prog 33 #[.int .u32 a] w fun e w' => e = .returned (.bool false) ∧ w = w' := by
  go_enter Tryd.func33, Tryd.ntmps33
  go_wp2
  go_ret
  exact ⟨ret_bool (by simp), rfl⟩

/-- Comparing two numbers. -/
def cmpV (a b : Nat) : Int := if a < b then -1 else if b < a then 1 else 0
theorem cmp_u32 (a b : Nat) (w : World) : Calls Tryd.prog 31 #[.int .u32 (a : Int), .int .u32 (b : Int)] w fun e w' => e = .returned (.int .i64 (cmpV a b)) ∧ w = w' := by
  unfold cmpV
  by_cases h1 : a < b
  · rw [if_pos h1]
    have d1 : (a : Int) < b := by omega
    have d2 : decide (a < b) = true := decide_eq_true h1
    clear h1
    go_enter Tryd.func31, Tryd.ntmps31
    go_wp2_with (go_at_call 33; refine (isNaN_u32 _ _).mono ?_; rintro e w' ⟨rfl, rfl⟩)
    go_ret
    exact ⟨rfl, rfl⟩
  · rw [if_neg h1]
    by_cases h2 : b < a
    · rw [if_pos h2]
      have d1 : ¬ (a : Int) < b := by omega
      have d2 : decide (a < b) = false := decide_eq_false h1
      have d3 : (b : Int) < a := by omega
      have d4 : decide (b < a) = true := decide_eq_true h2
      clear h1 h2
      go_enter Tryd.func31, Tryd.ntmps31
      go_wp2_with (go_at_call 33; refine (isNaN_u32 _ _).mono ?_; rintro e w' ⟨rfl, rfl⟩)
      go_ret
      exact ⟨rfl, rfl⟩
    · rw [if_neg h2]
      have d1 : ¬ (a : Int) < b := by omega
      have d2 : decide (a < b) = false := decide_eq_false h1
      have d3 : ¬ (b : Int) < a := by omega
      have d4 : decide (b < a) = false := decide_eq_false h2
      clear h1 h2
      go_enter Tryd.func31, Tryd.ntmps31
      go_wp2_with (go_at_call 33; refine (isNaN_u32 _ _).mono ?_; rintro e w' ⟨rfl, rfl⟩)
      go_ret
      exact ⟨rfl, rfl⟩
end Go.Proofs.YtdkgdjdhmonccaaDoor

namespace Go.Proofs.YtdkgdjdhmonccaaDoor
open Go.RowKit Go.Sort
set_option linter.unusedVariables false
set_option linter.unusedSimpArgs false

section
variable {P : Program} {md : Region.Mode} {ops : Array Oper} {Q : Exit → Act → World → Prop} {S : World → Prop} {X : List Nat} {i j m : Nat} {oi oj : Oper} {l : Array Bool} {a : Act} {w : World}
/-- Two may come up now: both are walked. -/
theorem Rest.two (hr : Region.ready md ops l = [i, j]) (hi : ops[i]? = some oi) (hj : ops[j]? = some oj)
    (h1 : ∀ K' : Act → World → Prop, (∀ a w, (S w ∨ Thru X (l.setIfInBounds i true)) ∧ Rest P md ops Q S X m (l.setIfInBounds i true) a w → K' a w) → if Region.wanted oi (yielded ops a.tmps) = true then Oper.wp P oi a w K' Q else K' (a.put oi.dst undef) w)
    (h2 : ∀ K' : Act → World → Prop, (∀ a w, (S w ∨ Thru X (l.setIfInBounds j true)) ∧ Rest P md ops Q S X m (l.setIfInBounds j true) a w → K' a w) → if Region.wanted oj (yielded ops a.tmps) = true then Oper.wp P oj a w K' Q else K' (a.put oj.dst undef) w) :
    Rest P md ops Q S X (m + 1) l a w :=
  ⟨fun h0 => (by rw [hr] at h0; cases h0), fun k hk => by
    rw [hr] at hk
    simp only [List.mem_cons, List.not_mem_nil, or_false] at hk
    rcases hk with rfl | rfl
    · exact wpOp_step hi h1
    · exact wpOp_step hj h2⟩
end

end Go.Proofs.YtdkgdjdhmonccaaDoor

namespace Go.Proofs.YtdkgdjdhmonccaaDoor
open Go.RowKit Go.Sort
set_option linter.unusedVariables false
set_option linter.unusedSimpArgs false

/-- Two idents compared part by part. -/
def cmA (k f s r k2 f2 s2 r2 : Nat) : Int := if k ≠ k2 then cmpV k k2 else if f ≠ f2 then cmpV f f2 else if s ≠ s2 then cmpV s s2 else cmpV r r2
theorem cmpV_ne {a b : Nat} (h : a ≠ b) : cmpV a b ≠ 0 := by unfold cmpV; split; · decide
                                                             · split; · decide
                                                               · omega
theorem cmpV_lt {a b : Nat} : decide (cmpV a b < 0) = decide (a < b) := by
  unfold cmpV
  by_cases h : a < b
  · simp [h]
  · rw [if_neg h]; split <;> simp [h]
theorem cmA_lt (k f s r k2 f2 s2 r2 : Nat) : decide (cmA k f s r k2 f2 s2 r2 < 0) = lsI ⟨k, f, s, r⟩ ⟨k2, f2, s2, r2⟩ := by
  unfold cmA lsI
  dsimp only
  split; · exact cmpV_lt
  · split; · exact cmpV_lt
    · split <;> exact cmpV_lt

set_option maxHeartbeats 2000000 in
theorem compare4_any (w : World) (g h : Nat) (k f s r k2 f2 s2 r2 : Nat) (hg : w.heap[g]? = some (.cells #[.int .u32 (k : Int), .int .u32 (f : Int), .int .u32 (s : Int), .int .u32 (r : Int)] 47 (0, 0)))
    (hh : w.heap[h]? = some (.cells #[.int .u32 (k2 : Int), .int .u32 (f2 : Int), .int .u32 (s2 : Int), .int .u32 (r2 : Int)] 47 (0, 0))) :
    Calls Tryd.prog 27 #[.slice (some ⟨g, 0, none⟩) 4 4, .slice (some ⟨h, 0, none⟩) 4 4] w fun e w' => e = .returned (.int .i64 (cmA k f s r k2 f2 s2 r2)) ∧ w' = w := by
  obtain ⟨x0, x1, x2, x3⟩ := bx4 hg
  obtain ⟨y0, y1, y2, y3⟩ := bx4 hh
  clear hg hh
  go_enter Tryd.func27, Tryd.ntmps27
  go_wp2
  go_loopg [11] 4 (fun gn vi wr => ∃ j : Nat, j ≤ 4 ∧ gn = 4 - j ∧ vi = .int .i64 (j : Int) ∧ (0 < j → k = k2) ∧ (1 < j → f = f2) ∧ (2 < j → s = s2) ∧ (3 < j → r = r2) ∧ w = wr)
  case atStart => exact ⟨0, by omega, by omega, rfl, by omega, by omega, by omega, by omega, rfl⟩
  case round =>
    obtain ⟨j, hj, rfl, rfl, e0, e1, e2, e3, rfl⟩ := hrel
    by_cases h4 : j < 4
    · have hj4 : j = 0 ∨ j = 1 ∨ j = 2 ∨ j = 3 := by omega
      clear hj
      rcases hj4 with rfl | rfl | rfl | rfl
      · clear x1 x2 x3 y1 y2 y3 e0 e1 e2 e3 h4
        have cC := fun w' => cmp_u32 k k2 w'
        by_cases he : k = k2
        · subst he
          rw [show cmpV k k = 0 by simp [cmpV]] at cC
          go_wp2_with (go_at_call 31; (with_reducible refine (cC _).mono ?_); rintro e w' ⟨rfl, rfl⟩)
          go_roundg (4 - (0 + 1))
          case measure => omega
          case rel => exact ⟨1, by omega, by rfl, rfl, by simp, by simp, by simp, by simp, rfl⟩
        · have hv := cmpV_ne he
          have hR : cmA k f s r k2 f2 s2 r2 = cmpV k k2 := by simp [cmA, he]
          have HR := hid hR
          clear hR he
          generalize cmpV k k2 = v at *
          go_wp2_with (go_at_call 31; (with_reducible refine (cC _).mono ?_); rintro e w' ⟨rfl, rfl⟩)
          go_ret
          exact ⟨ret_int HR.out.symm, rfl⟩
      · obtain rfl := e0 (by omega)
        clear x0 x2 x3 y0 y2 y3 e1 e2 e3 h4
        have cC := fun w' => cmp_u32 f f2 w'
        by_cases he : f = f2
        · subst he
          rw [show cmpV f f = 0 by simp [cmpV]] at cC
          go_wp2_with (go_at_call 31; (with_reducible refine (cC _).mono ?_); rintro e w' ⟨rfl, rfl⟩)
          go_roundg (4 - (1 + 1))
          case measure => omega
          case rel => exact ⟨2, by omega, by rfl, rfl, by simp, by simp, by simp, by simp, rfl⟩
        · have hv := cmpV_ne he
          have hR : cmA k f s r k f2 s2 r2 = cmpV f f2 := by simp [cmA, he]
          have HR := hid hR
          clear hR he
          generalize cmpV f f2 = v at *
          go_wp2_with (go_at_call 31; (with_reducible refine (cC _).mono ?_); rintro e w' ⟨rfl, rfl⟩)
          go_ret
          exact ⟨ret_int HR.out.symm, rfl⟩
      · obtain rfl := e0 (by omega)
        obtain rfl := e1 (by omega)
        clear x0 x1 x3 y0 y1 y3 e2 e3 h4
        have cC := fun w' => cmp_u32 s s2 w'
        by_cases he : s = s2
        · subst he
          rw [show cmpV s s = 0 by simp [cmpV]] at cC
          go_wp2_with (go_at_call 31; (with_reducible refine (cC _).mono ?_); rintro e w' ⟨rfl, rfl⟩)
          go_roundg (4 - (2 + 1))
          case measure => omega
          case rel => exact ⟨3, by omega, by rfl, rfl, by simp, by simp, by simp, by simp, rfl⟩
        · have hv := cmpV_ne he
          have hR : cmA k f s r k f s2 r2 = cmpV s s2 := by simp [cmA, he]
          have HR := hid hR
          clear hR he
          generalize cmpV s s2 = v at *
          go_wp2_with (go_at_call 31; (with_reducible refine (cC _).mono ?_); rintro e w' ⟨rfl, rfl⟩)
          go_ret
          exact ⟨ret_int HR.out.symm, rfl⟩
      · obtain rfl := e0 (by omega)
        obtain rfl := e1 (by omega)
        obtain rfl := e2 (by omega)
        clear x0 x1 x2 y0 y1 y2 e3 h4
        have cC := fun w' => cmp_u32 r r2 w'
        by_cases he : r = r2
        · subst he
          rw [show cmpV r r = 0 by simp [cmpV]] at cC
          go_wp2_with (go_at_call 31; (with_reducible refine (cC _).mono ?_); rintro e w' ⟨rfl, rfl⟩)
          go_roundg (4 - (3 + 1))
          case measure => omega
          case rel => exact ⟨4, by omega, by rfl, rfl, by simp, by simp, by simp, by simp, rfl⟩
        · have hv := cmpV_ne he
          have hR : cmA k f s r k f s r2 = cmpV r r2 := by simp [cmA, he]
          have HR := hid hR
          clear hR he
          generalize cmpV r r2 = v at *
          go_wp2_with (go_at_call 31; (with_reducible refine (cC _).mono ?_); rintro e w' ⟨rfl, rfl⟩)
          go_ret
          exact ⟨ret_int HR.out.symm, rfl⟩
    · obtain rfl : j = 4 := by omega
      obtain rfl := e0 (by omega)
      obtain rfl := e1 (by omega)
      obtain rfl := e2 (by omega)
      obtain rfl := e3 (by omega)
      clear x0 x1 x2 x3 y0 y1 y2 y3
      go_wp2
      go_ret
      exact ⟨ret_int (by simp [cmA, cmpV]), rfl⟩

theorem boxed2I (w : World) (u v : Array Value) : ∃ w0, Hid ((w.alloc (.cells u 24)).alloc (.cells v 24) = w0) ∧ w0.heap[w.heap.size]? = some (.cells u 24 (0, 0)) ∧ w0.heap[w.heap.size + 1]? = some (.cells v 24 (0, 0)) ∧ Below w.heap.size w w0 ∧ w0.heap.size = w.heap.size + 2 :=
  ⟨_, rfl, bx_alloc _ (heap_alloc_new w _), new2 w _ _, bnew (bnew0 w _) _, by simp⟩

section
variable {md : Region.Mode} {ops : Array Oper} {Q : Exit → Act → World → Prop} {S : World → Prop} {X : List Nat} {m : Nat} {l : Array Bool} {a : Act} {w : World}

/-- Three may come up now. -/
theorem Rest.three {P : Program} {i j k : Nat} {oi oj ok : Oper} (hr : Region.ready md ops l = [i, j, k]) (hi : ops[i]? = some oi) (hj : ops[j]? = some oj) (hk : ops[k]? = some ok)
    (h1 : ∀ K' : Act → World → Prop, (∀ a w, (S w ∨ Thru X (l.setIfInBounds i true)) ∧ Rest P md ops Q S X m (l.setIfInBounds i true) a w → K' a w) → if Region.wanted oi (yielded ops a.tmps) = true then Oper.wp P oi a w K' Q else K' (a.put oi.dst undef) w)
    (h2 : ∀ K' : Act → World → Prop, (∀ a w, (S w ∨ Thru X (l.setIfInBounds j true)) ∧ Rest P md ops Q S X m (l.setIfInBounds j true) a w → K' a w) → if Region.wanted oj (yielded ops a.tmps) = true then Oper.wp P oj a w K' Q else K' (a.put oj.dst undef) w)
    (h3 : ∀ K' : Act → World → Prop, (∀ a w, (S w ∨ Thru X (l.setIfInBounds k true)) ∧ Rest P md ops Q S X m (l.setIfInBounds k true) a w → K' a w) → if Region.wanted ok (yielded ops a.tmps) = true then Oper.wp P ok a w K' Q else K' (a.put ok.dst undef) w) :
    Rest P md ops Q S X (m + 1) l a w :=
  ⟨fun h0 => (by rw [hr] at h0; cases h0), fun x hx => by
    rw [hr] at hx
    simp only [List.mem_cons, List.not_mem_nil, or_false] at hx
    rcases hx with rfl | rfl | rfl
    · exact wpOp_step hi h1
    · exact wpOp_step hj h2
    · exact wpOp_step hk h3⟩

/-- Four numbers laid in new memory, in a region that draws its order. -/
theorem draw_alloc4 {o : Oper} {K : Act → World → Prop} (hgd : o.guard = none) (ho : o.op = .alloc 47)
    (h : ∀ w' g, w'.heap[g]? = some (.cells #[.int .u32 0, .int .u32 0, .int .u32 0, .int .u32 0] 47 (0, 0)) → Below w.heap.size w w' → w.heap.size ≤ g → g < w'.heap.size → K (a.put o.dst (.pointer (some ⟨g, 0, none⟩))) w') :
    if Region.wanted o (yielded ops a.tmps) = true then Oper.wp Tryd.prog o a w K Q else K (a.put o.dst undef) w := by
  rw [if_pos (by simp [Region.wanted, hgd])]
  unfold Oper.wp
  have e : (execOp a.eval o).run Tryd.prog w = .ok (.value (.pointer (some ⟨w.heap.size, 0, none⟩))) (w.alloc (.cells #[.int .u32 0, .int .u32 0, .int .u32 0, .int .u32 0] 47)) := by
    obtain ⟨d, op, t, p, af, gd⟩ := o
    dsimp only at ho
    subst ho
    kernel_rfl
  rw [e]
  exact h _ _ (heap_alloc_new _ _) (bnew0 w _) (Nat.le_refl _) (by simp)
end

end Go.Proofs.YtdkgdjdhmonccaaDoor

namespace Go.Proofs.YtdkgdjdhmonccaaDoor
open Go.RowKit Go.Sort
set_option linter.unusedVariables false
set_option linter.unusedSimpArgs false

set_option maxHeartbeats 4000000 in
theorem idLess_any (w : World) (k f s r k2 f2 s2 r2 : Nat) (hk : k < 256) (hf : f < 256) (hs : s < 65536) (hr : r < 256) (hk2 : k2 < 256) (hf2 : f2 < 256) (hs2 : s2 < 65536) (hr2 : r2 < 256) :
    Calls Tryd.prog 18 #[.agg #[.int .u8 (k : Int), .int .u8 (f : Int), .int .u16 (s : Int), .int .u8 (r : Int)], .agg #[.int .u8 (k2 : Int), .int .u8 (f2 : Int), .int .u16 (s2 : Int), .int .u8 (r2 : Int)]] w fun e w' => e = .returned (.bool (lsI ⟨k, f, s, r⟩ ⟨k2, f2, s2, r2⟩)) ∧ Below w.heap.size w w' := by
  obtain ⟨w0, hw0, hbx, hby, gg0, hsz⟩ := boxed2I w #[.int .u8 (k : Int), .int .u8 (f : Int), .int .u16 (s : Int), .int .u8 (r : Int)] #[.int .u8 (k2 : Int), .int .u8 (f2 : Int), .int .u16 (s2 : Int), .int .u8 (r2 : Int)]
  have cA := hid (fun w' => apart15_any w' k f s r hk hf hs hr)
  have cB := hid (fun w' => apart15_any w' k2 f2 s2 r2 hk2 hf2 hs2 hr2)
  obtain ⟨x0, x1, x2, x3⟩ := bx4 hbx
  obtain ⟨y0, y1, y2, y3⟩ := bx4 hby
  go_enter Tryd.func18, Tryd.ntmps18
  go_upto_region 1 with fail
  rw [hw0.out]
  go_cut [5, 6] (fun s5 s6 wx => ∃ g1 g2 : Nat, s5 = .pointer (some ⟨g1, 0, none⟩) ∧ s6 = .pointer (some ⟨g2, 0, none⟩) ∧ wx.heap[g1]? = some (.cells #[.int .u32 (k : Int), .int .u32 (f : Int), .int .u32 (s : Int), .int .u32 (r : Int)] 47 (0, 0)) ∧ wx.heap[g2]? = some (.cells #[.int .u32 (k2 : Int), .int .u32 (f2 : Int), .int .u32 (s2 : Int), .int .u32 (r2 : Int)] 47 (0, 0)) ∧ Below w0.heap.size w0 wx)
  case first =>
    have HSof : ∀ w', RowKit.Below w0.heap.size w0 w' → (w'.heap[w.heap.size]? = some (.cells #[.int .u8 (k : Int), .int .u8 (f : Int), .int .u16 (s : Int), .int .u8 (r : Int)] 24 (0, 0)) ∧ w'.heap[w.heap.size + 1]? = some (.cells #[.int .u8 (k2 : Int), .int .u8 (f2 : Int), .int .u16 (s2 : Int), .int .u8 (r2 : Int)] 24 (0, 0))) := fun w' h => ⟨bx_below hbx h, bx_below hby h⟩
    have gg : RowKit.Below w0.heap.size w0 w0.drew := (RowKit.Below.refl _ _).drew
    have HS := HSof _ gg
    clear hbx hby gg0 hsz hw0 x0 x1 x2 x3 y0 y1 y2 y3
    refine Rest.begin (S := fun w' => w'.heap[w.heap.size]? = some (.cells #[.int .u8 (k : Int), .int .u8 (f : Int), .int .u16 (s : Int), .int .u8 (r : Int)] 24 (0, 0)) ∧ w'.heap[w.heap.size + 1]? = some (.cells #[.int .u8 (k2 : Int), .int .u8 (f2 : Int), .int .u16 (s2 : Int), .int .u8 (r2 : Int)] 24 (0, 0))) (X := [1, 3]) (by kernel_rfl) ?_
    change Rest _ _ _ _ _ _ _ _ _ w0.drew
    refine Rest.takeS (i := 0) (v := .agg #[.int .u8 (k : Int), .int .u8 (f : Int), .int .u16 (s : Int), .int .u8 (r : Int)]) rfl (by kernel_rfl) (by kernel_rfl) (by kernel_rfl) (by kernel_rfl) (fun _ _ _ h => h) HS (yields_loadR rowI (by simp [Region.wanted]) _ rfl w.heap.size (by simp [Act.eval]) _ rfl (fun w' hw => ⟨_, _, hw.1⟩)) ?_
    refine Rest.takeS (i := 2) (v := .agg #[.int .u8 (k2 : Int), .int .u8 (f2 : Int), .int .u16 (s2 : Int), .int .u8 (r2 : Int)]) rfl (by kernel_rfl) (by kernel_rfl) (by kernel_rfl) (by kernel_rfl) (fun _ _ _ h => h) HS (yields_loadR rowI (by simp [Region.wanted]) _ rfl (w.heap.size + 1) (by simp [Act.eval, Act.put]) _ rfl (fun w' hw => ⟨_, _, hw.2⟩)) ?_
    have lw : w0.heap.size ≤ w0.drew.heap.size := Nat.le_refl _
    refine Rest.three (i := 1) (j := 4) (k := 5) (by kernel_rfl) rfl rfl rfl (fun K hK => ?_) (fun K hK => ?_) (fun K hK => ?_)
    · refine draw_callF 24 (by kernel_rfl) (by simp [Region.wanted]) _ _ _ rfl (by simp [Act.eval]) #[.agg #[.int .u8 (k : Int), .int .u8 (f : Int), .int .u16 (s : Int), .int .u8 (r : Int)]] (by simp [Act.eval, Act.put]) _ (cA.out _) ?_
      rintro q wz ⟨rfl, kz⟩
      refine ⟨_, rfl, ?_⟩
      replace gg := bstep gg kz
      replace lw := Nat.le_trans lw kz.size
      clear kz
      refine hK _ _ ⟨.inl (HSof _ gg), ?_⟩; clear hK K
      refine Rest.three (i := 3) (j := 4) (k := 5) (by kernel_rfl) rfl rfl rfl (fun K hK => ?_) (fun K hK => ?_) (fun K hK => ?_)
      · refine draw_callF 24 (by kernel_rfl) (by simp [Region.wanted]) _ _ _ rfl (by simp [Act.eval]) #[.agg #[.int .u8 (k2 : Int), .int .u8 (f2 : Int), .int .u16 (s2 : Int), .int .u8 (r2 : Int)]] (by simp [Act.eval, Act.put]) _ (cB.out _) ?_
        rintro q wz ⟨rfl, kz⟩
        refine ⟨_, rfl, ?_⟩
        replace gg := bstep gg kz
        replace lw := Nat.le_trans lw kz.size
        clear kz
        refine hK _ _ ⟨.inl (HSof _ gg), ?_⟩; clear hK K
        refine Rest.two (i := 4) (j := 5) (by kernel_rfl) rfl rfl (fun K hK => ?_) (fun K hK => ?_)
        · refine draw_alloc4 rfl rfl ?_
          intro wz g4 h4 kz l4 m4
          replace gg := bstep gg kz
          replace l4 : w0.heap.size ≤ g4 := Nat.le_trans lw l4
          replace lw := Nat.le_trans lw kz.size
          clear kz
          refine hK _ _ ⟨.inl (HSof _ gg), ?_⟩; clear hK K
          refine Rest.one (i := 5) (by kernel_rfl) rfl (fun K hK => ?_)
          refine draw_alloc4 rfl rfl ?_
          intro wz g5 h5 kz l5 m5
          have hne : g4 ≠ g5 := Nat.ne_of_lt (Nat.lt_of_lt_of_le m4 l5)
          replace h4 := bx_below h4 kz; replace m4 := Nat.lt_of_lt_of_le m4 kz.size
          replace gg := bstep gg kz
          replace l5 : w0.heap.size ≤ g5 := Nat.le_trans lw l5
          replace lw := Nat.le_trans lw kz.size
          clear kz
          refine hK _ _ ⟨.inl (HSof _ gg), ?_⟩; clear hK K
          refine Rest.one (i := 6) (by kernel_rfl) rfl (fun K hK => ?_)
          (with_reducible refine draw_storeR rowI4 ?z5gd ?z5x ?z5y ?z5o g4 #[.int .u32 (k : Int), .int .u32 (f : Int), .int .u32 (s : Int), .int .u32 (r : Int)] ?z5hx ?z5hy h4 ?z5n ?z5old ?z5one ?z5h)
          case z5o => exact rfl
          case z5gd => exact rfl
          case z5hx => simp [Act.eval, Act.put]
          case z5hy => simp [Act.eval, Act.put]
          case z5n => rfl
          case z5old => rfl
          case z5one => kernel_rfl
          case z5h =>
          replace h5 := (setRow_other _ _ _ #[.int .u32 (k : Int), .int .u32 (f : Int), .int .u32 (s : Int), .int .u32 (r : Int)] (Ne.symm hne)).trans h5
          replace h4 := setRow_heap _ _ _ #[.int .u32 (k : Int), .int .u32 (f : Int), .int .u32 (s : Int), .int .u32 (r : Int)] _ _ h4
          replace gg := below_setRow gg l4 #[.int .u32 (k : Int), .int .u32 (f : Int), .int .u32 (s : Int), .int .u32 (r : Int)]
          refine hK _ _ ⟨.inl (HSof _ gg), ?_⟩; clear hK K
          refine Rest.one (i := 7) (by kernel_rfl) rfl (fun K hK => ?_)
          (with_reducible refine draw_storeR rowI4 ?z6gd ?z6x ?z6y ?z6o g5 #[.int .u32 (k2 : Int), .int .u32 (f2 : Int), .int .u32 (s2 : Int), .int .u32 (r2 : Int)] ?z6hx ?z6hy h5 ?z6n ?z6old ?z6one ?z6h)
          case z6o => exact rfl
          case z6gd => exact rfl
          case z6hx => simp [Act.eval, Act.put]
          case z6hy => simp [Act.eval, Act.put]
          case z6n => rfl
          case z6old => rfl
          case z6one => kernel_rfl
          case z6h =>
          replace h4 := (setRow_other _ _ _ #[.int .u32 (k2 : Int), .int .u32 (f2 : Int), .int .u32 (s2 : Int), .int .u32 (r2 : Int)] hne).trans h4
          replace h5 := setRow_heap _ _ _ #[.int .u32 (k2 : Int), .int .u32 (f2 : Int), .int .u32 (s2 : Int), .int .u32 (r2 : Int)] _ _ h5
          replace gg := below_setRow gg l5 #[.int .u32 (k2 : Int), .int .u32 (f2 : Int), .int .u32 (s2 : Int), .int .u32 (r2 : Int)]
          refine hK _ _ ⟨.inr (thru_of (by kernel_rfl)), Rest.of_any _ _ _ _ (thru_of (by kernel_rfl)) ?_⟩; clear hK K
          refine wpAny_done (by kernel_rfl) ?_ _
          simp [Act.put]
          go_wp2
          go_meet
          exact ⟨g4, g5, rfl, rfl, h4, h5, gg⟩
        · refine draw_alloc4 rfl rfl ?_
          intro wz g5 h5 kz l5 m5
          replace gg := bstep gg kz
          replace l5 : w0.heap.size ≤ g5 := Nat.le_trans lw l5
          replace lw := Nat.le_trans lw kz.size
          clear kz
          refine hK _ _ ⟨.inl (HSof _ gg), ?_⟩; clear hK K
          refine Rest.one (i := 4) (by kernel_rfl) rfl (fun K hK => ?_)
          refine draw_alloc4 rfl rfl ?_
          intro wz g4 h4 kz l4 m4
          have hne : g4 ≠ g5 := Nat.ne_of_gt (Nat.lt_of_lt_of_le m5 l4)
          replace h5 := bx_below h5 kz; replace m5 := Nat.lt_of_lt_of_le m5 kz.size
          replace gg := bstep gg kz
          replace l4 : w0.heap.size ≤ g4 := Nat.le_trans lw l4
          replace lw := Nat.le_trans lw kz.size
          clear kz
          refine hK _ _ ⟨.inl (HSof _ gg), ?_⟩; clear hK K
          refine Rest.one (i := 6) (by kernel_rfl) rfl (fun K hK => ?_)
          (with_reducible refine draw_storeR rowI4 ?z9gd ?z9x ?z9y ?z9o g4 #[.int .u32 (k : Int), .int .u32 (f : Int), .int .u32 (s : Int), .int .u32 (r : Int)] ?z9hx ?z9hy h4 ?z9n ?z9old ?z9one ?z9h)
          case z9o => exact rfl
          case z9gd => exact rfl
          case z9hx => simp [Act.eval, Act.put]
          case z9hy => simp [Act.eval, Act.put]
          case z9n => rfl
          case z9old => rfl
          case z9one => kernel_rfl
          case z9h =>
          replace h5 := (setRow_other _ _ _ #[.int .u32 (k : Int), .int .u32 (f : Int), .int .u32 (s : Int), .int .u32 (r : Int)] (Ne.symm hne)).trans h5
          replace h4 := setRow_heap _ _ _ #[.int .u32 (k : Int), .int .u32 (f : Int), .int .u32 (s : Int), .int .u32 (r : Int)] _ _ h4
          replace gg := below_setRow gg l4 #[.int .u32 (k : Int), .int .u32 (f : Int), .int .u32 (s : Int), .int .u32 (r : Int)]
          refine hK _ _ ⟨.inl (HSof _ gg), ?_⟩; clear hK K
          refine Rest.one (i := 7) (by kernel_rfl) rfl (fun K hK => ?_)
          (with_reducible refine draw_storeR rowI4 ?z10gd ?z10x ?z10y ?z10o g5 #[.int .u32 (k2 : Int), .int .u32 (f2 : Int), .int .u32 (s2 : Int), .int .u32 (r2 : Int)] ?z10hx ?z10hy h5 ?z10n ?z10old ?z10one ?z10h)
          case z10o => exact rfl
          case z10gd => exact rfl
          case z10hx => simp [Act.eval, Act.put]
          case z10hy => simp [Act.eval, Act.put]
          case z10n => rfl
          case z10old => rfl
          case z10one => kernel_rfl
          case z10h =>
          replace h4 := (setRow_other _ _ _ #[.int .u32 (k2 : Int), .int .u32 (f2 : Int), .int .u32 (s2 : Int), .int .u32 (r2 : Int)] hne).trans h4
          replace h5 := setRow_heap _ _ _ #[.int .u32 (k2 : Int), .int .u32 (f2 : Int), .int .u32 (s2 : Int), .int .u32 (r2 : Int)] _ _ h5
          replace gg := below_setRow gg l5 #[.int .u32 (k2 : Int), .int .u32 (f2 : Int), .int .u32 (s2 : Int), .int .u32 (r2 : Int)]
          refine hK _ _ ⟨.inr (thru_of (by kernel_rfl)), Rest.of_any _ _ _ _ (thru_of (by kernel_rfl)) ?_⟩; clear hK K
          refine wpAny_done (by kernel_rfl) ?_ _
          simp [Act.put]
          go_wp2
          go_meet
          exact ⟨g4, g5, rfl, rfl, h4, h5, gg⟩
      · refine draw_alloc4 rfl rfl ?_
        intro wz g4 h4 kz l4 m4
        replace gg := bstep gg kz
        replace l4 : w0.heap.size ≤ g4 := Nat.le_trans lw l4
        replace lw := Nat.le_trans lw kz.size
        clear kz
        refine hK _ _ ⟨.inl (HSof _ gg), ?_⟩; clear hK K
        refine Rest.two (i := 3) (j := 5) (by kernel_rfl) rfl rfl (fun K hK => ?_) (fun K hK => ?_)
        · refine draw_callF 24 (by kernel_rfl) (by simp [Region.wanted]) _ _ _ rfl (by simp [Act.eval]) #[.agg #[.int .u8 (k2 : Int), .int .u8 (f2 : Int), .int .u16 (s2 : Int), .int .u8 (r2 : Int)]] (by simp [Act.eval, Act.put]) _ (cB.out _) ?_
          rintro q wz ⟨rfl, kz⟩
          refine ⟨_, rfl, ?_⟩
          replace h4 := bx_below h4 kz; replace m4 := Nat.lt_of_lt_of_le m4 kz.size
          replace gg := bstep gg kz
          replace lw := Nat.le_trans lw kz.size
          clear kz
          refine hK _ _ ⟨.inl (HSof _ gg), ?_⟩; clear hK K
          refine Rest.one (i := 5) (by kernel_rfl) rfl (fun K hK => ?_)
          refine draw_alloc4 rfl rfl ?_
          intro wz g5 h5 kz l5 m5
          have hne : g4 ≠ g5 := Nat.ne_of_lt (Nat.lt_of_lt_of_le m4 l5)
          replace h4 := bx_below h4 kz; replace m4 := Nat.lt_of_lt_of_le m4 kz.size
          replace gg := bstep gg kz
          replace l5 : w0.heap.size ≤ g5 := Nat.le_trans lw l5
          replace lw := Nat.le_trans lw kz.size
          clear kz
          refine hK _ _ ⟨.inl (HSof _ gg), ?_⟩; clear hK K
          refine Rest.one (i := 6) (by kernel_rfl) rfl (fun K hK => ?_)
          (with_reducible refine draw_storeR rowI4 ?z14gd ?z14x ?z14y ?z14o g4 #[.int .u32 (k : Int), .int .u32 (f : Int), .int .u32 (s : Int), .int .u32 (r : Int)] ?z14hx ?z14hy h4 ?z14n ?z14old ?z14one ?z14h)
          case z14o => exact rfl
          case z14gd => exact rfl
          case z14hx => simp [Act.eval, Act.put]
          case z14hy => simp [Act.eval, Act.put]
          case z14n => rfl
          case z14old => rfl
          case z14one => kernel_rfl
          case z14h =>
          replace h5 := (setRow_other _ _ _ #[.int .u32 (k : Int), .int .u32 (f : Int), .int .u32 (s : Int), .int .u32 (r : Int)] (Ne.symm hne)).trans h5
          replace h4 := setRow_heap _ _ _ #[.int .u32 (k : Int), .int .u32 (f : Int), .int .u32 (s : Int), .int .u32 (r : Int)] _ _ h4
          replace gg := below_setRow gg l4 #[.int .u32 (k : Int), .int .u32 (f : Int), .int .u32 (s : Int), .int .u32 (r : Int)]
          refine hK _ _ ⟨.inl (HSof _ gg), ?_⟩; clear hK K
          refine Rest.one (i := 7) (by kernel_rfl) rfl (fun K hK => ?_)
          (with_reducible refine draw_storeR rowI4 ?z15gd ?z15x ?z15y ?z15o g5 #[.int .u32 (k2 : Int), .int .u32 (f2 : Int), .int .u32 (s2 : Int), .int .u32 (r2 : Int)] ?z15hx ?z15hy h5 ?z15n ?z15old ?z15one ?z15h)
          case z15o => exact rfl
          case z15gd => exact rfl
          case z15hx => simp [Act.eval, Act.put]
          case z15hy => simp [Act.eval, Act.put]
          case z15n => rfl
          case z15old => rfl
          case z15one => kernel_rfl
          case z15h =>
          replace h4 := (setRow_other _ _ _ #[.int .u32 (k2 : Int), .int .u32 (f2 : Int), .int .u32 (s2 : Int), .int .u32 (r2 : Int)] hne).trans h4
          replace h5 := setRow_heap _ _ _ #[.int .u32 (k2 : Int), .int .u32 (f2 : Int), .int .u32 (s2 : Int), .int .u32 (r2 : Int)] _ _ h5
          replace gg := below_setRow gg l5 #[.int .u32 (k2 : Int), .int .u32 (f2 : Int), .int .u32 (s2 : Int), .int .u32 (r2 : Int)]
          refine hK _ _ ⟨.inr (thru_of (by kernel_rfl)), Rest.of_any _ _ _ _ (thru_of (by kernel_rfl)) ?_⟩; clear hK K
          refine wpAny_done (by kernel_rfl) ?_ _
          simp [Act.put]
          go_wp2
          go_meet
          exact ⟨g4, g5, rfl, rfl, h4, h5, gg⟩
        · refine draw_alloc4 rfl rfl ?_
          intro wz g5 h5 kz l5 m5
          have hne : g4 ≠ g5 := Nat.ne_of_lt (Nat.lt_of_lt_of_le m4 l5)
          replace h4 := bx_below h4 kz; replace m4 := Nat.lt_of_lt_of_le m4 kz.size
          replace gg := bstep gg kz
          replace l5 : w0.heap.size ≤ g5 := Nat.le_trans lw l5
          replace lw := Nat.le_trans lw kz.size
          clear kz
          refine hK _ _ ⟨.inl (HSof _ gg), ?_⟩; clear hK K
          refine Rest.one (i := 3) (by kernel_rfl) rfl (fun K hK => ?_)
          refine draw_callF 24 (by kernel_rfl) (by simp [Region.wanted]) _ _ _ rfl (by simp [Act.eval]) #[.agg #[.int .u8 (k2 : Int), .int .u8 (f2 : Int), .int .u16 (s2 : Int), .int .u8 (r2 : Int)]] (by simp [Act.eval, Act.put]) _ (cB.out _) ?_
          rintro q wz ⟨rfl, kz⟩
          refine ⟨_, rfl, ?_⟩
          replace h4 := bx_below h4 kz; replace m4 := Nat.lt_of_lt_of_le m4 kz.size
          replace h5 := bx_below h5 kz; replace m5 := Nat.lt_of_lt_of_le m5 kz.size
          replace gg := bstep gg kz
          replace lw := Nat.le_trans lw kz.size
          clear kz
          refine hK _ _ ⟨.inl (HSof _ gg), ?_⟩; clear hK K
          refine Rest.one (i := 6) (by kernel_rfl) rfl (fun K hK => ?_)
          (with_reducible refine draw_storeR rowI4 ?z18gd ?z18x ?z18y ?z18o g4 #[.int .u32 (k : Int), .int .u32 (f : Int), .int .u32 (s : Int), .int .u32 (r : Int)] ?z18hx ?z18hy h4 ?z18n ?z18old ?z18one ?z18h)
          case z18o => exact rfl
          case z18gd => exact rfl
          case z18hx => simp [Act.eval, Act.put]
          case z18hy => simp [Act.eval, Act.put]
          case z18n => rfl
          case z18old => rfl
          case z18one => kernel_rfl
          case z18h =>
          replace h5 := (setRow_other _ _ _ #[.int .u32 (k : Int), .int .u32 (f : Int), .int .u32 (s : Int), .int .u32 (r : Int)] (Ne.symm hne)).trans h5
          replace h4 := setRow_heap _ _ _ #[.int .u32 (k : Int), .int .u32 (f : Int), .int .u32 (s : Int), .int .u32 (r : Int)] _ _ h4
          replace gg := below_setRow gg l4 #[.int .u32 (k : Int), .int .u32 (f : Int), .int .u32 (s : Int), .int .u32 (r : Int)]
          refine hK _ _ ⟨.inl (HSof _ gg), ?_⟩; clear hK K
          refine Rest.one (i := 7) (by kernel_rfl) rfl (fun K hK => ?_)
          (with_reducible refine draw_storeR rowI4 ?z19gd ?z19x ?z19y ?z19o g5 #[.int .u32 (k2 : Int), .int .u32 (f2 : Int), .int .u32 (s2 : Int), .int .u32 (r2 : Int)] ?z19hx ?z19hy h5 ?z19n ?z19old ?z19one ?z19h)
          case z19o => exact rfl
          case z19gd => exact rfl
          case z19hx => simp [Act.eval, Act.put]
          case z19hy => simp [Act.eval, Act.put]
          case z19n => rfl
          case z19old => rfl
          case z19one => kernel_rfl
          case z19h =>
          replace h4 := (setRow_other _ _ _ #[.int .u32 (k2 : Int), .int .u32 (f2 : Int), .int .u32 (s2 : Int), .int .u32 (r2 : Int)] hne).trans h4
          replace h5 := setRow_heap _ _ _ #[.int .u32 (k2 : Int), .int .u32 (f2 : Int), .int .u32 (s2 : Int), .int .u32 (r2 : Int)] _ _ h5
          replace gg := below_setRow gg l5 #[.int .u32 (k2 : Int), .int .u32 (f2 : Int), .int .u32 (s2 : Int), .int .u32 (r2 : Int)]
          refine hK _ _ ⟨.inr (thru_of (by kernel_rfl)), Rest.of_any _ _ _ _ (thru_of (by kernel_rfl)) ?_⟩; clear hK K
          refine wpAny_done (by kernel_rfl) ?_ _
          simp [Act.put]
          go_wp2
          go_meet
          exact ⟨g4, g5, rfl, rfl, h4, h5, gg⟩
      · refine draw_alloc4 rfl rfl ?_
        intro wz g5 h5 kz l5 m5
        replace gg := bstep gg kz
        replace l5 : w0.heap.size ≤ g5 := Nat.le_trans lw l5
        replace lw := Nat.le_trans lw kz.size
        clear kz
        refine hK _ _ ⟨.inl (HSof _ gg), ?_⟩; clear hK K
        refine Rest.two (i := 3) (j := 4) (by kernel_rfl) rfl rfl (fun K hK => ?_) (fun K hK => ?_)
        · refine draw_callF 24 (by kernel_rfl) (by simp [Region.wanted]) _ _ _ rfl (by simp [Act.eval]) #[.agg #[.int .u8 (k2 : Int), .int .u8 (f2 : Int), .int .u16 (s2 : Int), .int .u8 (r2 : Int)]] (by simp [Act.eval, Act.put]) _ (cB.out _) ?_
          rintro q wz ⟨rfl, kz⟩
          refine ⟨_, rfl, ?_⟩
          replace h5 := bx_below h5 kz; replace m5 := Nat.lt_of_lt_of_le m5 kz.size
          replace gg := bstep gg kz
          replace lw := Nat.le_trans lw kz.size
          clear kz
          refine hK _ _ ⟨.inl (HSof _ gg), ?_⟩; clear hK K
          refine Rest.one (i := 4) (by kernel_rfl) rfl (fun K hK => ?_)
          refine draw_alloc4 rfl rfl ?_
          intro wz g4 h4 kz l4 m4
          have hne : g4 ≠ g5 := Nat.ne_of_gt (Nat.lt_of_lt_of_le m5 l4)
          replace h5 := bx_below h5 kz; replace m5 := Nat.lt_of_lt_of_le m5 kz.size
          replace gg := bstep gg kz
          replace l4 : w0.heap.size ≤ g4 := Nat.le_trans lw l4
          replace lw := Nat.le_trans lw kz.size
          clear kz
          refine hK _ _ ⟨.inl (HSof _ gg), ?_⟩; clear hK K
          refine Rest.one (i := 6) (by kernel_rfl) rfl (fun K hK => ?_)
          (with_reducible refine draw_storeR rowI4 ?z23gd ?z23x ?z23y ?z23o g4 #[.int .u32 (k : Int), .int .u32 (f : Int), .int .u32 (s : Int), .int .u32 (r : Int)] ?z23hx ?z23hy h4 ?z23n ?z23old ?z23one ?z23h)
          case z23o => exact rfl
          case z23gd => exact rfl
          case z23hx => simp [Act.eval, Act.put]
          case z23hy => simp [Act.eval, Act.put]
          case z23n => rfl
          case z23old => rfl
          case z23one => kernel_rfl
          case z23h =>
          replace h5 := (setRow_other _ _ _ #[.int .u32 (k : Int), .int .u32 (f : Int), .int .u32 (s : Int), .int .u32 (r : Int)] (Ne.symm hne)).trans h5
          replace h4 := setRow_heap _ _ _ #[.int .u32 (k : Int), .int .u32 (f : Int), .int .u32 (s : Int), .int .u32 (r : Int)] _ _ h4
          replace gg := below_setRow gg l4 #[.int .u32 (k : Int), .int .u32 (f : Int), .int .u32 (s : Int), .int .u32 (r : Int)]
          refine hK _ _ ⟨.inl (HSof _ gg), ?_⟩; clear hK K
          refine Rest.one (i := 7) (by kernel_rfl) rfl (fun K hK => ?_)
          (with_reducible refine draw_storeR rowI4 ?z24gd ?z24x ?z24y ?z24o g5 #[.int .u32 (k2 : Int), .int .u32 (f2 : Int), .int .u32 (s2 : Int), .int .u32 (r2 : Int)] ?z24hx ?z24hy h5 ?z24n ?z24old ?z24one ?z24h)
          case z24o => exact rfl
          case z24gd => exact rfl
          case z24hx => simp [Act.eval, Act.put]
          case z24hy => simp [Act.eval, Act.put]
          case z24n => rfl
          case z24old => rfl
          case z24one => kernel_rfl
          case z24h =>
          replace h4 := (setRow_other _ _ _ #[.int .u32 (k2 : Int), .int .u32 (f2 : Int), .int .u32 (s2 : Int), .int .u32 (r2 : Int)] hne).trans h4
          replace h5 := setRow_heap _ _ _ #[.int .u32 (k2 : Int), .int .u32 (f2 : Int), .int .u32 (s2 : Int), .int .u32 (r2 : Int)] _ _ h5
          replace gg := below_setRow gg l5 #[.int .u32 (k2 : Int), .int .u32 (f2 : Int), .int .u32 (s2 : Int), .int .u32 (r2 : Int)]
          refine hK _ _ ⟨.inr (thru_of (by kernel_rfl)), Rest.of_any _ _ _ _ (thru_of (by kernel_rfl)) ?_⟩; clear hK K
          refine wpAny_done (by kernel_rfl) ?_ _
          simp [Act.put]
          go_wp2
          go_meet
          exact ⟨g4, g5, rfl, rfl, h4, h5, gg⟩
        · refine draw_alloc4 rfl rfl ?_
          intro wz g4 h4 kz l4 m4
          have hne : g4 ≠ g5 := Nat.ne_of_gt (Nat.lt_of_lt_of_le m5 l4)
          replace h5 := bx_below h5 kz; replace m5 := Nat.lt_of_lt_of_le m5 kz.size
          replace gg := bstep gg kz
          replace l4 : w0.heap.size ≤ g4 := Nat.le_trans lw l4
          replace lw := Nat.le_trans lw kz.size
          clear kz
          refine hK _ _ ⟨.inl (HSof _ gg), ?_⟩; clear hK K
          refine Rest.one (i := 3) (by kernel_rfl) rfl (fun K hK => ?_)
          refine draw_callF 24 (by kernel_rfl) (by simp [Region.wanted]) _ _ _ rfl (by simp [Act.eval]) #[.agg #[.int .u8 (k2 : Int), .int .u8 (f2 : Int), .int .u16 (s2 : Int), .int .u8 (r2 : Int)]] (by simp [Act.eval, Act.put]) _ (cB.out _) ?_
          rintro q wz ⟨rfl, kz⟩
          refine ⟨_, rfl, ?_⟩
          replace h4 := bx_below h4 kz; replace m4 := Nat.lt_of_lt_of_le m4 kz.size
          replace h5 := bx_below h5 kz; replace m5 := Nat.lt_of_lt_of_le m5 kz.size
          replace gg := bstep gg kz
          replace lw := Nat.le_trans lw kz.size
          clear kz
          refine hK _ _ ⟨.inl (HSof _ gg), ?_⟩; clear hK K
          refine Rest.one (i := 6) (by kernel_rfl) rfl (fun K hK => ?_)
          (with_reducible refine draw_storeR rowI4 ?z27gd ?z27x ?z27y ?z27o g4 #[.int .u32 (k : Int), .int .u32 (f : Int), .int .u32 (s : Int), .int .u32 (r : Int)] ?z27hx ?z27hy h4 ?z27n ?z27old ?z27one ?z27h)
          case z27o => exact rfl
          case z27gd => exact rfl
          case z27hx => simp [Act.eval, Act.put]
          case z27hy => simp [Act.eval, Act.put]
          case z27n => rfl
          case z27old => rfl
          case z27one => kernel_rfl
          case z27h =>
          replace h5 := (setRow_other _ _ _ #[.int .u32 (k : Int), .int .u32 (f : Int), .int .u32 (s : Int), .int .u32 (r : Int)] (Ne.symm hne)).trans h5
          replace h4 := setRow_heap _ _ _ #[.int .u32 (k : Int), .int .u32 (f : Int), .int .u32 (s : Int), .int .u32 (r : Int)] _ _ h4
          replace gg := below_setRow gg l4 #[.int .u32 (k : Int), .int .u32 (f : Int), .int .u32 (s : Int), .int .u32 (r : Int)]
          refine hK _ _ ⟨.inl (HSof _ gg), ?_⟩; clear hK K
          refine Rest.one (i := 7) (by kernel_rfl) rfl (fun K hK => ?_)
          (with_reducible refine draw_storeR rowI4 ?z28gd ?z28x ?z28y ?z28o g5 #[.int .u32 (k2 : Int), .int .u32 (f2 : Int), .int .u32 (s2 : Int), .int .u32 (r2 : Int)] ?z28hx ?z28hy h5 ?z28n ?z28old ?z28one ?z28h)
          case z28o => exact rfl
          case z28gd => exact rfl
          case z28hx => simp [Act.eval, Act.put]
          case z28hy => simp [Act.eval, Act.put]
          case z28n => rfl
          case z28old => rfl
          case z28one => kernel_rfl
          case z28h =>
          replace h4 := (setRow_other _ _ _ #[.int .u32 (k2 : Int), .int .u32 (f2 : Int), .int .u32 (s2 : Int), .int .u32 (r2 : Int)] hne).trans h4
          replace h5 := setRow_heap _ _ _ #[.int .u32 (k2 : Int), .int .u32 (f2 : Int), .int .u32 (s2 : Int), .int .u32 (r2 : Int)] _ _ h5
          replace gg := below_setRow gg l5 #[.int .u32 (k2 : Int), .int .u32 (f2 : Int), .int .u32 (s2 : Int), .int .u32 (r2 : Int)]
          refine hK _ _ ⟨.inr (thru_of (by kernel_rfl)), Rest.of_any _ _ _ _ (thru_of (by kernel_rfl)) ?_⟩; clear hK K
          refine wpAny_done (by kernel_rfl) ?_ _
          simp [Act.put]
          go_wp2
          go_meet
          exact ⟨g4, g5, rfl, rfl, h4, h5, gg⟩
    · refine draw_alloc4 rfl rfl ?_
      intro wz g4 h4 kz l4 m4
      replace gg := bstep gg kz
      replace l4 : w0.heap.size ≤ g4 := Nat.le_trans lw l4
      replace lw := Nat.le_trans lw kz.size
      clear kz
      refine hK _ _ ⟨.inl (HSof _ gg), ?_⟩; clear hK K
      refine Rest.two (i := 1) (j := 5) (by kernel_rfl) rfl rfl (fun K hK => ?_) (fun K hK => ?_)
      · refine draw_callF 24 (by kernel_rfl) (by simp [Region.wanted]) _ _ _ rfl (by simp [Act.eval]) #[.agg #[.int .u8 (k : Int), .int .u8 (f : Int), .int .u16 (s : Int), .int .u8 (r : Int)]] (by simp [Act.eval, Act.put]) _ (cA.out _) ?_
        rintro q wz ⟨rfl, kz⟩
        refine ⟨_, rfl, ?_⟩
        replace h4 := bx_below h4 kz; replace m4 := Nat.lt_of_lt_of_le m4 kz.size
        replace gg := bstep gg kz
        replace lw := Nat.le_trans lw kz.size
        clear kz
        refine hK _ _ ⟨.inl (HSof _ gg), ?_⟩; clear hK K
        refine Rest.two (i := 3) (j := 5) (by kernel_rfl) rfl rfl (fun K hK => ?_) (fun K hK => ?_)
        · refine draw_callF 24 (by kernel_rfl) (by simp [Region.wanted]) _ _ _ rfl (by simp [Act.eval]) #[.agg #[.int .u8 (k2 : Int), .int .u8 (f2 : Int), .int .u16 (s2 : Int), .int .u8 (r2 : Int)]] (by simp [Act.eval, Act.put]) _ (cB.out _) ?_
          rintro q wz ⟨rfl, kz⟩
          refine ⟨_, rfl, ?_⟩
          replace h4 := bx_below h4 kz; replace m4 := Nat.lt_of_lt_of_le m4 kz.size
          replace gg := bstep gg kz
          replace lw := Nat.le_trans lw kz.size
          clear kz
          refine hK _ _ ⟨.inl (HSof _ gg), ?_⟩; clear hK K
          refine Rest.one (i := 5) (by kernel_rfl) rfl (fun K hK => ?_)
          refine draw_alloc4 rfl rfl ?_
          intro wz g5 h5 kz l5 m5
          have hne : g4 ≠ g5 := Nat.ne_of_lt (Nat.lt_of_lt_of_le m4 l5)
          replace h4 := bx_below h4 kz; replace m4 := Nat.lt_of_lt_of_le m4 kz.size
          replace gg := bstep gg kz
          replace l5 : w0.heap.size ≤ g5 := Nat.le_trans lw l5
          replace lw := Nat.le_trans lw kz.size
          clear kz
          refine hK _ _ ⟨.inl (HSof _ gg), ?_⟩; clear hK K
          refine Rest.one (i := 6) (by kernel_rfl) rfl (fun K hK => ?_)
          (with_reducible refine draw_storeR rowI4 ?z33gd ?z33x ?z33y ?z33o g4 #[.int .u32 (k : Int), .int .u32 (f : Int), .int .u32 (s : Int), .int .u32 (r : Int)] ?z33hx ?z33hy h4 ?z33n ?z33old ?z33one ?z33h)
          case z33o => exact rfl
          case z33gd => exact rfl
          case z33hx => simp [Act.eval, Act.put]
          case z33hy => simp [Act.eval, Act.put]
          case z33n => rfl
          case z33old => rfl
          case z33one => kernel_rfl
          case z33h =>
          replace h5 := (setRow_other _ _ _ #[.int .u32 (k : Int), .int .u32 (f : Int), .int .u32 (s : Int), .int .u32 (r : Int)] (Ne.symm hne)).trans h5
          replace h4 := setRow_heap _ _ _ #[.int .u32 (k : Int), .int .u32 (f : Int), .int .u32 (s : Int), .int .u32 (r : Int)] _ _ h4
          replace gg := below_setRow gg l4 #[.int .u32 (k : Int), .int .u32 (f : Int), .int .u32 (s : Int), .int .u32 (r : Int)]
          refine hK _ _ ⟨.inl (HSof _ gg), ?_⟩; clear hK K
          refine Rest.one (i := 7) (by kernel_rfl) rfl (fun K hK => ?_)
          (with_reducible refine draw_storeR rowI4 ?z34gd ?z34x ?z34y ?z34o g5 #[.int .u32 (k2 : Int), .int .u32 (f2 : Int), .int .u32 (s2 : Int), .int .u32 (r2 : Int)] ?z34hx ?z34hy h5 ?z34n ?z34old ?z34one ?z34h)
          case z34o => exact rfl
          case z34gd => exact rfl
          case z34hx => simp [Act.eval, Act.put]
          case z34hy => simp [Act.eval, Act.put]
          case z34n => rfl
          case z34old => rfl
          case z34one => kernel_rfl
          case z34h =>
          replace h4 := (setRow_other _ _ _ #[.int .u32 (k2 : Int), .int .u32 (f2 : Int), .int .u32 (s2 : Int), .int .u32 (r2 : Int)] hne).trans h4
          replace h5 := setRow_heap _ _ _ #[.int .u32 (k2 : Int), .int .u32 (f2 : Int), .int .u32 (s2 : Int), .int .u32 (r2 : Int)] _ _ h5
          replace gg := below_setRow gg l5 #[.int .u32 (k2 : Int), .int .u32 (f2 : Int), .int .u32 (s2 : Int), .int .u32 (r2 : Int)]
          refine hK _ _ ⟨.inr (thru_of (by kernel_rfl)), Rest.of_any _ _ _ _ (thru_of (by kernel_rfl)) ?_⟩; clear hK K
          refine wpAny_done (by kernel_rfl) ?_ _
          simp [Act.put]
          go_wp2
          go_meet
          exact ⟨g4, g5, rfl, rfl, h4, h5, gg⟩
        · refine draw_alloc4 rfl rfl ?_
          intro wz g5 h5 kz l5 m5
          have hne : g4 ≠ g5 := Nat.ne_of_lt (Nat.lt_of_lt_of_le m4 l5)
          replace h4 := bx_below h4 kz; replace m4 := Nat.lt_of_lt_of_le m4 kz.size
          replace gg := bstep gg kz
          replace l5 : w0.heap.size ≤ g5 := Nat.le_trans lw l5
          replace lw := Nat.le_trans lw kz.size
          clear kz
          refine hK _ _ ⟨.inl (HSof _ gg), ?_⟩; clear hK K
          refine Rest.one (i := 3) (by kernel_rfl) rfl (fun K hK => ?_)
          refine draw_callF 24 (by kernel_rfl) (by simp [Region.wanted]) _ _ _ rfl (by simp [Act.eval]) #[.agg #[.int .u8 (k2 : Int), .int .u8 (f2 : Int), .int .u16 (s2 : Int), .int .u8 (r2 : Int)]] (by simp [Act.eval, Act.put]) _ (cB.out _) ?_
          rintro q wz ⟨rfl, kz⟩
          refine ⟨_, rfl, ?_⟩
          replace h4 := bx_below h4 kz; replace m4 := Nat.lt_of_lt_of_le m4 kz.size
          replace h5 := bx_below h5 kz; replace m5 := Nat.lt_of_lt_of_le m5 kz.size
          replace gg := bstep gg kz
          replace lw := Nat.le_trans lw kz.size
          clear kz
          refine hK _ _ ⟨.inl (HSof _ gg), ?_⟩; clear hK K
          refine Rest.one (i := 6) (by kernel_rfl) rfl (fun K hK => ?_)
          (with_reducible refine draw_storeR rowI4 ?z37gd ?z37x ?z37y ?z37o g4 #[.int .u32 (k : Int), .int .u32 (f : Int), .int .u32 (s : Int), .int .u32 (r : Int)] ?z37hx ?z37hy h4 ?z37n ?z37old ?z37one ?z37h)
          case z37o => exact rfl
          case z37gd => exact rfl
          case z37hx => simp [Act.eval, Act.put]
          case z37hy => simp [Act.eval, Act.put]
          case z37n => rfl
          case z37old => rfl
          case z37one => kernel_rfl
          case z37h =>
          replace h5 := (setRow_other _ _ _ #[.int .u32 (k : Int), .int .u32 (f : Int), .int .u32 (s : Int), .int .u32 (r : Int)] (Ne.symm hne)).trans h5
          replace h4 := setRow_heap _ _ _ #[.int .u32 (k : Int), .int .u32 (f : Int), .int .u32 (s : Int), .int .u32 (r : Int)] _ _ h4
          replace gg := below_setRow gg l4 #[.int .u32 (k : Int), .int .u32 (f : Int), .int .u32 (s : Int), .int .u32 (r : Int)]
          refine hK _ _ ⟨.inl (HSof _ gg), ?_⟩; clear hK K
          refine Rest.one (i := 7) (by kernel_rfl) rfl (fun K hK => ?_)
          (with_reducible refine draw_storeR rowI4 ?z38gd ?z38x ?z38y ?z38o g5 #[.int .u32 (k2 : Int), .int .u32 (f2 : Int), .int .u32 (s2 : Int), .int .u32 (r2 : Int)] ?z38hx ?z38hy h5 ?z38n ?z38old ?z38one ?z38h)
          case z38o => exact rfl
          case z38gd => exact rfl
          case z38hx => simp [Act.eval, Act.put]
          case z38hy => simp [Act.eval, Act.put]
          case z38n => rfl
          case z38old => rfl
          case z38one => kernel_rfl
          case z38h =>
          replace h4 := (setRow_other _ _ _ #[.int .u32 (k2 : Int), .int .u32 (f2 : Int), .int .u32 (s2 : Int), .int .u32 (r2 : Int)] hne).trans h4
          replace h5 := setRow_heap _ _ _ #[.int .u32 (k2 : Int), .int .u32 (f2 : Int), .int .u32 (s2 : Int), .int .u32 (r2 : Int)] _ _ h5
          replace gg := below_setRow gg l5 #[.int .u32 (k2 : Int), .int .u32 (f2 : Int), .int .u32 (s2 : Int), .int .u32 (r2 : Int)]
          refine hK _ _ ⟨.inr (thru_of (by kernel_rfl)), Rest.of_any _ _ _ _ (thru_of (by kernel_rfl)) ?_⟩; clear hK K
          refine wpAny_done (by kernel_rfl) ?_ _
          simp [Act.put]
          go_wp2
          go_meet
          exact ⟨g4, g5, rfl, rfl, h4, h5, gg⟩
      · refine draw_alloc4 rfl rfl ?_
        intro wz g5 h5 kz l5 m5
        have hne : g4 ≠ g5 := Nat.ne_of_lt (Nat.lt_of_lt_of_le m4 l5)
        replace h4 := bx_below h4 kz; replace m4 := Nat.lt_of_lt_of_le m4 kz.size
        replace gg := bstep gg kz
        replace l5 : w0.heap.size ≤ g5 := Nat.le_trans lw l5
        replace lw := Nat.le_trans lw kz.size
        clear kz
        refine hK _ _ ⟨.inl (HSof _ gg), ?_⟩; clear hK K
        refine Rest.one (i := 1) (by kernel_rfl) rfl (fun K hK => ?_)
        refine draw_callF 24 (by kernel_rfl) (by simp [Region.wanted]) _ _ _ rfl (by simp [Act.eval]) #[.agg #[.int .u8 (k : Int), .int .u8 (f : Int), .int .u16 (s : Int), .int .u8 (r : Int)]] (by simp [Act.eval, Act.put]) _ (cA.out _) ?_
        rintro q wz ⟨rfl, kz⟩
        refine ⟨_, rfl, ?_⟩
        replace h4 := bx_below h4 kz; replace m4 := Nat.lt_of_lt_of_le m4 kz.size
        replace h5 := bx_below h5 kz; replace m5 := Nat.lt_of_lt_of_le m5 kz.size
        replace gg := bstep gg kz
        replace lw := Nat.le_trans lw kz.size
        clear kz
        refine hK _ _ ⟨.inl (HSof _ gg), ?_⟩; clear hK K
        refine Rest.one (i := 3) (by kernel_rfl) rfl (fun K hK => ?_)
        refine draw_callF 24 (by kernel_rfl) (by simp [Region.wanted]) _ _ _ rfl (by simp [Act.eval]) #[.agg #[.int .u8 (k2 : Int), .int .u8 (f2 : Int), .int .u16 (s2 : Int), .int .u8 (r2 : Int)]] (by simp [Act.eval, Act.put]) _ (cB.out _) ?_
        rintro q wz ⟨rfl, kz⟩
        refine ⟨_, rfl, ?_⟩
        replace h4 := bx_below h4 kz; replace m4 := Nat.lt_of_lt_of_le m4 kz.size
        replace h5 := bx_below h5 kz; replace m5 := Nat.lt_of_lt_of_le m5 kz.size
        replace gg := bstep gg kz
        replace lw := Nat.le_trans lw kz.size
        clear kz
        refine hK _ _ ⟨.inl (HSof _ gg), ?_⟩; clear hK K
        refine Rest.one (i := 6) (by kernel_rfl) rfl (fun K hK => ?_)
        (with_reducible refine draw_storeR rowI4 ?z42gd ?z42x ?z42y ?z42o g4 #[.int .u32 (k : Int), .int .u32 (f : Int), .int .u32 (s : Int), .int .u32 (r : Int)] ?z42hx ?z42hy h4 ?z42n ?z42old ?z42one ?z42h)
        case z42o => exact rfl
        case z42gd => exact rfl
        case z42hx => simp [Act.eval, Act.put]
        case z42hy => simp [Act.eval, Act.put]
        case z42n => rfl
        case z42old => rfl
        case z42one => kernel_rfl
        case z42h =>
        replace h5 := (setRow_other _ _ _ #[.int .u32 (k : Int), .int .u32 (f : Int), .int .u32 (s : Int), .int .u32 (r : Int)] (Ne.symm hne)).trans h5
        replace h4 := setRow_heap _ _ _ #[.int .u32 (k : Int), .int .u32 (f : Int), .int .u32 (s : Int), .int .u32 (r : Int)] _ _ h4
        replace gg := below_setRow gg l4 #[.int .u32 (k : Int), .int .u32 (f : Int), .int .u32 (s : Int), .int .u32 (r : Int)]
        refine hK _ _ ⟨.inl (HSof _ gg), ?_⟩; clear hK K
        refine Rest.one (i := 7) (by kernel_rfl) rfl (fun K hK => ?_)
        (with_reducible refine draw_storeR rowI4 ?z43gd ?z43x ?z43y ?z43o g5 #[.int .u32 (k2 : Int), .int .u32 (f2 : Int), .int .u32 (s2 : Int), .int .u32 (r2 : Int)] ?z43hx ?z43hy h5 ?z43n ?z43old ?z43one ?z43h)
        case z43o => exact rfl
        case z43gd => exact rfl
        case z43hx => simp [Act.eval, Act.put]
        case z43hy => simp [Act.eval, Act.put]
        case z43n => rfl
        case z43old => rfl
        case z43one => kernel_rfl
        case z43h =>
        replace h4 := (setRow_other _ _ _ #[.int .u32 (k2 : Int), .int .u32 (f2 : Int), .int .u32 (s2 : Int), .int .u32 (r2 : Int)] hne).trans h4
        replace h5 := setRow_heap _ _ _ #[.int .u32 (k2 : Int), .int .u32 (f2 : Int), .int .u32 (s2 : Int), .int .u32 (r2 : Int)] _ _ h5
        replace gg := below_setRow gg l5 #[.int .u32 (k2 : Int), .int .u32 (f2 : Int), .int .u32 (s2 : Int), .int .u32 (r2 : Int)]
        refine hK _ _ ⟨.inr (thru_of (by kernel_rfl)), Rest.of_any _ _ _ _ (thru_of (by kernel_rfl)) ?_⟩; clear hK K
        refine wpAny_done (by kernel_rfl) ?_ _
        simp [Act.put]
        go_wp2
        go_meet
        exact ⟨g4, g5, rfl, rfl, h4, h5, gg⟩
    · refine draw_alloc4 rfl rfl ?_
      intro wz g5 h5 kz l5 m5
      replace gg := bstep gg kz
      replace l5 : w0.heap.size ≤ g5 := Nat.le_trans lw l5
      replace lw := Nat.le_trans lw kz.size
      clear kz
      refine hK _ _ ⟨.inl (HSof _ gg), ?_⟩; clear hK K
      refine Rest.two (i := 1) (j := 4) (by kernel_rfl) rfl rfl (fun K hK => ?_) (fun K hK => ?_)
      · refine draw_callF 24 (by kernel_rfl) (by simp [Region.wanted]) _ _ _ rfl (by simp [Act.eval]) #[.agg #[.int .u8 (k : Int), .int .u8 (f : Int), .int .u16 (s : Int), .int .u8 (r : Int)]] (by simp [Act.eval, Act.put]) _ (cA.out _) ?_
        rintro q wz ⟨rfl, kz⟩
        refine ⟨_, rfl, ?_⟩
        replace h5 := bx_below h5 kz; replace m5 := Nat.lt_of_lt_of_le m5 kz.size
        replace gg := bstep gg kz
        replace lw := Nat.le_trans lw kz.size
        clear kz
        refine hK _ _ ⟨.inl (HSof _ gg), ?_⟩; clear hK K
        refine Rest.two (i := 3) (j := 4) (by kernel_rfl) rfl rfl (fun K hK => ?_) (fun K hK => ?_)
        · refine draw_callF 24 (by kernel_rfl) (by simp [Region.wanted]) _ _ _ rfl (by simp [Act.eval]) #[.agg #[.int .u8 (k2 : Int), .int .u8 (f2 : Int), .int .u16 (s2 : Int), .int .u8 (r2 : Int)]] (by simp [Act.eval, Act.put]) _ (cB.out _) ?_
          rintro q wz ⟨rfl, kz⟩
          refine ⟨_, rfl, ?_⟩
          replace h5 := bx_below h5 kz; replace m5 := Nat.lt_of_lt_of_le m5 kz.size
          replace gg := bstep gg kz
          replace lw := Nat.le_trans lw kz.size
          clear kz
          refine hK _ _ ⟨.inl (HSof _ gg), ?_⟩; clear hK K
          refine Rest.one (i := 4) (by kernel_rfl) rfl (fun K hK => ?_)
          refine draw_alloc4 rfl rfl ?_
          intro wz g4 h4 kz l4 m4
          have hne : g4 ≠ g5 := Nat.ne_of_gt (Nat.lt_of_lt_of_le m5 l4)
          replace h5 := bx_below h5 kz; replace m5 := Nat.lt_of_lt_of_le m5 kz.size
          replace gg := bstep gg kz
          replace l4 : w0.heap.size ≤ g4 := Nat.le_trans lw l4
          replace lw := Nat.le_trans lw kz.size
          clear kz
          refine hK _ _ ⟨.inl (HSof _ gg), ?_⟩; clear hK K
          refine Rest.one (i := 6) (by kernel_rfl) rfl (fun K hK => ?_)
          (with_reducible refine draw_storeR rowI4 ?z48gd ?z48x ?z48y ?z48o g4 #[.int .u32 (k : Int), .int .u32 (f : Int), .int .u32 (s : Int), .int .u32 (r : Int)] ?z48hx ?z48hy h4 ?z48n ?z48old ?z48one ?z48h)
          case z48o => exact rfl
          case z48gd => exact rfl
          case z48hx => simp [Act.eval, Act.put]
          case z48hy => simp [Act.eval, Act.put]
          case z48n => rfl
          case z48old => rfl
          case z48one => kernel_rfl
          case z48h =>
          replace h5 := (setRow_other _ _ _ #[.int .u32 (k : Int), .int .u32 (f : Int), .int .u32 (s : Int), .int .u32 (r : Int)] (Ne.symm hne)).trans h5
          replace h4 := setRow_heap _ _ _ #[.int .u32 (k : Int), .int .u32 (f : Int), .int .u32 (s : Int), .int .u32 (r : Int)] _ _ h4
          replace gg := below_setRow gg l4 #[.int .u32 (k : Int), .int .u32 (f : Int), .int .u32 (s : Int), .int .u32 (r : Int)]
          refine hK _ _ ⟨.inl (HSof _ gg), ?_⟩; clear hK K
          refine Rest.one (i := 7) (by kernel_rfl) rfl (fun K hK => ?_)
          (with_reducible refine draw_storeR rowI4 ?z49gd ?z49x ?z49y ?z49o g5 #[.int .u32 (k2 : Int), .int .u32 (f2 : Int), .int .u32 (s2 : Int), .int .u32 (r2 : Int)] ?z49hx ?z49hy h5 ?z49n ?z49old ?z49one ?z49h)
          case z49o => exact rfl
          case z49gd => exact rfl
          case z49hx => simp [Act.eval, Act.put]
          case z49hy => simp [Act.eval, Act.put]
          case z49n => rfl
          case z49old => rfl
          case z49one => kernel_rfl
          case z49h =>
          replace h4 := (setRow_other _ _ _ #[.int .u32 (k2 : Int), .int .u32 (f2 : Int), .int .u32 (s2 : Int), .int .u32 (r2 : Int)] hne).trans h4
          replace h5 := setRow_heap _ _ _ #[.int .u32 (k2 : Int), .int .u32 (f2 : Int), .int .u32 (s2 : Int), .int .u32 (r2 : Int)] _ _ h5
          replace gg := below_setRow gg l5 #[.int .u32 (k2 : Int), .int .u32 (f2 : Int), .int .u32 (s2 : Int), .int .u32 (r2 : Int)]
          refine hK _ _ ⟨.inr (thru_of (by kernel_rfl)), Rest.of_any _ _ _ _ (thru_of (by kernel_rfl)) ?_⟩; clear hK K
          refine wpAny_done (by kernel_rfl) ?_ _
          simp [Act.put]
          go_wp2
          go_meet
          exact ⟨g4, g5, rfl, rfl, h4, h5, gg⟩
        · refine draw_alloc4 rfl rfl ?_
          intro wz g4 h4 kz l4 m4
          have hne : g4 ≠ g5 := Nat.ne_of_gt (Nat.lt_of_lt_of_le m5 l4)
          replace h5 := bx_below h5 kz; replace m5 := Nat.lt_of_lt_of_le m5 kz.size
          replace gg := bstep gg kz
          replace l4 : w0.heap.size ≤ g4 := Nat.le_trans lw l4
          replace lw := Nat.le_trans lw kz.size
          clear kz
          refine hK _ _ ⟨.inl (HSof _ gg), ?_⟩; clear hK K
          refine Rest.one (i := 3) (by kernel_rfl) rfl (fun K hK => ?_)
          refine draw_callF 24 (by kernel_rfl) (by simp [Region.wanted]) _ _ _ rfl (by simp [Act.eval]) #[.agg #[.int .u8 (k2 : Int), .int .u8 (f2 : Int), .int .u16 (s2 : Int), .int .u8 (r2 : Int)]] (by simp [Act.eval, Act.put]) _ (cB.out _) ?_
          rintro q wz ⟨rfl, kz⟩
          refine ⟨_, rfl, ?_⟩
          replace h4 := bx_below h4 kz; replace m4 := Nat.lt_of_lt_of_le m4 kz.size
          replace h5 := bx_below h5 kz; replace m5 := Nat.lt_of_lt_of_le m5 kz.size
          replace gg := bstep gg kz
          replace lw := Nat.le_trans lw kz.size
          clear kz
          refine hK _ _ ⟨.inl (HSof _ gg), ?_⟩; clear hK K
          refine Rest.one (i := 6) (by kernel_rfl) rfl (fun K hK => ?_)
          (with_reducible refine draw_storeR rowI4 ?z52gd ?z52x ?z52y ?z52o g4 #[.int .u32 (k : Int), .int .u32 (f : Int), .int .u32 (s : Int), .int .u32 (r : Int)] ?z52hx ?z52hy h4 ?z52n ?z52old ?z52one ?z52h)
          case z52o => exact rfl
          case z52gd => exact rfl
          case z52hx => simp [Act.eval, Act.put]
          case z52hy => simp [Act.eval, Act.put]
          case z52n => rfl
          case z52old => rfl
          case z52one => kernel_rfl
          case z52h =>
          replace h5 := (setRow_other _ _ _ #[.int .u32 (k : Int), .int .u32 (f : Int), .int .u32 (s : Int), .int .u32 (r : Int)] (Ne.symm hne)).trans h5
          replace h4 := setRow_heap _ _ _ #[.int .u32 (k : Int), .int .u32 (f : Int), .int .u32 (s : Int), .int .u32 (r : Int)] _ _ h4
          replace gg := below_setRow gg l4 #[.int .u32 (k : Int), .int .u32 (f : Int), .int .u32 (s : Int), .int .u32 (r : Int)]
          refine hK _ _ ⟨.inl (HSof _ gg), ?_⟩; clear hK K
          refine Rest.one (i := 7) (by kernel_rfl) rfl (fun K hK => ?_)
          (with_reducible refine draw_storeR rowI4 ?z53gd ?z53x ?z53y ?z53o g5 #[.int .u32 (k2 : Int), .int .u32 (f2 : Int), .int .u32 (s2 : Int), .int .u32 (r2 : Int)] ?z53hx ?z53hy h5 ?z53n ?z53old ?z53one ?z53h)
          case z53o => exact rfl
          case z53gd => exact rfl
          case z53hx => simp [Act.eval, Act.put]
          case z53hy => simp [Act.eval, Act.put]
          case z53n => rfl
          case z53old => rfl
          case z53one => kernel_rfl
          case z53h =>
          replace h4 := (setRow_other _ _ _ #[.int .u32 (k2 : Int), .int .u32 (f2 : Int), .int .u32 (s2 : Int), .int .u32 (r2 : Int)] hne).trans h4
          replace h5 := setRow_heap _ _ _ #[.int .u32 (k2 : Int), .int .u32 (f2 : Int), .int .u32 (s2 : Int), .int .u32 (r2 : Int)] _ _ h5
          replace gg := below_setRow gg l5 #[.int .u32 (k2 : Int), .int .u32 (f2 : Int), .int .u32 (s2 : Int), .int .u32 (r2 : Int)]
          refine hK _ _ ⟨.inr (thru_of (by kernel_rfl)), Rest.of_any _ _ _ _ (thru_of (by kernel_rfl)) ?_⟩; clear hK K
          refine wpAny_done (by kernel_rfl) ?_ _
          simp [Act.put]
          go_wp2
          go_meet
          exact ⟨g4, g5, rfl, rfl, h4, h5, gg⟩
      · refine draw_alloc4 rfl rfl ?_
        intro wz g4 h4 kz l4 m4
        have hne : g4 ≠ g5 := Nat.ne_of_gt (Nat.lt_of_lt_of_le m5 l4)
        replace h5 := bx_below h5 kz; replace m5 := Nat.lt_of_lt_of_le m5 kz.size
        replace gg := bstep gg kz
        replace l4 : w0.heap.size ≤ g4 := Nat.le_trans lw l4
        replace lw := Nat.le_trans lw kz.size
        clear kz
        refine hK _ _ ⟨.inl (HSof _ gg), ?_⟩; clear hK K
        refine Rest.one (i := 1) (by kernel_rfl) rfl (fun K hK => ?_)
        refine draw_callF 24 (by kernel_rfl) (by simp [Region.wanted]) _ _ _ rfl (by simp [Act.eval]) #[.agg #[.int .u8 (k : Int), .int .u8 (f : Int), .int .u16 (s : Int), .int .u8 (r : Int)]] (by simp [Act.eval, Act.put]) _ (cA.out _) ?_
        rintro q wz ⟨rfl, kz⟩
        refine ⟨_, rfl, ?_⟩
        replace h4 := bx_below h4 kz; replace m4 := Nat.lt_of_lt_of_le m4 kz.size
        replace h5 := bx_below h5 kz; replace m5 := Nat.lt_of_lt_of_le m5 kz.size
        replace gg := bstep gg kz
        replace lw := Nat.le_trans lw kz.size
        clear kz
        refine hK _ _ ⟨.inl (HSof _ gg), ?_⟩; clear hK K
        refine Rest.one (i := 3) (by kernel_rfl) rfl (fun K hK => ?_)
        refine draw_callF 24 (by kernel_rfl) (by simp [Region.wanted]) _ _ _ rfl (by simp [Act.eval]) #[.agg #[.int .u8 (k2 : Int), .int .u8 (f2 : Int), .int .u16 (s2 : Int), .int .u8 (r2 : Int)]] (by simp [Act.eval, Act.put]) _ (cB.out _) ?_
        rintro q wz ⟨rfl, kz⟩
        refine ⟨_, rfl, ?_⟩
        replace h4 := bx_below h4 kz; replace m4 := Nat.lt_of_lt_of_le m4 kz.size
        replace h5 := bx_below h5 kz; replace m5 := Nat.lt_of_lt_of_le m5 kz.size
        replace gg := bstep gg kz
        replace lw := Nat.le_trans lw kz.size
        clear kz
        refine hK _ _ ⟨.inl (HSof _ gg), ?_⟩; clear hK K
        refine Rest.one (i := 6) (by kernel_rfl) rfl (fun K hK => ?_)
        (with_reducible refine draw_storeR rowI4 ?z57gd ?z57x ?z57y ?z57o g4 #[.int .u32 (k : Int), .int .u32 (f : Int), .int .u32 (s : Int), .int .u32 (r : Int)] ?z57hx ?z57hy h4 ?z57n ?z57old ?z57one ?z57h)
        case z57o => exact rfl
        case z57gd => exact rfl
        case z57hx => simp [Act.eval, Act.put]
        case z57hy => simp [Act.eval, Act.put]
        case z57n => rfl
        case z57old => rfl
        case z57one => kernel_rfl
        case z57h =>
        replace h5 := (setRow_other _ _ _ #[.int .u32 (k : Int), .int .u32 (f : Int), .int .u32 (s : Int), .int .u32 (r : Int)] (Ne.symm hne)).trans h5
        replace h4 := setRow_heap _ _ _ #[.int .u32 (k : Int), .int .u32 (f : Int), .int .u32 (s : Int), .int .u32 (r : Int)] _ _ h4
        replace gg := below_setRow gg l4 #[.int .u32 (k : Int), .int .u32 (f : Int), .int .u32 (s : Int), .int .u32 (r : Int)]
        refine hK _ _ ⟨.inl (HSof _ gg), ?_⟩; clear hK K
        refine Rest.one (i := 7) (by kernel_rfl) rfl (fun K hK => ?_)
        (with_reducible refine draw_storeR rowI4 ?z58gd ?z58x ?z58y ?z58o g5 #[.int .u32 (k2 : Int), .int .u32 (f2 : Int), .int .u32 (s2 : Int), .int .u32 (r2 : Int)] ?z58hx ?z58hy h5 ?z58n ?z58old ?z58one ?z58h)
        case z58o => exact rfl
        case z58gd => exact rfl
        case z58hx => simp [Act.eval, Act.put]
        case z58hy => simp [Act.eval, Act.put]
        case z58n => rfl
        case z58old => rfl
        case z58one => kernel_rfl
        case z58h =>
        replace h4 := (setRow_other _ _ _ #[.int .u32 (k2 : Int), .int .u32 (f2 : Int), .int .u32 (s2 : Int), .int .u32 (r2 : Int)] hne).trans h4
        replace h5 := setRow_heap _ _ _ #[.int .u32 (k2 : Int), .int .u32 (f2 : Int), .int .u32 (s2 : Int), .int .u32 (r2 : Int)] _ _ h5
        replace gg := below_setRow gg l5 #[.int .u32 (k2 : Int), .int .u32 (f2 : Int), .int .u32 (s2 : Int), .int .u32 (r2 : Int)]
        refine hK _ _ ⟨.inr (thru_of (by kernel_rfl)), Rest.of_any _ _ _ _ (thru_of (by kernel_rfl)) ?_⟩; clear hK K
        refine wpAny_done (by kernel_rfl) ?_ _
        simp [Act.put]
        go_wp2
        go_meet
        exact ⟨g4, g5, rfl, rfl, h4, h5, gg⟩
  case rest =>
  obtain ⟨g1, g2, rfl, rfl, h1, h2, gw⟩ := hcut
  have kC := fun d os => Calls.regrown_of ((compare4_any (grow (redrawn wc d) os) g1 g2 k f s r k2 f2 s2 r2 (bx_below h1 (below_regrown _ _ _)) (bx_below h2 (below_regrown _ _ _))).mono (fun e w' (h : e = .returned (.int .i64 (cmA k f s r k2 f2 s2 r2)) ∧ w' = grow (redrawn wc d) os) => (⟨h.1, by rw [h.2]; exact RowKit.Below.refl _ _⟩ : e = .returned (.int .i64 (cmA k f s r k2 f2 s2 r2)) ∧ RowKit.Below (grow (redrawn wc d) os).heap.size (grow (redrawn wc d) os) w')))
  have HL := hid (cmA_lt k f s r k2 f2 s2 r2)
  clear x0 x1 x2 x3 y0 y1 y2 y3 cA cB hbx hby hw0 hsz
  generalize cmA k f s r k2 f2 s2 r2 = v at *
  go_wp2_with fail
  refine wp_region_quiet_below (by kernel_rfl) (by kernel_rfl) ?_
  repeat (go_big_quiet_step (first | (go_at_call 27; with_reducible exact kC _ _)))
  refine wpQuiet_nil ?_
  intro w9 hw9
  have g9 : RowKit.Below wc.heap.size wc w9 := by obtain ⟨p9, rfl⟩ := hw9; exact below_regrown _ _ _
  clear hw9 kC h1 h2
  go_wp2
  go_ret
  exact ⟨ret_bool HL.out, bstep (bstep gg0 gw) g9⟩
end Go.Proofs.YtdkgdjdhmonccaaDoor

namespace Go.Proofs.YtdkgdjdhmonccaaDoor
open Go.RowKit Go.Sort
set_option linter.unusedVariables false
set_option linter.unusedSimpArgs false

set_option maxRecDepth 100000 in
set_option maxHeartbeats 4000000 in
theorem same_eq (w : World) (F : Fr) (a1 a2 : Option Addr) (c1 c2 : Nat) (h1 : RL bv w a1 F.data.length c1 F.data) (h2 : RL bv w a2 F.data.length c2 F.data) (hn : F.data.length ≤ 1000000) :
    Calls Tryd.prog 17 #[.agg (frV F a1 c1), .agg (frV F a2 c2)] w fun e w' => e = .returned (.bool true) ∧ Below w.heap.size w w' := by
  obtain ⟨n, hnl⟩ : ∃ n, F.data.length = n := ⟨_, rfl⟩
  have HN := hid hnl
  rw [hnl] at h1 h2 hn
  obtain ⟨w1, hw1, b1, b2, g1⟩ : ∃ w1, Hid ((w.alloc (.cells (frV F a1 c1) 28)).alloc (.cells (frV F a2 c2) 28) = w1) ∧ w1.heap[w.heap.size]? = some (.cells (frV F a1 c1) 28 (0, 0)) ∧ w1.heap[w.heap.size + 1]? = some (.cells (frV F a2 c2) 28 (0, 0)) ∧ Below w.heap.size w w1 :=
    ⟨_, rfl, bx_alloc _ (heap_alloc_new w _), by have := heap_alloc_new (w.alloc (.cells (frV F a1 c1) 28)) (.cells (frV F a2 c2) 28); rwa [heap_size_alloc] at this, bnew (bnew0 w _) _⟩
  rw [show frV F a1 c1 = #[.int .u32 (F.id : Int), .bool F.ext, .bool F.rem, .int .u8 (F.dlc : Int), .slice a1 n c1] by rw [← hnl]] at b1 hw1 ⊢
  rw [show frV F a2 c2 = #[.int .u32 (F.id : Int), .bool F.ext, .bool F.rem, .int .u8 (F.dlc : Int), .slice a2 n c2] by rw [← hnl]] at b2 hw1 ⊢
  clear hnl
  obtain ⟨x0, x1, x2, x3, x4⟩ := bx5 b1
  obtain ⟨y0, y1, y2, y3, y4⟩ := bx5 b2
  go_enter Tryd.func17, Tryd.ntmps17
  go_wp2_with (rw [hw1.out])
  clear x0 x1 x2 x3 x4 y0 y1 y2 y3 y4 hw1
  go_loopg [5] n (fun gn vi wr => ∃ k : Nat, k ≤ n ∧ gn = n - k ∧ vi = .int .i64 (k : Int) ∧ Below w1.heap.size w1 wr)
  case atStart => exact ⟨0, by omega, by omega, rfl, Below.refl _ _⟩
  case round =>
    obtain ⟨k, hk, rfl, rfl, gg⟩ := hrel
    have x4 := (bx5 (bx_below b1 gg)).2.2.2.2
    have y4 := (bx5 (bx_below b2 gg)).2.2.2.2
    by_cases hkl : k < n
    · obtain ⟨p1, o1, v, rfl, hv, hc1⟩ := ((h1.below g1).below gg).at hkl
      obtain ⟨p2, o2, v2, rfl, hv2, hc2⟩ := ((h2.below g1).below gg).at hkl
      rw [hv] at hv2
      simp only [Option.some.injEq] at hv2
      subst hv2
      have HV := hid hv
      clear hv h1 h2
      unfold bv at hc1 hc2
      go_wp2
      go_quiet (fail)
      have gg2 := below_drewN gg nq
      clear gg x4 y4 hc1 hc2
      go_wp2
      go_roundg (n - (k + 1))
      case measure => omega
      case rel => exact ⟨k + 1, by omega, rfl, by go_num, gg2⟩
    · obtain rfl : n = k := by omega
      go_wp2
      go_ret
      exact ⟨rfl, bstep g1 gg⟩
end Go.Proofs.YtdkgdjdhmonccaaDoor

namespace Go.Proofs.YtdkgdjdhmonccaaDoor
open Go.RowKit Go.Sort
set_option linter.unusedVariables false
set_option linter.unusedSimpArgs false

theorem make_both (k f s r : Nat) (hk : k < 256) (hf : f < 256) (hs : s < 65536) (hr : r < 256) : ∃ M E : Int,
    (∀ w, WdO w → Calls Tryd.prog 7 #[.agg #[.int .u8 (k : Int), .int .u8 (f : Int), .int .u16 (s : Int), .int .u8 (r : Int)]] w fun e w' => e = .returned (.tuple #[.int .u32 M, .int .i64 E]) ∧ Below w.heap.size w w') ∧
    (∀ w, Calls Tryd.prog 8 #[.agg #[.int .u8 (k : Int), .int .u8 (f : Int), .int .u16 (s : Int), .int .u8 (r : Int)]] w fun e w' => e = .returned (.tuple #[.int .u32 M, .int .i64 E]) ∧ Below w.heap.size w w') := by
  have h1 := fun w hw => idMake_any w hw k f s r hk hf hs hr
  have h2 := fun w => refIdMake_any w k f s r hk hf hs hr
  cases h : riI ⟨k, f, s, r⟩
  · simp only [h] at h1 h2
    exact ⟨0, 150, h1, h2⟩
  · simp only [h, if_true] at h1 h2
    exact ⟨_, 0, h1, h2⟩

theorem frame_both (k f s r : Nat) (hk : k < 256) (hf : f < 256) (hs : s < 65536) (hr : r < 256) (n : Nat) (l : List UInt8) (hl : l.length = n) : ∃ (F : Fr) (E : Int), F.data.length ≤ 1000000 ∧
    (∀ w a c, WdO w → RL bv w a n c l → Calls Tryd.prog 11 #[.agg #[.int .u8 (k : Int), .int .u8 (f : Int), .int .u16 (s : Int), .int .u8 (r : Int)], .slice a n c] w fun e w' => ∃ a2 c2, e = .returned (.tuple #[.agg (frV F a2 c2), .int .i64 E]) ∧ RL bv w' a2 F.data.length c2 F.data ∧ Below w.heap.size w w') ∧
    (∀ w a c, RL bv w a n c l → Calls Tryd.prog 12 #[.agg #[.int .u8 (k : Int), .int .u8 (f : Int), .int .u16 (s : Int), .int .u8 (r : Int)], .slice a n c] w fun e w' => ∃ a2 c2, e = .returned (.tuple #[.agg (frV F a2 c2), .int .i64 E]) ∧ RL bv w' a2 F.data.length c2 F.data ∧ Below w.heap.size w w') := by
  cases h : riI ⟨k, f, s, r⟩
  · exact ⟨⟨0, false, false, 0, []⟩, 150, by simp, fun w a c hw hr0 => (idFrame_no w hw k f s r hk hf hs hr a n c h).mono fun e w' ⟨h1, h2⟩ => ⟨none, 0, h1, RL.nil _ _ _ _, h2⟩,
      fun w a c hr0 => (refIdFrame_no w k f s r hk hf hs hr a n c h).mono fun e w' ⟨h1, h2⟩ => ⟨none, 0, h1, RL.nil _ _ _ _, h2⟩⟩
  · by_cases h8 : n ≤ 8
    · subst hl
      exact ⟨⟨mkI ⟨k, f, s, r⟩, true, false, l.length, l⟩, 0, by show l.length ≤ 1000000; omega, fun w a c hw hr0 => (idFrame_ok w hw k f s r hk hf hs hr a _ c h h8 l hr0).mono fun e w' ⟨a2, c2, h1, h3, h2⟩ => ⟨a2, c2, h1, h3.rl, h2⟩,
        fun w a c hr0 => (refIdFrame_ok w k f s r hk hf hs hr a _ c h h8 l hr0).mono fun e w' ⟨a2, c2, h1, h3, h2⟩ => ⟨a2, c2, h1, h3.rl, h2⟩⟩
    · exact ⟨⟨0, false, false, 0, []⟩, 240, by simp, fun w a c hw hr0 => (idFrame_long w hw k f s r hk hf hs hr a n c h (by omega)).mono fun e w' ⟨h1, h2⟩ => ⟨none, 0, h1, RL.nil _ _ _ _, h2⟩,
        fun w a c hr0 => (refIdFrame_long w k f s r hk hf hs hr a n c h (by omega)).mono fun e w' ⟨h1, h2⟩ => ⟨none, 0, h1, RL.nil _ _ _ _, h2⟩⟩

theorem of_both (id : Nat) (ext rem : Bool) (dlc : Nat) (n : Nat) (hi : id < 4294967296) (hd : dlc < 256) : ∃ (K P S R : Int) (B : Bool),
    (∀ w a c, WdO w → Calls Tryd.prog 13 #[.agg #[.int .u32 (id : Int), .bool ext, .bool rem, .int .u8 (dlc : Int), .slice a n c]] w fun e w' => e = .returned (.tuple #[.agg #[.int .u8 K, .int .u8 P, .int .u16 S, .int .u8 R], .bool B]) ∧ Below w.heap.size w w') ∧
    (∀ w a c, Calls Tryd.prog 14 #[.agg #[.int .u32 (id : Int), .bool ext, .bool rem, .int .u8 (dlc : Int), .slice a n c]] w fun e w' => e = .returned (.tuple #[.agg #[.int .u8 K, .int .u8 P, .int .u16 S, .int .u8 R], .bool B]) ∧ Below w.heap.size w w') := by
  cases h : (riF id ext rem dlc n && ext && !rem)
  · exact ⟨0, 0, 0, 0, false, fun w a c hw => idOf_no w hw id ext rem dlc a n c hi hd h, fun w a c => refIdOf_no w id ext rem dlc a n c hi hd h⟩
  · exact ⟨_, _, _, _, _, fun w a c hw => idOf_ok w hw id ext rem dlc a n c hi hd h, fun w a c => refIdOf_ok w id ext rem dlc a n c hi hd h⟩

/-- The least of a length and a bound. -/
theorem min15_20 (n N : Nat) (h : N = min n 20) : ∀ ts t w', (Builtin.min_ ts t #[.int .i64 (n : Int), .int .i64 20]).run Tryd.prog w' = .ok (.int .i64 (N : Int)) w' := fun ts t w' => by
  rw [run_min_int2]; congr 2; split <;> omega
theorem min15_8 (n N : Nat) (h : N = min n 8) : ∀ ts t w', (Builtin.min_ ts t #[.int .i64 (n : Int), .int .i64 8]).run Tryd.prog w' = .ok (.int .i64 (N : Int)) w' := fun ts t w' => by
  rw [run_min_int2]; congr 2; split <;> omega

theorem cell4r {w : World} {g : Nat} {E : TypeId} {v0 v1 v2 v3 : Value} (h : w.heap[g]? = some (.cells #[v0, v1, v2, v3] E (0, 0))) :
    (∀ d os, (grow (redrawn w d) os).cell? ⟨g, 0, none⟩ = some v0) ∧ (∀ d os, (grow (redrawn w d) os).cell? ⟨g, 1, none⟩ = some v1) ∧ (∀ d os, (grow (redrawn w d) os).cell? ⟨g, 2, none⟩ = some v2) ∧
    (∀ d os, (grow (redrawn w d) os).cell? ⟨g, 3, none⟩ = some v3) := by
  obtain ⟨k0, k1, k2, k3⟩ := bx4 h
  exact ⟨fun d os => cell_regrown k0 d os, fun d os => cell_regrown k1 d os, fun d os => cell_regrown k2 d os, fun d os => cell_regrown k3 d os⟩
theorem cell5r {w : World} {g : Nat} {E : TypeId} {v0 v1 v2 v3 v4 : Value} (h : w.heap[g]? = some (.cells #[v0, v1, v2, v3, v4] E (0, 0))) :
    (∀ d os, (grow (redrawn w d) os).cell? ⟨g, 0, none⟩ = some v0) ∧ (∀ d os, (grow (redrawn w d) os).cell? ⟨g, 1, none⟩ = some v1) ∧ (∀ d os, (grow (redrawn w d) os).cell? ⟨g, 2, none⟩ = some v2) ∧
    (∀ d os, (grow (redrawn w d) os).cell? ⟨g, 3, none⟩ = some v3) ∧ (∀ d os, (grow (redrawn w d) os).cell? ⟨g, 4, none⟩ = some v4) := by
  obtain ⟨k0, k1, k2, k3, k4⟩ := bx5 h
  exact ⟨fun d os => cell_regrown k0 d os, fun d os => cell_regrown k1 d os, fun d os => cell_regrown k2 d os, fun d os => cell_regrown k3 d os, fun d os => cell_regrown k4 d os⟩
end Go.Proofs.YtdkgdjdhmonccaaDoor

namespace Go.Proofs.YtdkgdjdhmonccaaDoor
open Go.RowKit Go.Sort
set_option linter.unusedVariables false
set_option linter.unusedSimpArgs false

theorem frame_one (k f s r : Nat) (hk : k < 256 ∧ f < 256 ∧ s < 65536 ∧ r < 256) (n : Nat) (l : List UInt8) (hl : l.length = n) (h8 : n ≤ 8) : ∃ (F : Fr) (E : Int),
    ((riI ⟨k, f, s, r⟩ = true ∧ E = 0 ∧ F.id = mkI ⟨k, f, s, r⟩ ∧ F.ext = true ∧ F.rem = false ∧ F.dlc = F.data.length ∧ F.data.length ≤ 8) ∨ (riI ⟨k, f, s, r⟩ = false ∧ E = 150)) ∧
    (∀ w a c, WdO w → RL bv w a n c l → Calls Tryd.prog 11 #[.agg #[.int .u8 (k : Int), .int .u8 (f : Int), .int .u16 (s : Int), .int .u8 (r : Int)], .slice a n c] w fun e w' => ∃ a2 c2, e = .returned (.tuple #[.agg (frV F a2 c2), .int .i64 E]) ∧ Below w.heap.size w w') := by
  cases h : riI ⟨k, f, s, r⟩
  · exact ⟨⟨0, false, false, 0, []⟩, 150, .inr ⟨rfl, rfl⟩, fun w a c hw hr0 => (idFrame_no w hw k f s r hk.1 hk.2.1 hk.2.2.1 hk.2.2.2 a n c h).mono fun e w' ⟨h1, h2⟩ => ⟨none, 0, h1, h2⟩⟩
  · subst hl
    exact ⟨⟨mkI ⟨k, f, s, r⟩, true, false, l.length, l⟩, 0, .inl ⟨rfl, rfl, rfl, rfl, rfl, rfl, h8⟩, fun w a c hw hr0 => (idFrame_ok w hw k f s r hk.1 hk.2.1 hk.2.2.1 hk.2.2.2 a _ c h h8 l hr0).mono fun e w' ⟨a2, c2, h1, h3, h2⟩ => ⟨a2, c2, h1, h2⟩⟩

/-- The frame of an ident. -/
structure FrI (F : Fr) (i : Idt) : Prop where
  ri : riI i = true
  sq : i.s < 65536
  id : F.id = mkI i
  ext : F.ext = true
  rem : F.rem = false
  dlc : F.dlc = F.data.length
  len : F.data.length ≤ 8

section
variable {F G : Fr} {i j : Idt} (h : FrI F i) (g : FrI G j)
include h
theorem FrI.lt : F.id < 335544320 := by rw [h.id]; exact mk_lt h.ri h.sq
theorem FrI.right : riF F.id F.ext F.rem F.dlc F.data.length = true := by
  have := h.lt
  have h8 := h.len
  unfold riF lonF
  rw [h.ext, h.rem, h.dlc]
  simp
  omega
include g
theorem FrI.ids : decide ((F.id : Int) < (G.id : Int)) = lsI i j := by
  rw [ls_mk h.ri g.ri h.sq g.sq, h.id, g.id]
  exact decide_eq_decide.2 (by omega)
theorem FrI.keys : decide ((keyF F.id F.ext F.rem : Int) < (keyF G.id G.ext G.rem : Int)) = lsI i j := by
  have h1 := h.lt
  have h2 := g.lt
  rw [← h.ids g, h.ext, h.rem, g.ext, g.rem]
  have := key_mono (x := F.id) (y := G.id) (by omega) (by omega)
  simp only [decide_eq_decide] at this ⊢
  omega
theorem FrI.before (w : World) (a1 a2 : Option Addr) (c1 c2 : Nat) : Calls Tryd.prog 23 #[.agg (frV F a1 c1), .agg (frV G a2 c2)] w fun e w' => e = .returned (.bool (lsI i j)) ∧ Below w.heap.size w w' := by
  have h1 := h.lt
  have h2 := g.lt
  have h3 := h.len
  have h4 := g.len
  have hb := before_any w F.id F.ext F.rem F.dlc a1 F.data.length c1 G.id G.ext G.rem G.dlc a2 G.data.length c2 (by omega) (by rw [h.dlc]; omega) (by omega) (by rw [g.dlc]; omega)
  rw [h.right, g.right, key_before] at hb
  simp only [Bool.true_and] at hb
  have e : decide (keyF F.id F.ext F.rem < keyF G.id G.ext G.rem) = lsI i j := by
    rw [← h.keys g]; exact decide_eq_decide.2 (by omega)
  rw [e] at hb
  exact hb
end
section
variable {F : Fr} {i : Idt} (h : FrI F i)
include h
theorem FrI.key (w : World) (a : Option Addr) (c : Nat) : Calls Tryd.prog 22 #[.agg (frV F a c)] w fun e w' => e = .returned (.int .u32 (keyF F.id F.ext F.rem : Int)) ∧ Below w.heap.size w w' :=
  key_any w F.id F.ext F.rem F.dlc a F.data.length c (by have := h.lt; omega)
end

/-- A frame laid in new memory, in a region that draws its order. -/
theorem draw_allocF {md : Region.Mode} {ops : Array Oper} {Q : Exit → Act → World → Prop} {a : Act} {w : World} {o : Oper} {K : Act → World → Prop} (hgd : o.guard = none) (ho : o.op = .alloc 28)
    (h : ∀ w' g, w'.heap[g]? = some (.cells #[.int .u32 0, .bool false, .bool false, .int .u8 0, .slice none 0 0] 28 (0, 0)) → Below w.heap.size w w' → w.heap.size ≤ g → g < w'.heap.size → K (a.put o.dst (.pointer (some ⟨g, 0, none⟩))) w') :
    if Region.wanted o (yielded ops a.tmps) = true then Oper.wp Tryd.prog o a w K Q else K (a.put o.dst undef) w := by
  rw [if_pos (by simp [Region.wanted, hgd])]
  unfold Oper.wp
  have e : (execOp a.eval o).run Tryd.prog w = .ok (.value (.pointer (some ⟨w.heap.size, 0, none⟩))) (w.alloc (.cells #[.int .u32 0, .bool false, .bool false, .int .u8 0, .slice none 0 0] 28)) := by
    obtain ⟨d, op, t, p, af, gd⟩ := o
    dsimp only at ho
    subst ho
    kernel_rfl
  rw [e]
  exact h _ _ (heap_alloc_new _ _) (bnew0 w _) (Nat.le_refl _) (by simp)
end Go.Proofs.YtdkgdjdhmonccaaDoor

namespace Go.Proofs.YtdkgdjdhmonccaaDoor
open Go.RowKit Go.ChangeShapes Go.WideShapes Go.ChangeAt Go.WideMaps Go.WideElems
set_option linter.unusedVariables false

noncomputable def laid15 : List (String × DataW Unit) := [("jackstay/ident.wide", Rows.laid_jackstay_ident_wide)]

theorem gWide : Tryd.prog.globalNamed "jackstay/ident.wide" = some 0 := by kernel_rfl
theorem tWide : (Tryd.prog.globals[0]?).map (·.type) = some 50 := by kernel_rfl

theorem door15_met (os : Os) (args : Array Value) : laidMetH Tryd.prog laid15 ((World.doorLaid Tryd.prog 400 os).forCall (fun _ _ => 0) ⟨#[], args, []⟩).memory :=
  laidMetH_of_parts3 (fuel := 8) (laidMet_of_run' 8 (by kernel_rfl) (by kernel_rfl)) (by kernel_rfl) (by kernel_rfl)

theorem of_laid15 {W : World} (h : laidMetH Tryd.prog laid15 W) : WdO W := by
  rw [MakeChecks.laidMetH_plain _ _ _ (by kernel_rfl)] at h
  obtain ⟨ps, ⟨g0, t0, cs0, f0, p0, q0, hg0, ht0, hv0, hd0, _⟩, _, _⟩ := h
  obtain rfl := Option.some.inj (gWide.symm.trans hg0)
  obtain rfl := Option.some.inj (tWide.symm.trans ht0)
  obtain ⟨xs, m1, rfl, hx1, hlen, hn3, hel⟩ := DataW.trod_array Tryd.underlying50 hd0
  have c3 : Tryd.prog.cellsOf 49 = 1 := by kernel_rfl
  simp only [Prod.mk.injEq, Rows.laid_jackstay_ident_wide, DataW.agg.injEq] at hx1
  match xs, hn3, hx1, hel with
  | [x0, x1, x2, x3], _, hx1, hel =>
    have cell : ∀ (i : Nat) (z : Int) (x : DataW Unit × List MemPlace), i < 4 → [x0, x1, x2, x3][i]? = some x → x.1 = .lit (.int .u64 z) → W.cell? ⟨0, i, none⟩ = some (.int .u64 z) := by
      intro i z x hi hx hz
      obtain ⟨k, e1, e2, _⟩ := DataW.trod_int Tryd.underlying49 ((hel i hi).trans hx)
      have hk : k = z := by rw [e2] at hz; simpa using hz
      subst hk
      rw [c3, Nat.mul_one] at e1
      rw [World.var?_cell hg0 hv0 i]
      have h2 := congrArg (fun l => l[0]?) e1
      simpa [List.getElem?_take, List.getElem?_drop] using h2
    simp only [List.map_cons, List.map_nil, List.cons.injEq] at hx1
    exact ⟨cell 0 4 x0 (by decide) rfl hx1.1.1.symm, cell 1 5 x1 (by decide) rfl hx1.1.2.1.symm, cell 2 16 x2 (by decide) rfl hx1.1.2.2.1.symm, cell 3 4 x3 (by decide) rfl hx1.1.2.2.2.1.symm⟩
end Go.Proofs.YtdkgdjdhmonccaaDoor

namespace Go.Proofs.YtdkgdjdhmonccaaDoor
open Go.RowKit Go.ChangeShapes Go.WideShapes Go.ChangeAt
set_option linter.unusedVariables false

set_option maxRecDepth 100000 in
theorem arg_ident {H : Type} {enc : TypeId × Value → H} {W : World} {r : Reach} {b0 : Nat} {v : Value} {d : DataW H} {p : List MemPlace} (hv : Value.okWide Tryd.prog W r b0 24 v) (h : DataW.Trod enc Tryd.prog W 0 (fun _ => true) true 24 v d p) :
    ∃ (k f s r : Nat), v = .agg #[.int .u8 (k : Int), .int .u8 (f : Int), .int .u16 (s : Int), .int .u8 (r : Int)] ∧ (k < 256 ∧ f < 256 ∧ s < 65536 ∧ r < 256) := by
  obtain ⟨v0, v1, v2, v3, y0, y1, y2, y3, n, rfl, _, _, h0, h1, h2, h3⟩ := Go.Joins.open_agg4 Tryd.underlying24 (by kernel_rfl) (show Tryd.prog.cellsOf 24 = 4 by kernel_rfl) hv h
  obtain ⟨x0, k0, _, z0⟩ := DataW.trod_int (show Tryd.prog.underlying 5 = some (.int .u8) by kernel_rfl) h0
  obtain ⟨x1, k1, _, z1⟩ := DataW.trod_int (show Tryd.prog.underlying 5 = some (.int .u8) by kernel_rfl) h1
  obtain ⟨x2, k2, _, z2⟩ := DataW.trod_int (show Tryd.prog.underlying 22 = some (.int .u16) by kernel_rfl) h2
  obtain ⟨x3, k3, _, z3⟩ := DataW.trod_int (show Tryd.prog.underlying 5 = some (.int .u8) by kernel_rfl) h3
  simp at k0 k1 k2 k3
  subst k0 k1 k2 k3
  have w0 : 0 ≤ x0 ∧ x0 ≤ 255 := by simpa [Lit.wf, IntKind.min, IntKind.max, IntKind.signed, IntKind.bits] using z0
  have w1 : 0 ≤ x1 ∧ x1 ≤ 255 := by simpa [Lit.wf, IntKind.min, IntKind.max, IntKind.signed, IntKind.bits] using z1
  have w2 : 0 ≤ x2 ∧ x2 ≤ 65535 := by simpa [Lit.wf, IntKind.min, IntKind.max, IntKind.signed, IntKind.bits] using z2
  have w3 : 0 ≤ x3 ∧ x3 ≤ 255 := by simpa [Lit.wf, IntKind.min, IntKind.max, IntKind.signed, IntKind.bits] using z3
  obtain ⟨a0, rfl⟩ := Int.eq_ofNat_of_zero_le w0.1
  obtain ⟨a1, rfl⟩ := Int.eq_ofNat_of_zero_le w1.1
  obtain ⟨a2, rfl⟩ := Int.eq_ofNat_of_zero_le w2.1
  obtain ⟨a3, rfl⟩ := Int.eq_ofNat_of_zero_le w3.1
  exact ⟨a0, a1, a2, a3, rfl, by omega, by omega, by omega, by omega⟩
end Go.Proofs.YtdkgdjdhmonccaaDoor
