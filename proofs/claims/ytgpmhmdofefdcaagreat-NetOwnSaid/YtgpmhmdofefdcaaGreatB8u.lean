/-
  Contracts: Drive, Give.
  Contracts: Give; SameHappen.
  Contract: Give.
  Words on boxes that hold controllers, in the statements; what a statement asks of a state, as a Bool.
-/
import Derived.Test.YtgpmhmdofefdcaaGreatB8o
import Derived.Test.YtgpmhmdofefdcaaGreatB8r
namespace Go.Proofs.YtgpmhmdofefdcaaGreat
open Go.RowKit Go.Sort
set_option linter.unusedVariables false

section
variable (w : World) (c : Ct) (s : Sl)

/-- Drive in a phase that is no frame. -/
theorem drive_phase (p : Nat) (hp : c.ph = p) (h1 : p ≠ 1) (h10 : p < 10) (v : Bool) (hv : v = dvC c) :
    Calls Tryz.prog 43 #[.agg (ctA c s)] w fun e w' => e = .returned (.bool v) ∧ Below w.heap.size w w' := by
  have hb := heap_alloc_new w (.cells (ctA c s) 54)
  have q0 : (ctA c s)[0]? = some (.int .u8 (c.ph : Int)) := rfl
  have q3 : (ctA c s)[7]? = some (.bool c.has) := rfl
  have g1 := bnew0 w (.cells (ctA c s) 54)
  unfold dvC at hv
  rw [hp] at q0 hv
  clear hb hp
  have hcase : p = 0 ∨ p = 2 ∨ p = 3 ∨ p = 4 ∨ p = 5 ∨ p = 6 ∨ p = 7 ∨ p = 8 ∨ p = 9 := by omega
  clear h1 h10
  rcases hcase with rfl | rfl | rfl | rfl | rfl | rfl | rfl | rfl | rfl
  all_goals
    simp only [show ((0 : Nat) : Int) = 0 from rfl, show ((2 : Nat) : Int) = 2 from rfl, show ((3 : Nat) : Int) = 3 from rfl, show ((4 : Nat) : Int) = 4 from rfl, show ((5 : Nat) : Int) = 5 from rfl, show ((6 : Nat) : Int) = 6 from rfl, show ((7 : Nat) : Int) = 7 from rfl, show ((8 : Nat) : Int) = 8 from rfl, show ((9 : Nat) : Int) = 9 from rfl] at q0
    simp at hv
    subst hv
    go_enter Tryz.func43, Tryz.ntmps43
    go_wp2
    go_ret
    exact ⟨rfl, g1⟩

theorem drive_any (h : CtR w c s) (h10 : c.ph < 10) (hs : c.ph = 1 → c.sends = true → c.pos < c.wire.length) :
    Calls Tryz.prog 43 #[.agg (ctA c s)] w fun e w' => e = .returned (.bool (dvC c)) ∧ Below w.heap.size w w' := by
  by_cases h1 : c.ph = 1
  · have hb := heap_alloc_new w (.cells (ctA c s) 54)
    have g1 := bnew0 w (.cells (ctA c s) 54)
    have k1 := h.below g1
    have q0 : (ctA c s)[0]? = some (.int .u8 (c.ph : Int)) := rfl
    have q13 : (ctA c s)[13]? = some (.bool c.sends) := rfl
    have q17 : (ctA c s)[17]? = some (.bool c.tk.b) := rfl
    have q18 : (ctA c s)[18]? = some (.int .u8 (c.tk.m : Int)) := rfl
    have q19 : (ctA c s)[19]? = some (.slice s.ta c.tk.l.length s.tc) := rfl
    have q20 : (ctA c s)[20]? = some (.int .u8 (c.tk.p : Int)) := rfl
    have q21 : (ctA c s)[21]? = some (.bool c.tk.fi) := rfl
    rw [h1] at q0
    simp only [show ((1 : Nat) : Int) = 1 from rfl] at q0
    have hD := fun w1 => drive7_any w1 c.tk.b c.tk.m s.ta c.tk.l.length s.tc c.tk.p c.tk.fi
    have hv : dvC c = if c.sends then c.wire[c.pos]?.getD false else drT c.tk.p c.tk.fi := by unfold dvC; rw [if_neg (by omega), if_pos h1]
    cases hsd : c.sends
    · rw [hsd] at q13 hv
      simp only [Bool.false_eq_true, if_false] at hv
      rw [hv]
      generalize drT c.tk.p c.tk.fi = v at *
      clear h1 hsd hv hs h10
      go_enter Tryz.func43, Tryz.ntmps43
      go_wp2_with (go_at_call 55; (with_reducible refine (hD _).mono ?_); rintro e w1 ⟨rfl, g2⟩)
      go_ret
      exact ⟨rfl, bstep g1 g2⟩
    · have hW := onWire_any (w.alloc (.cells (ctA c s) 54)) c s k1.wi (hs h1 hsd)
      rw [hsd] at q13 hv
      simp only [if_true] at hv
      rw [hv]
      generalize c.wire[c.pos]?.getD false = v at *
      clear h1 hsd hv hs h10 hD
      go_enter Tryz.func43, Tryz.ntmps43
      go_wp2_with (first
        | (go_at_call 54; (with_reducible refine hW.mono ?_); rintro e w1 ⟨rfl, g2⟩)
        | (with_reducible refine wpList_loadR rowC rfl _ rfl _ rfl hb rfl ?_))
      go_ret
      exact ⟨rfl, bstep g1 g2⟩
  · exact drive_phase w c s c.ph rfl h1 h10 _ rfl
end
end Go.Proofs.YtgpmhmdofefdcaaGreat

namespace Go.Proofs.YtgpmhmdofefdcaaGreat
open Go.RowKit Go.Sort
set_option linter.unusedVariables false

/-- The cells of a frame. -/
abbrev frA (F : Fr) (a : Option Addr) (k : Nat) : Array Value := #[.int .u32 (F.id : Int), .bool F.ext, .bool F.rem, .int .u8 (F.dlc : Int), .slice a F.data.length k]

end Go.Proofs.YtgpmhmdofefdcaaGreat

namespace Go.Proofs.YtgpmhmdofefdcaaGreat
open Go.RowKit Go.Sort
set_option linter.unusedVariables false

/-- What Give refuses: a wrong frame; a second one. -/
theorem give_no (w : World) (c : Ct) (s : Sl) (id : Nat) (ext rem : Bool) (dlc : Nat) (a : Option Addr) (n k : Nat) (hi : id < 4294967296) (hd : dlc < 256) (z : Int) (h : riF id ext rem dlc n = false ∧ z = 40 ∨ riF id ext rem dlc n = true ∧ c.has = true ∧ z = 5) :
    Calls Tryz.prog 31 #[.agg (ctA c s), .agg #[.int .u32 (id : Int), .bool ext, .bool rem, .int .u8 (dlc : Int), .slice a n k]] w fun e w' => e = .returned (.tuple #[.agg (ctA c0 sl0), .int .i64 z]) ∧ Below w.heap.size w w' := by
  have hb0 := bx_alloc (.cells ctZ 54) (bx_alloc (.cells #[.int .u32 (id : Int), .bool ext, .bool rem, .int .u8 (dlc : Int), .slice a n k] 26) (heap_alloc_new w (.cells (ctA c s) 54)))
  have hr0 : (((w.alloc (.cells (ctA c s) 54)).alloc (.cells #[.int .u32 (id : Int), .bool ext, .bool rem, .int .u8 (dlc : Int), .slice a n k] 26)).alloc (.cells ctZ 54)).heap[w.heap.size + 2]? = some (.cells ctZ 54 (0, 0)) := by
    have := heap_alloc_new ((w.alloc (.cells (ctA c s) 54)).alloc (.cells #[.int .u32 (id : Int), .bool ext, .bool rem, .int .u8 (dlc : Int), .slice a n k] 26)) (.cells ctZ 54); rwa [heap_size_alloc, heap_size_alloc] at this
  have g0 : Below w.heap.size w (((w.alloc (.cells (ctA c s) 54)).alloc (.cells #[.int .u32 (id : Int), .bool ext, .bool rem, .int .u8 (dlc : Int), .slice a n k] 26)).alloc (.cells ctZ 54)) := bnew (bnew (bnew0 w _) _) _
  have hR := fun w1 => frRight_any w1 id ext rem dlc a n k hi hd
  rcases h with ⟨h1, rfl⟩ | ⟨h1, h2, rfl⟩
  · rw [h1] at hR
    clear h1
    go_enter Tryz.func31, Tryz.ntmps31
    go_wp2_with (first
      | (go_at_call 18; (with_reducible refine (hR _).mono ?_); rintro e w1 ⟨rfl, g1⟩; have hr1 := bx_below hr0 g1; have gg := bstep g0 g1)
      | (with_reducible refine wpList_storeR rowC rfl _ _ rfl _ _ rfl rfl hr1 rfl rfl (by kernel_rfl) ?_))
    exact bodyPost_ret (v := .tuple #[.agg (ctA c0 sl0), .int .i64 40]) (results_row1 rowC rfl _ _ _ rfl rfl (setRow_heap _ _ _ _ _ _ hr1) rfl) rfl ⟨rfl, below_setRow gg (by omega) _⟩
  · have q3 : (ctA c s)[7]? = some (.bool true) := by rw [← h2]; rfl
    rw [h1] at hR
    clear h1 h2
    go_enter Tryz.func31, Tryz.ntmps31
    go_wp2_with (first
      | (go_at_call 18; (with_reducible refine (hR _).mono ?_); rintro e w1 ⟨rfl, g1⟩; have hr1 := bx_below hr0 g1; have q7 : w1.cell? ⟨w.heap.size, 7, none⟩ = some (.bool true) := (bxC (bx_below hb0 g1) 7).trans q3; have gg := bstep g0 g1)
      | (with_reducible refine wpList_storeR rowC rfl _ _ rfl _ _ rfl rfl hr1 rfl rfl (by kernel_rfl) ?_))
    exact bodyPost_ret (v := .tuple #[.agg (ctA c0 sl0), .int .i64 5]) (results_row1 rowC rfl _ _ _ rfl rfl (setRow_heap _ _ _ _ _ _ hr1) rfl) rfl ⟨rfl, below_setRow gg (by omega) _⟩

theorem set6r_other {w : World} {g q : Nat} (hq : q ≠ g) (v0 v1 v2 v3 v4 v5 : Value) : ((((((w.setCell ⟨g, 7, none⟩ v0).setCell ⟨g, 8, none⟩ v1).setCell ⟨g, 9, none⟩ v2).setCell ⟨g, 10, none⟩ v3).setCell ⟨g, 11, none⟩ v4).setCell ⟨g, 12, none⟩ v5).drew.heap[q]? = w.heap[q]? := by
  rw [heap_drew, Below.heap_setCell _ _ _ _ hq, Below.heap_setCell _ _ _ _ hq, Below.heap_setCell _ _ _ _ hq, Below.heap_setCell _ _ _ _ hq, Below.heap_setCell _ _ _ _ hq, Below.heap_setCell _ _ _ _ hq]

theorem set6r_same {w : World} {g : Nat} {c : Ct} {s : Sl} {T : TypeId} (hb : w.heap[g]? = some (.cells (ctA c s) T (0, 0))) (F : Fr) (a : Option Addr) (k : Nat) :
    ((((((w.setCell ⟨g, 7, none⟩ (.bool true)).setCell ⟨g, 8, none⟩ (.int .u32 (F.id : Int))).setCell ⟨g, 9, none⟩ (.bool F.ext)).setCell ⟨g, 10, none⟩ (.bool F.rem)).setCell ⟨g, 11, none⟩ (.int .u8 (F.dlc : Int))).setCell ⟨g, 12, none⟩ (.slice a F.data.length k)).drew.heap[g]? =
      some (.cells (ctA { c with has := true, give := F } { s with da := a, dc := k }) T (0, 0)) := by
  rw [heap_drew]
  have e1 := heap_setCell_same w g 7 _ _ (.bool true) hb
  have e2 := heap_setCell_same _ g 8 _ _ (.int .u32 (F.id : Int)) e1
  have e3 := heap_setCell_same _ g 9 _ _ (.bool F.ext) e2
  have e4 := heap_setCell_same _ g 10 _ _ (.bool F.rem) e3
  have e5 := heap_setCell_same _ g 11 _ _ (.int .u8 (F.dlc : Int)) e4
  have e6 := heap_setCell_same _ g 12 _ _ (.slice a F.data.length k) e5
  rw [e6]
  rfl

theorem below_drew1 {B : Nat} {w W : World} (h : Below B w W) : Below B w W.drew := ⟨h.os, h.tape, h.output, h.size, h.block⟩
theorem set6r_below {w w1 : World} {B g : Nat} (h : Below B w w1) (hg : B ≤ g) (v0 v1 v2 v3 v4 v5 : Value) :
    Below B w ((((((w1.setCell ⟨g, 7, none⟩ v0).setCell ⟨g, 8, none⟩ v1).setCell ⟨g, 9, none⟩ v2).setCell ⟨g, 10, none⟩ v3).setCell ⟨g, 11, none⟩ v4).setCell ⟨g, 12, none⟩ v5).drew := by
  have e1 := Below.setCell (p := ⟨g, 7, none⟩) h hg v0
  have e2 := Below.setCell (p := ⟨g, 8, none⟩) e1 hg v1
  have e3 := Below.setCell (p := ⟨g, 9, none⟩) e2 hg v2
  have e4 := Below.setCell (p := ⟨g, 10, none⟩) e3 hg v3
  have e5 := Below.setCell (p := ⟨g, 11, none⟩) e4 hg v4
  have e6 := Below.setCell (p := ⟨g, 12, none⟩) e5 hg v5
  exact below_drew1 e6

set_option maxHeartbeats 1000000 in
theorem give_yes (w : World) (c : Ct) (s : Sl) (F : Fr) (hF : Good F) (a : Option Addr) (k : Nat) (h : CtR w c s) (h2 : RL bv w a F.data.length k F.data) (hh : c.has = false) (hw : c.wire.length ≤ 1000000) (ht : c.tk.l.length ≤ 1000000) :
    Calls Tryz.prog 31 #[.agg (ctA c s), .agg #[.int .u32 (F.id : Int), .bool F.ext, .bool F.rem, .int .u8 (F.dlc : Int), .slice a F.data.length k]] w fun e w' => ∃ s', e = .returned (.tuple #[.agg (ctA { c with has := true, give := F } s'), .int .i64 0]) ∧
      CtO w.heap.size w' { c with has := true, give := F } s' ∧ Below w.heap.size w w' := by
  have hb0 := bx_alloc (.cells ctZ 54) (bx_alloc (.cells #[.int .u32 (F.id : Int), .bool F.ext, .bool F.rem, .int .u8 (F.dlc : Int), .slice a F.data.length k] 26) (heap_alloc_new w (.cells (ctA c s) 54)))
  have hf0 : (((w.alloc (.cells (ctA c s) 54)).alloc (.cells #[.int .u32 (F.id : Int), .bool F.ext, .bool F.rem, .int .u8 (F.dlc : Int), .slice a F.data.length k] 26)).alloc (.cells ctZ 54)).heap[w.heap.size + 1]? = some (.cells #[.int .u32 (F.id : Int), .bool F.ext, .bool F.rem, .int .u8 (F.dlc : Int), .slice a F.data.length k] 26 (0, 0)) := by
    have := bx_alloc (.cells ctZ 54) (heap_alloc_new (w.alloc (.cells (ctA c s) 54)) (.cells #[.int .u32 (F.id : Int), .bool F.ext, .bool F.rem, .int .u8 (F.dlc : Int), .slice a F.data.length k] 26)); rwa [heap_size_alloc] at this
  have hr0 : (((w.alloc (.cells (ctA c s) 54)).alloc (.cells #[.int .u32 (F.id : Int), .bool F.ext, .bool F.rem, .int .u8 (F.dlc : Int), .slice a F.data.length k] 26)).alloc (.cells ctZ 54)).heap[w.heap.size + 2]? = some (.cells ctZ 54 (0, 0)) := by
    have := heap_alloc_new ((w.alloc (.cells (ctA c s) 54)).alloc (.cells #[.int .u32 (F.id : Int), .bool F.ext, .bool F.rem, .int .u8 (F.dlc : Int), .slice a F.data.length k] 26)) (.cells ctZ 54); rwa [heap_size_alloc, heap_size_alloc] at this
  have g0 : Below w.heap.size w (((w.alloc (.cells (ctA c s) 54)).alloc (.cells #[.int .u32 (F.id : Int), .bool F.ext, .bool F.rem, .int .u8 (F.dlc : Int), .slice a F.data.length k] 26)).alloc (.cells ctZ 54)) := bnew (bnew (bnew0 w _) _) _
  have hri : riF F.id F.ext F.rem F.dlc F.data.length = true := (good_iff F _ rfl).2 hF
  have hl8 := (riF_long hri)
  have hR := fun w1 => frRight_any w1 F.id F.ext F.rem F.dlc a F.data.length k (by omega) (by omega)
  rw [hri] at hR
  have hA := fun (w1 : World) (k1 : CtR w1 { c with has := true, give := F } { s with da := a, dc := k }) => apart_any w1 { c with has := true, give := F } { s with da := a, dc := k } k1 (by show F.data.length ≤ 1000000; omega) hw ht
  have q3 : (ctA c s)[7]? = some (.bool false) := by rw [← hh]; rfl
  clear hri hl8 hF
  go_enter Tryz.func31, Tryz.ntmps31
  go_upto_region 5 with (first
    | (go_at_call 18; (with_reducible refine (hR _).mono ?_); rintro e w1 ⟨rfl, g1⟩
       have hb1 := bx_below hb0 g1
       have hf1 := bx_below hf0 g1
       have hr1 := bx_below hr0 g1
       have q7 : w1.cell? ⟨w.heap.size, 7, none⟩ = some (.bool false) := (bxC hb1 7).trans q3
       have gg := bstep g0 g1))
  obtain ⟨k0, k1, k2, k3, k4⟩ := bx5 hf1
  have q8 : w1.cell? ⟨w.heap.size, 8, none⟩ = some (.int .u32 (c.give.id : Int)) := bxC hb1 8
  have q9 : w1.cell? ⟨w.heap.size, 9, none⟩ = some (.bool c.give.ext) := bxC hb1 9
  have q10 : w1.cell? ⟨w.heap.size, 10, none⟩ = some (.bool c.give.rem) := bxC hb1 10
  have q11 : w1.cell? ⟨w.heap.size, 11, none⟩ = some (.int .u8 (c.give.dlc : Int)) := bxC hb1 11
  have q12 : w1.cell? ⟨w.heap.size, 12, none⟩ = some (.slice s.da c.give.data.length s.dc) := bxC hb1 12
  have f1 := bx_thaw hb1
  go_region
  have hb2 : ((((((w1.setCell ⟨w.heap.size, 7, none⟩ (.bool true)).setCell ⟨w.heap.size, 8, none⟩ (.int .u32 (F.id : Int))).setCell ⟨w.heap.size, 9, none⟩ (.bool F.ext)).setCell ⟨w.heap.size, 10, none⟩ (.bool F.rem)).setCell ⟨w.heap.size, 11, none⟩ (.int .u8 (F.dlc : Int))).setCell ⟨w.heap.size, 12, none⟩ (.slice a F.data.length k)).drew.heap[w.heap.size]? = some (.cells (ctA { c with has := true, give := F } { s with da := a, dc := k }) 54 (0, 0)) :=
    set6r_same hb1 F a k
  have hr2 : ((((((w1.setCell ⟨w.heap.size, 7, none⟩ (.bool true)).setCell ⟨w.heap.size, 8, none⟩ (.int .u32 (F.id : Int))).setCell ⟨w.heap.size, 9, none⟩ (.bool F.ext)).setCell ⟨w.heap.size, 10, none⟩ (.bool F.rem)).setCell ⟨w.heap.size, 11, none⟩ (.int .u8 (F.dlc : Int))).setCell ⟨w.heap.size, 12, none⟩ (.slice a F.data.length k)).drew.heap[w.heap.size + 2]? = some (.cells ctZ 54 (0, 0)) :=
    (set6r_other (by omega) _ _ _ _ _ _).trans hr1
  have gg2 : Below w.heap.size w ((((((w1.setCell ⟨w.heap.size, 7, none⟩ (.bool true)).setCell ⟨w.heap.size, 8, none⟩ (.int .u32 (F.id : Int))).setCell ⟨w.heap.size, 9, none⟩ (.bool F.ext)).setCell ⟨w.heap.size, 10, none⟩ (.bool F.rem)).setCell ⟨w.heap.size, 11, none⟩ (.int .u8 (F.dlc : Int))).setCell ⟨w.heap.size, 12, none⟩ (.slice a F.data.length k)).drew :=
    set6r_below gg (Nat.le_refl _) _ _ _ _ _ _
  clear k0 k1 k2 k3 k4 q7 q8 q9 q10 q11 q12 f1 hb1 hf1 hr1 gg hb0 hf0 hr0 g0 g1 hR
  generalize ((((((w1.setCell ⟨w.heap.size, 7, none⟩ (.bool true)).setCell ⟨w.heap.size, 8, none⟩ (.int .u32 (F.id : Int))).setCell ⟨w.heap.size, 9, none⟩ (.bool F.ext)).setCell ⟨w.heap.size, 10, none⟩ (.bool F.rem)).setCell ⟨w.heap.size, 11, none⟩ (.int .u8 (F.dlc : Int))).setCell ⟨w.heap.size, 12, none⟩ (.slice a F.data.length k)).drew = W at *
  have h3 : CtR W { c with has := true, give := F } { s with da := a, dc := k } := ⟨h2.below gg2, h.wi.below gg2, h.ti.below gg2⟩
  have z2 := gg2.size
  have l2 := bx_lt hr2
  go_wp2_with (first
    | (with_reducible refine wpList_loadR rowC rfl _ rfl _ rfl hb2 rfl ?_)
    | (go_at_call 42; (with_reducible refine (hA _ h3).mono ?_); rintro e w4 ⟨s4, rfl, o4, g4⟩; have hr4 := bx_below hr2 g4; have gg4 := bstep gg2 g4)
    | (with_reducible refine wpList_storeR rowC rfl _ _ rfl _ _ rfl rfl hr4 rfl rfl (ct_ones _ _) ?_))
  have o5 := o4.setRow (o4.nbs l2) (ctA { c with has := true, give := F } s4)
  exact bodyPost_ret (v := .tuple #[.agg (ctA { c with has := true, give := F } s4), .int .i64 0]) (results_row1 rowC rfl _ _ _ rfl rfl (setRow_heap _ _ _ _ _ _ hr4) rfl) rfl ⟨_, rfl, o5.mono z2, below_setRow gg4 (by omega) _⟩
end Go.Proofs.YtgpmhmdofefdcaaGreat

namespace Go.Proofs.YtgpmhmdofefdcaaGreat
open Go.RowKit Go.Sort
set_option linter.unusedVariables false

/-- A box that holds a controller, whose slices lie elsewhere. -/
structure Cb (w : World) (g : Nat) (c : Ct) (s : Sl) : Prop where
  box : w.heap[g]? = some (.cells (ctA c s) 54 (0, 0))
  o : CtO 0 w c s
  nb : NBs s g

section
variable {w w1 w2 : World} {g q B : Nat} {c c' : Ct} {s s' : Sl}
theorem Cb.lt (h : Cb w g c s) : g < w.heap.size := bx_lt h.box
theorem Cb.below (h : Cb w g c s) (k : Below w.heap.size w w1) : Cb w1 g c s := ⟨bx_below h.box k, h.o.below k, h.nb⟩
theorem Cb.alloc (h : Cb w g c s) (o : Obj) : Cb (w.alloc o) g c s := ⟨bx_alloc o h.box, h.o.alloc o, h.nb⟩
theorem Cb.drew (h : Cb w g c s) : Cb w.drew g c s := ⟨h.box, ⟨h.o.da, h.o.wi, h.o.ti⟩, h.nb⟩
/-- Another block is written. -/
theorem Cb.other (h : Cb w g c s) (hq : g ≠ q) (hn : NBs s q) (cs : Array Value) : Cb (w.setRow q cs) g c s := ⟨(setRow_other _ _ _ _ hq).trans h.box, h.o.setRow hn cs, h.nb⟩
theorem Cb.cell (h : Cb w g c s) (hq : g ≠ q) (hn : NBs s q) (i : Nat) (v : Value) : Cb (w.setCell ⟨q, i, none⟩ v) g c s := ⟨(Below.heap_setCell _ _ _ _ hq).trans h.box, h.o.setCell hn v, h.nb⟩
/-- The box is written anew. -/
theorem Cb.put (hb : w.heap[g]? = some (.cells (ctA c s) 54 (0, 0))) (ho : CtO B w c' s') (hn : NBs s' g) : Cb (w.setRow g (ctA c' s')) g c' s' := ⟨setRow_heap _ _ _ _ _ _ hb, (ho.mono (Nat.zero_le _)).setRow hn _, hn⟩
theorem Cb.r (h : Cb w g c s) : CtR w c s := h.o.r
end

/-- What Step asks of a controller, as a Bool. -/
def okB (c : Ct) : Bool :=
  decide (c.ph < 10) && decide (c.n ≤ 1000000000) && (decide (c.ph = 9) || decide (moC c.cf ≤ 1)) && (!c.has || (decide (c.give.id ≤ if c.give.ext then 536870911 else 2047) && decide (c.give.dlc ≤ 15) && decide (c.give.data.length = lonF c.give.rem c.give.dlc))) &&
    decide (c.give.data.length ≤ 1000000) && decide (c.wire.length ≤ 100000) && decide (c.tk.l.length ≤ 5000) && (decide (c.tk.m ≤ 5) && (!decide (c.tk.m = 0) || !c.tk.b) && decide (c.tk.p ≤ 255) && (!decide (c.tk.p = 9) || (c.tk.fi && !decide (c.tk.m = 5)))) &&
    (!decide (c.ph = 1) || !c.sends || (decide (c.pos < c.wire.length) && (!decide (c.pos + 9 = c.wire.length) || c.wire[c.pos]?.getD false) && decide (1 ≤ c.tk.l.length))) && (!decide (c.ph = 6) || decide (c.n < 8))

theorem ok_of {c : Ct} (h : okB c = true) : StepOK c := by
  unfold okB at h
  simp only [Bool.and_eq_true, Bool.or_eq_true, Bool.not_eq_true', decide_eq_true_eq, decide_eq_false_iff_not] at h
  obtain ⟨⟨⟨⟨⟨⟨⟨⟨⟨h1, h2⟩, h3⟩, h4⟩, h5⟩, h6⟩, h7⟩, ⟨⟨⟨h8, h9⟩, h10⟩, h11⟩⟩, h12⟩, h13⟩ := h
  refine ⟨h1, h2, fun e => h3.resolve_left e, fun e => ?_, h5, by omega, by omega, fun _ => ⟨⟨h8, fun e => ?_⟩, by omega, h10, fun e => ?_⟩, fun e1 e2 => ?_, fun e => ?_⟩
  · rcases h4 with h4 | h4
    · rw [h4] at e; cases e
    · exact ⟨h4.1.1, h4.1.2, h4.2⟩
  · rcases h9 with h9 | h9
    · exact absurd e h9
    · exact h9
  · rcases h11 with h11 | h11
    · exact absurd e h11
    · exact ⟨h11.1, h11.2⟩
  · rcases h12 with (h12 | h12) | h12
    · exact absurd e1 h12
    · rw [h12] at e2; cases e2
    · refine ⟨h12.1.1, h6, fun e => ?_, h12.2⟩
      rcases h12.1.2 with k | k
      · exact absurd e k
      · exact k
  · rcases h13 with h13 | h13
    · exact absurd e h13
    · exact h13
end Go.Proofs.YtgpmhmdofefdcaaGreat
