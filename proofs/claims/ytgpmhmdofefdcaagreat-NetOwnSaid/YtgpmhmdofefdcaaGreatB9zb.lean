/-
  Contract: ctl.Drop.
  Contract: Drop of a net.
  Contract: jackstaylow.Among. An append of wide elements (a Ctl has 184 bytes).
  A list of nets, each of which owns its lists; what is written into them.
  The list of nets that NetOwn lays beside: it grows, a net of its own at a time.
-/
import Derived.Test.YtgpmhmdofefdcaaGreatB8u
import Derived.Test.YtgpmhmdofefdcaaGreatB9x
namespace Go.Proofs.YtgpmhmdofefdcaaGreat
open Go.RowKit Go.Sort
set_option linter.unusedVariables false

section
variable {w : World} {c : Ct} {s : Sl}

set_option maxHeartbeats 1000000 in
/-- No frame, or one that is being sent. -/
theorem drop_no (h : CtR w c s) (hd : c.give.data.length ≤ 1000000) (hw : c.wire.length ≤ 1000000) (ht : c.tk.l.length ≤ 1000000) (hn : c.has = false ∨ c.has = true ∧ c.sends = true) :
    Calls Tryz.prog 33 #[.agg (ctA c s)] w fun e w' => ∃ s', e = .returned (.tuple #[.agg (ctA c s'), .bool false]) ∧ CtO w.heap.size w' c s' ∧ Below w.heap.size w w' := by
  have hb0 : ((w.alloc (.cells (ctA c s) 54)).alloc (.cells ctZ 54)).heap[w.heap.size]? = some (.cells (ctA c s) 54 (0, 0)) := bx_alloc _ (heap_alloc_new w _)
  have hr0 : ((w.alloc (.cells (ctA c s) 54)).alloc (.cells ctZ 54)).heap[w.heap.size + 1]? = some (.cells ctZ 54 (0, 0)) := by
    have := heap_alloc_new (w.alloc (.cells (ctA c s) 54)) (.cells ctZ 54); rwa [heap_size_alloc] at this
  have g0 : Below w.heap.size w ((w.alloc (.cells (ctA c s) 54)).alloc (.cells ctZ 54)) := bnew (bnew0 w _) _
  have z0 : ((w.alloc (.cells (ctA c s) 54)).alloc (.cells ctZ 54)).heap.size = w.heap.size + 2 := by simp
  have hA := apart_any _ c s (h.below g0) hd hw ht
  rw [z0] at hA
  rcases hn with hn | ⟨hn, hs⟩
  · have q3 : (ctA c s)[7]? = some (.bool false) := by rw [← hn]; rfl
    have q7 := (bxC hb0 7).trans q3
    clear hn q3
    go_enter Tryz.func33, Tryz.ntmps33
    go_wp2_with (first
      | (with_reducible refine wpList_loadR rowC rfl _ rfl _ rfl hb0 rfl ?_)
      | (go_at_call 42; (with_reducible refine hA.mono ?_); rintro e w4 ⟨s4, rfl, o4, g4⟩; rw [← z0] at g4; have hr4 := bx_below hr0 g4; have gg4 := bstep g0 g4)
      | (with_reducible refine wpList_storeR rowC rfl _ _ rfl _ _ rfl rfl hr4 rfl rfl (ct_ones _ _) ?_))
    have o5 := o4.setRow (o4.nbs (show w.heap.size + 1 < w.heap.size + 2 by omega)) (ctA c s4)
    exact bodyPost_ret (v := .tuple #[.agg (ctA c s4), .bool false]) (results_row1 rowC rfl _ _ _ rfl rfl (setRow_heap _ _ _ _ _ _ hr4) rfl) rfl ⟨_, rfl, o5.mono (by omega), below_setRow gg4 (by omega) _⟩
  · have q3 : (ctA c s)[7]? = some (.bool true) := by rw [← hn]; rfl
    have q7 := (bxC hb0 7).trans q3
    have q4 : (ctA c s)[13]? = some (.bool true) := by rw [← hs]; rfl
    have q13 := (bxC hb0 13).trans q4
    clear hn hs q3 q4
    go_enter Tryz.func33, Tryz.ntmps33
    go_wp2_with (first
      | (with_reducible refine wpList_loadR rowC rfl _ rfl _ rfl hb0 rfl ?_)
      | (go_at_call 42; (with_reducible refine hA.mono ?_); rintro e w4 ⟨s4, rfl, o4, g4⟩; rw [← z0] at g4; have hr4 := bx_below hr0 g4; have gg4 := bstep g0 g4)
      | (with_reducible refine wpList_storeR rowC rfl _ _ rfl _ _ rfl rfl hr4 rfl rfl (ct_ones _ _) ?_))
    have o5 := o4.setRow (o4.nbs (show w.heap.size + 1 < w.heap.size + 2 by omega)) (ctA c s4)
    exact bodyPost_ret (v := .tuple #[.agg (ctA c s4), .bool false]) (results_row1 rowC rfl _ _ _ rfl rfl (setRow_heap _ _ _ _ _ _ hr4) rfl) rfl ⟨_, rfl, o5.mono (by omega), below_setRow gg4 (by omega) _⟩

theorem set6z_same {w : World} {g : Nat} {c : Ct} {s : Sl} {T : TypeId} (hb : w.heap[g]? = some (.cells (ctA c s) T (0, 0))) :
    ((((((w.setCell ⟨g, 7, none⟩ (.bool false)).setCell ⟨g, 8, none⟩ (.int .u32 0)).setCell ⟨g, 9, none⟩ (.bool false)).setCell ⟨g, 10, none⟩ (.bool false)).setCell ⟨g, 11, none⟩ (.int .u8 0)).setCell ⟨g, 12, none⟩ (.slice none 0 0)).heap[g]? =
      some (.cells (ctA { c with has := false, give := zeroFr } { s with da := none, dc := 0 }) T (0, 0)) := by
  have e1 := heap_setCell_same w g 7 _ _ (.bool false) hb
  have e2 := heap_setCell_same _ g 8 _ _ (.int .u32 0) e1
  have e3 := heap_setCell_same _ g 9 _ _ (.bool false) e2
  have e4 := heap_setCell_same _ g 10 _ _ (.bool false) e3
  have e5 := heap_setCell_same _ g 11 _ _ (.int .u8 0) e4
  have e6 := heap_setCell_same _ g 12 _ _ (.slice none 0 0) e5
  rw [e6]
  rfl
theorem set6z_other {w : World} {g q : Nat} (hq : q ≠ g) (v0 v1 v2 v3 v4 v5 : Value) : ((((((w.setCell ⟨g, 7, none⟩ v0).setCell ⟨g, 8, none⟩ v1).setCell ⟨g, 9, none⟩ v2).setCell ⟨g, 10, none⟩ v3).setCell ⟨g, 11, none⟩ v4).setCell ⟨g, 12, none⟩ v5).heap[q]? = w.heap[q]? := by
  rw [Below.heap_setCell _ _ _ _ hq, Below.heap_setCell _ _ _ _ hq, Below.heap_setCell _ _ _ _ hq, Below.heap_setCell _ _ _ _ hq, Below.heap_setCell _ _ _ _ hq, Below.heap_setCell _ _ _ _ hq]
theorem set6z_below {w w1 : World} {B g : Nat} (h : Below B w w1) (hg : B ≤ g) (v0 v1 v2 v3 v4 v5 : Value) :
    Below B w ((((((w1.setCell ⟨g, 7, none⟩ v0).setCell ⟨g, 8, none⟩ v1).setCell ⟨g, 9, none⟩ v2).setCell ⟨g, 10, none⟩ v3).setCell ⟨g, 11, none⟩ v4).setCell ⟨g, 12, none⟩ v5) := by
  have e1 := Below.setCell (p := ⟨g, 7, none⟩) h hg v0
  have e2 := Below.setCell (p := ⟨g, 8, none⟩) e1 hg v1
  have e3 := Below.setCell (p := ⟨g, 9, none⟩) e2 hg v2
  have e4 := Below.setCell (p := ⟨g, 10, none⟩) e3 hg v3
  have e5 := Below.setCell (p := ⟨g, 11, none⟩) e4 hg v4
  exact Below.setCell (p := ⟨g, 12, none⟩) e5 hg v5

set_option maxHeartbeats 1000000 in
/-- A frame that is not being sent. -/
theorem drop_yes (h : CtR w c s) (hw : c.wire.length ≤ 1000000) (ht : c.tk.l.length ≤ 1000000) (hn : c.has = true) (hs : c.sends = false) :
    Calls Tryz.prog 33 #[.agg (ctA c s)] w fun e w' => ∃ s', e = .returned (.tuple #[.agg (ctA { c with has := false, give := zeroFr } s'), .bool true]) ∧ CtO w.heap.size w' { c with has := false, give := zeroFr } s' ∧ Below w.heap.size w w' := by
  obtain ⟨w0, hw0, hb0, hr0, g0⟩ : ∃ w0, Hid ((w.alloc (.cells (ctA c s) 54)).alloc (.cells ctZ 54) = w0) ∧ w0.heap[w.heap.size]? = some (.cells (ctA c s) 54 (0, 0)) ∧ w0.heap[w.heap.size + 1]? = some (.cells ctZ 54 (0, 0)) ∧ Below w.heap.size w w0 :=
    ⟨_, rfl, bx_alloc _ (heap_alloc_new w _), by have := heap_alloc_new (w.alloc (.cells (ctA c s) 54)) (.cells ctZ 54); rwa [heap_size_alloc] at this, bnew (bnew0 w _) _⟩
  have hA := fun (w1 : World) (k1 : CtR w1 { c with has := false, give := zeroFr } { s with da := none, dc := 0 }) => apart_any w1 { c with has := false, give := zeroFr } { s with da := none, dc := 0 } k1 (by show zeroFr.data.length ≤ 1000000; decide) hw ht
  have q3 : (ctA c s)[7]? = some (.bool true) := by rw [← hn]; rfl
  have q7 := (bxC hb0 7).trans q3
  have q4 : (ctA c s)[13]? = some (.bool false) := by rw [← hs]; rfl
  have q13 := (bxC hb0 13).trans q4
  have f0 := bx_thaw hb0
  have hb1 := set6z_same hb0
  have hr1 := (set6z_other (show w.heap.size + 1 ≠ w.heap.size by omega) (.bool false) (.int .u32 0) (.bool false) (.bool false) (.int .u8 0) (.slice none 0 0)).trans hr0
  have g1 := set6z_below g0 (Nat.le_refl _) (.bool false) (.int .u32 0) (.bool false) (.bool false) (.int .u8 0) (.slice none 0 0)
  have q8 : w0.cell? ⟨w.heap.size, 8, none⟩ = some (.int .u32 (c.give.id : Int)) := bxC hb0 8
  have q9 : w0.cell? ⟨w.heap.size, 9, none⟩ = some (.bool c.give.ext) := bxC hb0 9
  have q10 : w0.cell? ⟨w.heap.size, 10, none⟩ = some (.bool c.give.rem) := bxC hb0 10
  have q11 : w0.cell? ⟨w.heap.size, 11, none⟩ = some (.int .u8 (c.give.dlc : Int)) := bxC hb0 11
  have q12 : w0.cell? ⟨w.heap.size, 12, none⟩ = some (.slice s.da c.give.data.length s.dc) := bxC hb0 12
  clear hn hs q3 q4 hr0 g0
  go_enter Tryz.func33, Tryz.ntmps33
  go_upto_region 4 with (rw [hw0.out])
  clear q7 q8 q9 q10 q11 q12 q13 f0 hb0 hw0
  generalize ((((((w0.setCell ⟨w.heap.size, 7, none⟩ (.bool false)).setCell ⟨w.heap.size, 8, none⟩ (.int .u32 0)).setCell ⟨w.heap.size, 9, none⟩ (.bool false)).setCell ⟨w.heap.size, 10, none⟩ (.bool false)).setCell ⟨w.heap.size, 11, none⟩ (.int .u8 0)).setCell ⟨w.heap.size, 12, none⟩ (.slice none 0 0)) = W at *
  have HR : CtR W { c with has := false, give := zeroFr } { s with da := none, dc := 0 } := ⟨(OL.nil _ _ _ _ : OL bv 5 0 _ none 0 0 []).rl, h.wi.below g1, h.ti.below g1⟩
  have hA := hA _ HR
  have z1 := g1.size
  have l2 := bx_lt hr1
  go_wp2_with (first
    | (with_reducible refine wpList_loadR rowC rfl _ rfl _ rfl hb1 rfl ?_)
    | (go_at_call 42; (with_reducible refine hA.mono ?_); rintro e w4 ⟨s4, rfl, o4, g4⟩; have hr4 := bx_below hr1 g4; have gg4 := bstep g1 g4)
    | (with_reducible refine wpList_storeR rowC rfl _ _ rfl _ _ rfl rfl hr4 rfl rfl (ct_ones _ _) ?_))
  have o5 := o4.setRow (o4.nbs l2) (ctA { c with has := false, give := zeroFr } s4)
  exact bodyPost_ret (v := .tuple #[.agg (ctA { c with has := false, give := zeroFr } s4), .bool true]) (results_row1 rowC rfl _ _ _ rfl rfl (setRow_heap _ _ _ _ _ _ hr4) rfl) rfl ⟨_, rfl, o5.mono z1, below_setRow gg4 (by omega) _⟩
/-- The controller behind Drop. -/
def dpC (c : Ct) : Ct := if c.has && !c.sends then { c with has := false, give := zeroFr } else c
theorem drop_any (h : CtR w c s) (hd : c.give.data.length ≤ 1000000) (hw : c.wire.length ≤ 1000000) (ht : c.tk.l.length ≤ 1000000) :
    Calls Tryz.prog 33 #[.agg (ctA c s)] w fun e w' => ∃ s', e = .returned (.tuple #[.agg (ctA (dpC c) s'), .bool (c.has && !c.sends)]) ∧ CtO w.heap.size w' (dpC c) s' ∧ Below w.heap.size w w' := by
  by_cases hb : c.has = true ∧ c.sends = false
  · have e : (c.has && !c.sends) = true := by rw [hb.1, hb.2]; rfl
    rw [show dpC c = { c with has := false, give := zeroFr } from if_pos e, e]
    exact drop_yes h hw ht hb.1 hb.2
  · have hn : c.has = false ∨ c.has = true ∧ c.sends = true := by
      cases e1 : c.has
      · exact .inl rfl
      · cases e2 : c.sends
        · exact absurd ⟨e1, e2⟩ hb
        · exact .inr ⟨rfl, rfl⟩
    have e : (c.has && !c.sends) = false := by rcases hn with e | ⟨e, e'⟩ <;> simp [*]
    rw [show dpC c = c from if_neg (by rw [e]; simp), e]
    exact drop_no h hd hw ht hn
end
end Go.Proofs.YtgpmhmdofefdcaaGreat

namespace Go.Proofs.YtgpmhmdofefdcaaGreat
open Go.RowKit Go.Sort
set_option linter.unusedVariables false
set_option linter.unusedSimpArgs false

set_option maxRecDepth 100000 in
set_option maxHeartbeats 4000000 in
theorem netDrop_any (w : World) (s : Na) (ps : List Nd) (cr : List Bool) (n : Nat) (z : Int) (k : Nat) (c : Ct) (s0 : Sl) (h : NtR w s ps cr) (hn : ps.length = n) (hm : cr.length = n) (hle : n ≤ 100000) (hS : ∀ p ∈ ps, Shr p.1)
    (hk : k < n) (hx : ps[k]? = some (c, s0)) (hcr : cr[k]? = some false) :
    Calls Tryz.prog 11 #[.agg (ntA s n n z), .int .i64 (k : Int)] w fun e w' => (∃ s' qs, e = .returned (.tuple #[.agg (ntA s' n n z), .bool true]) ∧ qs.length = n ∧ cts qs = (cts ps).set k (dpC c) ∧ NtO w.heap.size w' s' qs cr ∧ Below w.heap.size w w') ∨
      (e = .returned (.tuple #[.agg (ntA s n n z), .bool false]) ∧ Below w.heap.size w w') := by
  have hmem : (c, s0) ∈ ps := List.mem_of_getElem? hx
  obtain ⟨d1, d2, d3⟩ := hS _ hmem
  simp only at d1 d2 d3
  have hb0 : ((w.alloc (.cells (ntA s n n z) 31)).alloc (.cells ntZ 31)).heap[w.heap.size]? = some (.cells (ntA s n n z) 31 (0, 0)) := bx_alloc _ (heap_alloc_new w _)
  have hr0 : ((w.alloc (.cells (ntA s n n z) 31)).alloc (.cells ntZ 31)).heap[w.heap.size + 1]? = some (.cells ntZ 31 (0, 0)) := by
    have := heap_alloc_new (w.alloc (.cells (ntA s n n z) 31)) (.cells ntZ 31); rwa [heap_size_alloc] at this
  have g0 : Below w.heap.size w ((w.alloc (.cells (ntA s n n z) 31)).alloc (.cells ntZ 31)) := bnew (bnew0 w _) _
  have hU := fun w1 (g1 : Below w.heap.size w w1) => up_any w1 s n cr z (k : Int) (h.cra.below g1) (by omega) (by omega)
  have hup : upB n cr (k : Int) = true := by
    unfold upB
    rw [decide_eq_true (by omega), Int.toNat_natCast, hcr]; simp
  rw [hup, hm] at hU
  clear hup
  go_enter Tryz.func11, Tryz.ntmps11
  go_upto_region 3 with (first
    | (with_reducible refine wpList_loadR rowN rfl _ rfl _ rfl hb0 rfl ?_)
    | (go_at_call 30; (with_reducible refine (hU _ g0).mono ?_); rintro e w1 ⟨rfl, g1⟩
       have hb1 := bx_below hb0 g1
       have hr1 := bx_below hr0 g1
       have gg1 := bstep g0 g1))
  obtain ⟨sna, snc, sca, scc⟩ := s
  have hR := h.below gg1
  have hN := hR.nod
  simp only at hN
  rw [hn] at hN
  obtain ⟨b, off, hab, hbl, hr⟩ := hN.range hx
  subst hab
  have hCl : CtR w1 c s0 := hR.sl _ hmem
  have hD := drop_any hCl d1 d2 d3
  have x0 := (bx3c (show w1.heap[w.heap.size]? = some (.cells #[.slice (some ⟨b, off, none⟩) n snc, .slice sca n scc, .int .i64 z] 31 (0, 0)) from hb1)).1
  obtain ⟨bb, hbb⟩ : ∃ bb, bb = (c.has && !c.sends) := ⟨_, rfl⟩
  rw [← hbb] at hD
  have lr : w.heap.size + 1 < w1.heap.size := bx_lt hr1
  clear hN hb0 hr0 g0 g1 hU hbb
  go_upto_region 4 with (first
    | (with_reducible refine wpList_loadM rowC rfl _ rfl _ _ rfl (ctA c s0) hr rfl ?_)
    | (go_at_call 33; (with_reducible refine hD.mono ?_); rintro e w2 ⟨s2, rfl, o2, g2⟩
       have hz2 := heap_alloc_new w2 (.cells ctZ 54))
    | (with_reducible refine wpList_storeR rowC rfl _ _ rfl _ _ rfl rfl hz2 rfl rfl (ct_ones _ _) ?_))
  have g3 : Below w1.heap.size w1 ((w2.alloc (.cells ctZ 54)).setRow w2.heap.size (ctA (dpC c) s2)) := below_setRow (bnew g2 _) g2.size _
  have b2 : ((w2.alloc (.cells ctZ 54)).setRow w2.heap.size (ctA (dpC c) s2)).heap[w2.heap.size]? = some (.cells (ctA (dpC c) s2) 54 (0, 0)) := setRow_heap _ _ _ _ _ _ hz2
  have o3 : CtO w1.heap.size ((w2.alloc (.cells ctZ 54)).setRow w2.heap.size (ctA (dpC c) s2)) (dpC c) s2 := (o2.alloc _).setRow (o2.fresh (Nat.le_refl _)) _
  have hb3 := bx_below hb1 g3
  have hr3 := bx_below hr1 g3
  have hR3 := hR.below g3
  have gg3 := bstep gg1 g3
  have hs3 := g3.size
  try rw [put_no9]
  change Code.wp _ _ _ _ ((w2.alloc (.cells ctZ 54)).setRow w2.heap.size (ctA (dpC c) s2))
  generalize (w2.alloc (.cells ctZ 54)).setRow w2.heap.size (ctA (dpC c) s2) = W3 at *
  generalize w2.heap.size = q2 at *
  clear hz2 o2 g2 g3 hb1 hr1 hR hCl hD x0 hr hx h
  cases bb with
  | false =>
    go_wp2_with (first
      | (with_reducible refine wpList_loadR rowN rfl _ rfl _ rfl hb3 rfl ?_)
      | (with_reducible refine wpList_storeR rowN rfl _ _ rfl _ _ rfl rfl hr3 rfl rfl (nt_ones _ _ _ _) ?_))
    exact bodyPost_ret (v := .tuple #[.agg (ntA ⟨some ⟨b, off, none⟩, snc, sca, scc⟩ n n z), .bool false]) (results_row1 rowN rfl _ _ _ rfl rfl (setRow_heap _ _ _ _ _ _ hr3) rfl) rfl (.inr ⟨rfl, below_setRow gg3 (by omega) _⟩)
  | true =>
    have hWi := with_any W3 w1.heap.size ⟨some ⟨b, off, none⟩, snc, sca, scc⟩ ps cr n z k (dpC c) s2 hR3 hn hm hle hS hk o3 hs3
    clear hS hmem
    go_wp2_with (first
      | (with_reducible refine wpList_loadR rowN rfl _ rfl _ rfl hb3 rfl ?_)
      | (with_reducible refine wpList_loadR rowC rfl _ rfl _ rfl b2 rfl ?_)
      | (go_at_call 32; (with_reducible refine hWi.mono ?_); rintro e w6 ⟨s6, rfl, qs, k1, k2, o6, g6⟩; have hr6 := bx_below hr3 g6; have gg6 := bstep gg3 g6)
      | (with_reducible refine wpList_storeR rowN rfl _ _ rfl _ _ rfl rfl hr6 rfl rfl (nt_ones _ _ _ _) ?_))
    have o7 := (o6.setRow lr (ntA s6 n n z)).mono (show w.heap.size ≤ w1.heap.size from gg1.size)
    exact bodyPost_ret (v := .tuple #[.agg (ntA s6 n n z), .bool true]) (results_row1 rowN rfl _ _ _ rfl rfl (setRow_heap _ _ _ _ _ _ hr6) rfl) rfl (.inl ⟨s6, qs, rfl, k1, k2, o7, below_setRow gg6 (by omega) _⟩)
set_option maxRecDepth 100000 in
set_option maxHeartbeats 4000000 in
/-- A right frame, to a node that has one. -/
theorem netGive_full (w : World) (s : Na) (ps : List Nd) (cr : List Bool) (n : Nat) (z : Int) (k : Nat) (c : Ct) (s0 : Sl) (F : Fr) (a : Option Addr) (kc : Nat) (h : NtR w s ps cr) (hn : ps.length = n) (hm : cr.length = n) (hle : n ≤ 100000) (hS : ∀ p ∈ ps, Shr p.1)
    (hk : k < n) (hx : ps[k]? = some (c, s0)) (hcr : cr[k]? = some false) (hi : F.id < 4294967296) (hd : F.dlc < 256) (hr : riF F.id F.ext F.rem F.dlc F.data.length = true) (hh : c.has = true) :
    Calls Tryz.prog 10 #[.agg (ntA s n n z), .int .i64 (k : Int), .agg (frV F a kc)] w fun e w' => e = .returned (.tuple #[.agg (ntA s n n z), .int .i64 5]) ∧ Below w.heap.size w w' := by
  have hmem : (c, s0) ∈ ps := List.mem_of_getElem? hx
  obtain ⟨d1, d2, d3⟩ := hS _ hmem
  simp only at d1 d2 d3
  have hb0 : (((w.alloc (.cells (ntA s n n z) 31)).alloc (.cells (frV F a kc) 26)).alloc (.cells ntZ 31)).heap[w.heap.size]? = some (.cells (ntA s n n z) 31 (0, 0)) := bx_alloc _ (bx_alloc _ (heap_alloc_new w _))
  have hf0 : (((w.alloc (.cells (ntA s n n z) 31)).alloc (.cells (frV F a kc) 26)).alloc (.cells ntZ 31)).heap[w.heap.size + 1]? = some (.cells (frV F a kc) 26 (0, 0)) := by
    have := bx_alloc (.cells ntZ 31) (heap_alloc_new (w.alloc (.cells (ntA s n n z) 31)) (.cells (frV F a kc) 26)); rwa [heap_size_alloc] at this
  have hr0 : (((w.alloc (.cells (ntA s n n z) 31)).alloc (.cells (frV F a kc) 26)).alloc (.cells ntZ 31)).heap[w.heap.size + 2]? = some (.cells ntZ 31 (0, 0)) := by
    have := heap_alloc_new ((w.alloc (.cells (ntA s n n z) 31)).alloc (.cells (frV F a kc) 26)) (.cells ntZ 31); rwa [heap_size_alloc, heap_size_alloc] at this
  have g0 : Below w.heap.size w (((w.alloc (.cells (ntA s n n z) 31)).alloc (.cells (frV F a kc) 26)).alloc (.cells ntZ 31)) := bnew (bnew (bnew0 w _) _) _
  have hU := fun w1 (g1 : Below w.heap.size w w1) => up_any w1 s n cr z (k : Int) (h.cra.below g1) (by omega) (by omega)
  have hup : upB n cr (k : Int) = true := by
    unfold upB
    rw [decide_eq_true (by omega), Int.toNat_natCast, hcr]; simp
  rw [hup, hm] at hU
  go_enter Tryz.func10, Tryz.ntmps10
  go_upto_region 3 with (first
    | (with_reducible refine wpList_loadR rowN rfl _ rfl _ rfl hb0 rfl ?_)
    | (go_at_call 30; (with_reducible refine (hU _ g0).mono ?_); rintro e w1 ⟨rfl, g1⟩
       have hb1 := bx_below hb0 g1
       have hf1 := bx_below hf0 g1
       have hr1 := bx_below hr0 g1
       have gg1 := bstep g0 g1))
  obtain ⟨sna, snc, sca, scc⟩ := s
  have hR := h.below gg1
  have hN := hR.nod
  simp only at hN
  rw [hn] at hN
  obtain ⟨b, off, hab, hbl, hr'⟩ := hN.range hx
  subst hab
  have hCl : CtR w1 c s0 := hR.sl _ hmem
  clear hN hb0 hf0 hr0 g0 g1 hU hup
  go_cut [8, 9] (fun p8 p9 wx => ∃ (q : Nat), p8 = .pointer (some ⟨q, 0, none⟩) ∧ p9 = .int .i64 5 ∧ Below w1.heap.size w1 wx)
  case first =>
    have hbD : (fun w' : World => Below w1.heap.size w1 w') w1.drew := below_drew1 (Below.refl _ _)
    refine Rest.begin (S := fun w' => Below w1.heap.size w1 w') (X := [3, 4, 6]) (by kernel_rfl) ?_
    change Rest _ _ _ _ _ _ _ _ _ w1.drew
    refine Rest.take (i := 0) (v := .pointer (some ⟨w.heap.size, 0, none⟩)) rfl (by kernel_rfl) (by kernel_rfl) (by kernel_rfl) (by kernel_rfl) (fun _ _ _ h => h) (.inl hbD) (Or.inl ⟨by simp [Region.wanted], ?_⟩) ?_
    · intro w; go_simp
    refine Rest.takeS (i := 1) (v := .slice (some ⟨b, off, none⟩) n snc) rfl (by kernel_rfl) (by kernel_rfl) (by kernel_rfl) (by kernel_rfl) (fun _ _ _ h => h) hbD (Or.inl ⟨by simp [Region.wanted], ?_⟩) ?_
    · intro w' h'
      have q := (bx3 (bx_below hb1 h')).1
      go_simp
    refine Rest.take (i := 2) (v := .int .i64 (k : Int)) rfl (by kernel_rfl) (by kernel_rfl) (by kernel_rfl) (by kernel_rfl) (fun _ _ _ h => h) (.inl hbD) (Or.inl ⟨by simp [Region.wanted], ?_⟩) ?_
    · intro w; go_simp
    refine Rest.takeS (i := 3) (v := .pointer (some ⟨b, off + k * 26, none⟩)) rfl (by kernel_rfl) (by kernel_rfl) (by kernel_rfl) (by kernel_rfl) (fun _ _ _ h => h) hbD (Or.inl ⟨by simp [Region.wanted], ?_⟩) ?_
    · intro w _; go_simp
    refine Rest.takeS (i := 4) (v := .agg (ctA c s0)) rfl (by kernel_rfl) (by kernel_rfl) (by kernel_rfl) (by kernel_rfl) (fun _ _ _ h => h) hbD (yields_loadM rowC (by simp [Region.wanted]) _ rfl b (off + k * 26) (by simp [Act.eval, Act.put]) _ rfl (fun w' h' j v hv => (Below.cell (p := ⟨b, _, none⟩) h' hbl).trans (hr' j v hv))) ?_
    refine Rest.takeS (i := 5) (v := .agg (frV F a kc)) rfl (by kernel_rfl) (by kernel_rfl) (by kernel_rfl) (by kernel_rfl) (fun _ _ _ h => h) hbD (yields_loadR rowF (by simp [Region.wanted]) _ rfl (w.heap.size + 1) (by simp [Act.eval, Act.put]) _ rfl (fun w' h' => ⟨_, _, bx_below hf1 h'⟩)) ?_
    refine Rest.two (i := 6) (j := 10) (by kernel_rfl) rfl rfl (fun K hK => ?_) (fun K hK => ?_)
    · refine draw_callF 31 plain_ctlGive (by simp [Region.wanted]) _ _ _ rfl (by simp [Act.eval]) #[.agg (ctA c s0), .agg (frV F a kc)] (by simp [Act.eval, Act.put]) _ (give_no w1.drew c s0 F.id F.ext F.rem F.dlc a F.data.length kc hi hd 5 (.inr ⟨hr, hh, rfl⟩)) ?_
      rintro e w5 ⟨rfl, g5⟩
      refine ⟨_, rfl, ?_⟩
      have b5 : Below w1.heap.size w1 w5 := hbD.trans (g5.mono (by simp))
      refine hK _ _ ⟨.inl b5, Rest.of_any _ _ _ _ (thru_of (by kernel_rfl)) ?_⟩; clear hK K
      refine wpAny_take (i := 7) (v := .tuple #[.agg (ctA c0 sl0), .int .i64 5]) rfl (by kernel_rfl) (by kernel_rfl) (by kernel_rfl) (fun _ _ _ h => h) (Or.inl ⟨by simp [Region.wanted], ?_⟩) ?_
      · intro w; go_simp
      refine wpAny_take (i := 8) (v := .agg (ctA c0 sl0)) rfl (by kernel_rfl) (by kernel_rfl) (by kernel_rfl) (fun _ _ _ h => h) (Or.inl ⟨by simp [Region.wanted], ?_⟩) ?_
      · intro w; go_simp
      refine wpAny_take (i := 9) (v := .int .i64 5) rfl (by kernel_rfl) (by kernel_rfl) (by kernel_rfl) (fun _ _ _ h => h) (Or.inl ⟨by simp [Region.wanted], ?_⟩) ?_
      · intro w; go_simp
      refine wpAny_ready (rs := [10]) (by kernel_rfl) (by simp) ?_
      refine AllReady.cons rfl (fun K hK => ?_) AllReady.nil
      go_simp
      refine hK _ _ ?_; clear hK K
      have hz := heap_alloc_new w5 (.cells ctZ 54)
      refine wpAny_ready (rs := [11]) (by kernel_rfl) (by simp) ?_
      refine AllReady.cons rfl (fun K hK => ?_) AllReady.nil
      refine draw_storeR rowC rfl _ _ rfl w5.heap.size (ctA c0 sl0) rfl rfl hz rfl rfl (ct_ones _ _) ?_
      refine hK _ _ ?_; clear hK K
      refine wpAny_ready (rs := [12]) (by kernel_rfl) (by simp) ?_
      refine AllReady.cons rfl (fun K hK => ?_) AllReady.nil
      go_simp
      refine hK _ _ ?_; clear hK K
      refine wpAny_done (by kernel_rfl) ?_ _
      go_wp2_with fail
      go_meet
      exact ⟨_, rfl, rfl, below_setRow (bnew b5 _) b5.size _⟩
    · go_simp
      have hbA : Below w1.heap.size w1 (w1.drew.alloc (.cells ctZ 54)) := bnew hbD _
      refine hK _ _ ⟨.inl hbA, ?_⟩; clear hK K
      have hz0 := heap_alloc_new w1.drew (.cells ctZ 54)
      refine Rest.one (i := 6) (by kernel_rfl) rfl (fun K hK => ?_)
      refine draw_callF 31 plain_ctlGive (by simp [Region.wanted]) _ _ _ rfl (by simp [Act.eval]) #[.agg (ctA c s0), .agg (frV F a kc)] (by simp [Act.eval]) _ (give_no (w1.drew.alloc (.cells ctZ 54)) c s0 F.id F.ext F.rem F.dlc a F.data.length kc hi hd 5 (.inr ⟨hr, hh, rfl⟩)) ?_
      rintro e w5 ⟨rfl, g5⟩
      refine ⟨_, rfl, ?_⟩
      have b5 : Below w1.heap.size w1 w5 := bstep hbA g5
      have hz := bx_below hz0 g5
      refine hK _ _ ⟨.inl b5, Rest.of_any _ _ _ _ (thru_of (by kernel_rfl)) ?_⟩; clear hK K
      refine wpAny_take (i := 7) (v := .tuple #[.agg (ctA c0 sl0), .int .i64 5]) rfl (by kernel_rfl) (by kernel_rfl) (by kernel_rfl) (fun _ _ _ h => h) (Or.inl ⟨by simp [Region.wanted], ?_⟩) ?_
      · intro w; go_simp
      refine wpAny_take (i := 8) (v := .agg (ctA c0 sl0)) rfl (by kernel_rfl) (by kernel_rfl) (by kernel_rfl) (fun _ _ _ h => h) (Or.inl ⟨by simp [Region.wanted], ?_⟩) ?_
      · intro w; go_simp
      refine wpAny_take (i := 9) (v := .int .i64 5) rfl (by kernel_rfl) (by kernel_rfl) (by kernel_rfl) (fun _ _ _ h => h) (Or.inl ⟨by simp [Region.wanted], ?_⟩) ?_
      · intro w; go_simp
      refine wpAny_ready (rs := [11]) (by kernel_rfl) (by simp) ?_
      refine AllReady.cons rfl (fun K hK => ?_) AllReady.nil
      refine draw_storeR rowC rfl _ _ rfl w1.drew.heap.size (ctA c0 sl0) rfl rfl hz rfl rfl (ct_ones _ _) ?_
      refine hK _ _ ?_; clear hK K
      refine wpAny_ready (rs := [12]) (by kernel_rfl) (by simp) ?_
      refine AllReady.cons rfl (fun K hK => ?_) AllReady.nil
      go_simp
      refine hK _ _ ?_; clear hK K
      refine wpAny_done (by kernel_rfl) ?_ _
      go_wp2_with fail
      go_meet
      exact ⟨_, rfl, rfl, below_setRow b5 (by simp) _⟩
  case rest =>
    obtain ⟨q, rfl, rfl, gc⟩ := hcut
    have hb2 := bx_below hb1 gc
    have hr2 := bx_below hr1 gc
    have gg2 := bstep gg1 gc
    clear hR hCl hb1 hf1 hr1 hr' h hS hx hmem
    go_wp2_with (first
      | (with_reducible refine wpList_loadR rowN rfl _ rfl _ rfl hb2 rfl ?_)
      | (with_reducible refine wpList_storeR rowN rfl _ _ rfl _ _ rfl rfl hr2 rfl rfl (nt_ones _ _ _ _) ?_))
    exact bodyPost_ret (v := .tuple #[.agg (ntA ⟨some ⟨b, off, none⟩, snc, sca, scc⟩ n n z), .int .i64 5]) (results_row1 rowN rfl _ _ _ rfl rfl (setRow_heap _ _ _ _ _ _ hr2) rfl) rfl ⟨rfl, below_setRow gg2 (by omega) _⟩

/-- Whatever frame, to whatever node that is up. -/
theorem netGive_all (w : World) (s : Na) (ps : List Nd) (cr : List Bool) (n : Nat) (z : Int) (k : Nat) (c : Ct) (s0 : Sl) (F : Fr) (a : Option Addr) (kc : Nat) (h : NtR w s ps cr) (hn : ps.length = n) (hm : cr.length = n) (hle : n ≤ 100000) (hS : ∀ p ∈ ps, Shr p.1)
    (hk : k < n) (hx : ps[k]? = some (c, s0)) (hcr : cr[k]? = some false) (hi : F.id < 4294967296) (hd : F.dlc < 256) (h2 : RL bv w a F.data.length kc F.data) :
    Calls Tryz.prog 10 #[.agg (ntA s n n z), .int .i64 (k : Int), .agg (frV F a kc)] w fun e w' => ∃ s' er, e = .returned (.tuple #[.agg (ntA s' n n z), .int .i64 er]) ∧ (er = 0 → ∃ qs, qs.length = n ∧ NtO w.heap.size w' s' qs cr) ∧ Below w.heap.size w w' := by
  cases hr : riF F.id F.ext F.rem F.dlc F.data.length
  · exact (netGive_wrong w s ps cr n z k c s0 F a kc h hn hm hle hS hk hx hcr hi hd hr).mono fun e w' ⟨h1, h3⟩ => ⟨s, 40, h1, fun h0 => by omega, h3⟩
  · cases hh : c.has
    · exact (netGive_any w s ps cr n z k c s0 F a kc h hn hm hle hS hk hx hcr ((good_iff F _ rfl).1 hr) h2 hh).mono fun e w' ⟨s', h1, qs, k1, _, o, g⟩ => ⟨s', 0, h1, fun _ => ⟨qs, k1, o⟩, g⟩
    · exact (netGive_full w s ps cr n z k c s0 F a kc h hn hm hle hS hk hx hcr hi hd hr hh).mono fun e w' ⟨h1, h3⟩ => ⟨s, 5, h1, fun h0 => by omega, h3⟩
end Go.Proofs.YtgpmhmdofefdcaaGreat

namespace Go.Proofs.YtgpmhmdofefdcaaGreat
open Go.RowKit Go.Sort
set_option linter.unusedVariables false
set_option linter.unusedSimpArgs false

theorem among_num (x : Int) (n : Nat) (hn : 0 < n) : ∃ k : Nat, k < n ∧ Int.tmod (Int.tmod x (n : Int) + (n : Int)) (n : Int) = (k : Int) ∧ -(n : Int) < Int.tmod x (n : Int) ∧ Int.tmod x (n : Int) < (n : Int) := by
  have h1 : -(n : Int) < Int.tmod x (n : Int) := by
    have := Int.lt_tmod_of_pos x (show (0 : Int) < (n : Int) by omega); omega
  have h2 : Int.tmod x (n : Int) < (n : Int) := Int.tmod_lt_of_pos x (by omega)
  have h3 : Int.tmod (Int.tmod x (n : Int) + (n : Int)) (n : Int) = (Int.tmod x (n : Int) + (n : Int)) % (n : Int) := Int.tmod_eq_emod_of_nonneg (by omega)
  have h4 := Int.emod_nonneg (Int.tmod x (n : Int) + (n : Int)) (show (n : Int) ≠ 0 by omega)
  have h5 := Int.emod_lt_of_pos (Int.tmod x (n : Int) + (n : Int)) (show (0 : Int) < (n : Int) by omega)
  exact ⟨((Int.tmod x (n : Int) + (n : Int)) % (n : Int)).toNat, by omega, by omega, h1, h2⟩

set_option maxRecDepth 100000 in
set_option maxHeartbeats 4000000 in
theorem among9_any (w : World) (x : Int) (hx : -9223372036854775808 ≤ x ∧ x ≤ 9223372036854775807) (n : Nat) (hn : 0 < n) (hm : n ≤ 100000) :
    Calls Tryz.prog 8 #[.int .i64 x, .int .i64 (n : Int)] w fun e w' => (∃ k : Nat, k < n ∧ e = .returned (.int .i64 (k : Int))) ∧ Below w.heap.size w w' := by
  obtain ⟨k, hk, e1, h1, h2⟩ := among_num x n hn
  obtain ⟨r, hr⟩ : ∃ r, r = Int.tmod x (n : Int) := ⟨_, rfl⟩
  rw [← hr] at e1 h1 h2
  have hr' := hr.symm
  clear hr
  have hne : ¬ ((n : Int) = 0) := by omega
  have hlt : ¬ ((n : Int) < 1) := by omega
  go_enter Tryz.func8, Tryz.ntmps8
  go_wp2
  go_ret
  exact ⟨⟨k, hk, rfl⟩, Below.refl _ _⟩

/-! An append of elements of whatever width: what counts is the length of all. -/
section
variable {α : Type} {enc : α → List Value} {k : Nat} {E T : TypeId} {z : Value} {bytes : Nat} {B : Nat} {w w' : World} {P : Program} {l m : List α} {n c : Nat} {a : Option Addr}

/-- Where an append's result lies. -/
theorem app_whereL (hT : ElK P T E k z bytes) (hk : EnK enc k) {ty : TypeId} {ad : Addr} {n2 c2 : Nat} (hown : OK enc k E B w a n c l) (h0 : 0 < n2) (hlm : m.length = n2) (hnews : ∀ j v, (m.flatMap enc)[j]? = some v → w.cell? (ad.add j) = some v)
    (h63 : n + n2 ≤ 1000000000) (hb64 : (n + n2) * bytes ≤ 140737488355328) {v' : Value} {w' : World}
    (hrun : (Builtin.append_ #[T, T] ty #[.slice a n c, .slice (some ad) n2 c2]).run P w = .ok v' w') : ∃ q N C, v' = .slice (some q) N C ∧ (a = some q ∨ q.block = w.heap.size) := by
  obtain ⟨i, hi, hz0, hz1, hz2⟩ := info_parts hT.info
  have hlen : (m.flatMap enc).length = n2 * i.size := by rw [hz1, flat_len hk, hlm]
  rcases hown.own.2 with ⟨h', hn0⟩ | ⟨g, cap, cur, h', hB, hg, hnc, hcm, hcs, htake⟩
  · simp only [Value.slice.injEq] at h'
    obtain ⟨rfl, rfl, rfl⟩ := h'
    rw [run_append_nil (P := P) w T ty E i z hT.und hi hz0 ad n2 c2 (m.flatMap enc) hlen hnews h0 (by omega) (by rw [hz2]; have hb := hb64; simp only [Nat.zero_add] at hb; omega)] at hrun
    injection hrun with e1 e2
    exact ⟨_, _, _, e1.symm, .inr rfl⟩
  · simp only [Value.slice.injEq, true_and] at h'
    obtain ⟨rfl, rfl⟩ := h'
    by_cases hroom : n + n2 ≤ c
    · have hle : n * k + n2 * k ≤ c * k := by rw [← Nat.add_mul]; exact Nat.mul_le_mul_right k hroom
      rw [run_append_room (P := P) w T ty E i hT.und hi g n c cur hg ad n2 c2 (m.flatMap enc) hlen hnews (flat_one hk m) hroom (by
        rw [hlen, hcs, hz1]; exact hle)] at hrun
      injection hrun with e1 e2
      exact ⟨_, _, _, e1.symm, .inl rfl⟩
    · have holds : ∀ j u, (l.flatMap enc)[j]? = some u → w.cell? ((⟨g, 0, none⟩ : Addr).add j) = some u := hown.own.cells (g := g) rfl
      rw [run_append_grow (P := P) w T ty E i z hT.und hi hz0 ⟨g, 0, none⟩ n c (l.flatMap enc) (by rw [hz1, flat_len hk, hown.len]) holds ad n2 c2 (m.flatMap enc) hlen hnews (by omega) (by omega) (growslice_fits (by omega) (by rw [hz2]; exact hb64))] at hrun
      injection hrun with e1 e2
      exact ⟨_, _, _, e1.symm, .inr rfl⟩

/-- 'append(v, x...)' of at least one element: v of the call's own; no other block is turned, and the result lies in v's or in a new one. -/
theorem wp_appgL {o : Oper} {ac : Act} {K : Act → World → Prop} {Q : Exit → Act → World → Prop} (hT : ElK P T E k z bytes) (hk : EnK enc k) (s x : Operand)
    (ho : o.op = .call { callee := .builtin .append, args := #[s, x], argTypes := #[T, T] })
    {a2 : Option Addr} {n2 c2 : Nat} (hs : ac.eval s = .slice a n c) (hown : OK enc k E B w a n c l) (hx : ac.eval x = .slice a2 n2 c2) (hr : RK enc k w a2 n2 c2 m) (h0 : 0 < n2)
    (h63 : n + n2 ≤ 1000000000) (hb64 : (n + n2) * bytes ≤ 140737488355328) (hbase : B ≤ w.heap.size)
    (h : ∀ w' a' c', OK enc k E B w' a' (n + n2) c' (l ++ m) → Below B w w' → (∀ q, q < w.heap.size → NB a q → w'.heap[q]? = w.heap[q]? ∧ NB a' q) → w.heap.size ≤ w'.heap.size → K (ac.put o.dst (.slice a' (n + n2) c')) w') : o.wp P ac w K Q := by
  obtain ⟨i, hi, hz0, hz1, hz2⟩ := info_parts hT.info
  have hbl : ∀ q, (Value.slice a n c).ownBlock = some q → B ≤ q := fun q hq => (hown.own.lt q hq).1
  obtain ⟨b, off, rfl, hb, hc⟩ := hr.cell h0
  have hnews : ∀ j v, (m.flatMap enc)[j]? = some v → w.cell? ((⟨b, off, none⟩ : Addr).add j) = some v := by
    intro j u hu
    obtain ⟨i', j', y, h1, h2, rfl⟩ := flat_back hk m j u hu
    rw [Addr.add_lit]
    exact hc i' y j' u h1 h2
  obtain ⟨v', w', hrun, h2, h3, h4⟩ := run_append_own (P := P) w B T o.type E i z k bytes hT.und hi hz0 hz1 hz2 hT.zc hT.pos (.slice a n c) n (l.flatMap enc) hown.own ⟨b, off, none⟩ n2 c2 (m.flatMap enc) (by rw [flat_len hk, hr.len]) hnews
    (flat_one hk m) (by unfold maxLen; omega) (by omega) hbase
  obtain ⟨q, N, C, rfl, hq⟩ := app_whereL hT hk hown h0 hr.len hnews h63 hb64 hrun
  obtain ⟨a', c', e', hol⟩ := ok_of_ownsRow (enc := enc) (l := l ++ m) h2 (by simp) (by rw [List.length_append, hown.len, hr.len])
  simp only [Value.slice.injEq] at e'
  obtain ⟨rfl, rfl, rfl⟩ := e'
  unfold Oper.wp execOp
  simp only [ho, resolve, invoke, builtin, Sem.run_bind, Sem.run_pure, Result.andThen_ok, List.map_toArray, List.map_cons, List.map_nil, hs, hx, hrun]
  refine h w' _ _ hol ((Below.refl B w).grown h3 hbase hbl) (fun k hk hn => ⟨h3.block k hk ?_, ?_⟩) h3.size
  · intro e
    cases a with
    | none => simp [Value.ownBlock] at e
    | some p => simp [Value.ownBlock] at e; exact hn p rfl e.symm
  · intro p hp
    cases hp
    rcases hq with rfl | hq
    · exact hn _ rfl
    · omega
end

theorem step_appgL {P : Program} {T E : TypeId} {k : Nat} {z : Value} {bytes : Nat} {α : Type} {enc : α → List Value} {B : Nat} {w : World} {a : Option Addr} {n c : Nat} {l m : List α} {ops : Array Oper} {o : Oper} {ac : Act} {K : Act → World → Prop} {Q : Exit → Act → World → Prop} {R : Prop}
    (hT : ElK P T E k z bytes) (hk : EnK enc k) (hgd : o.guard = none) (s x : Operand)
    (ho : o.op = .call { callee := .builtin .append, args := #[s, x], argTypes := #[T, T] })
    {a2 : Option Addr} {n2 c2 : Nat} (hs : ac.eval s = .slice a n c) (hown : OK enc k E B w a n c l) (hx : ac.eval x = .slice a2 n2 c2) (hr : RK enc k w a2 n2 c2 m) (h0 : 0 < n2)
    (h63 : n + n2 ≤ 1000000000) (hb64 : (n + n2) * bytes ≤ 140737488355328) (hbase : B ≤ w.heap.size)
    (h : ∀ w' a' c', OK enc k E B w' a' (n + n2) c' (l ++ m) → Below B w w' → (∀ q, q < w.heap.size → NB a q → w'.heap[q]? = w.heap[q]? ∧ NB a' q) → w.heap.size ≤ w'.heap.size → K (ac.put o.dst (.slice a' (n + n2) c')) w') :
    if Region.wanted o (yielded ops ac.tmps) = true then Oper.wp P o ac w K Q else R := by
  rw [if_pos (by simp [Region.wanted, hgd])]
  exact wp_appgL hT hk s x ho hs hown hx hr h0 h63 hb64 hbase h

section
variable {α : Type} {enc : α → List Value} {k : Nat} {T E : TypeId} {z : Value} {bytes : Nat} {w : World} {P : Program} {l : List α} {n c : Nat} {a : Option Addr}

/-- A list appended, that may be empty; what becomes of other blocks. -/
theorem step_appgLk {m : List α} {B : Nat} {ops : Array Oper} {o : Oper} {ac : Act} {K : Act → World → Prop} {Q : Exit → Act → World → Prop} {R : Prop}
    (hT : ElK P T E k z bytes) (hk : EnK enc k) (hgd : o.guard = none) (s x : Operand)
    (ho : o.op = .call { callee := .builtin .append, args := #[s, x], argTypes := #[T, T] })
    {a2 : Option Addr} {n2 c2 : Nat} (hs : ac.eval s = .slice a n c) (hown : OK enc k E B w a n c l) (hx : ac.eval x = .slice a2 n2 c2) (hr : RK enc k w a2 n2 c2 m)
    (h63 : n + n2 ≤ 1000000000) (hb64 : (n + n2) * bytes ≤ 140737488355328) (hbase : B ≤ w.heap.size)
    (h : ∀ w' a' c', OK enc k E B w' a' (n + n2) c' (l ++ m) → Below B w w' → (∀ q, q < w.heap.size → NB a q → w'.heap[q]? = w.heap[q]? ∧ NB a' q) → w.heap.size ≤ w'.heap.size → K (ac.put o.dst (.slice a' (n + n2) c')) w') :
    if Region.wanted o (yielded ops ac.tmps) = true then Oper.wp P o ac w K Q else R := by
  by_cases h0 : 0 < n2
  · exact step_appgL hT hk hgd s x ho hs hown hx hr h0 h63 hb64 hbase h
  · obtain rfl : n2 = 0 := by omega
    obtain rfl : m = [] := List.length_eq_zero_iff.1 hr.len
    rw [if_pos (by simp [Region.wanted, hgd])]
    obtain ⟨i, hi, hz0, hz1, hz2⟩ := info_parts hT.info
    have hrun := run_append_nothing (P := P) w T T o.type E i hT.und hi a n c hown.cap (.slice a2 0 c2) (src_none hT.und a2 c2)
    unfold Oper.wp execOp
    simp only [ho, resolve, invoke, builtin, Sem.run_bind, Sem.run_pure, Result.andThen_ok, List.map_toArray, List.map_cons, List.map_nil, hs, hx, hrun]
    exact h w a c (by rw [List.append_nil]; exact hown) (Below.refl _ _) (fun q _ hn => ⟨rfl, hn⟩) (Nat.le_refl _)
/-- The same, in order. -/
theorem wpList_appgL0 {m : List α} {B : Nat} {ops : Array Oper} {rest : List Oper} {o : Oper} {ac : Act} {Q : Exit → Act → World → Prop}
    (hT : ElK P T E k z bytes) (hk : EnK enc k) (hgd : o.guard = none) (s x : Operand)
    (ho : o.op = .call { callee := .builtin .append, args := #[s, x], argTypes := #[T, T] })
    {a2 : Option Addr} {n2 c2 : Nat} (hs : ac.eval s = .slice a n c) (hown : OK enc k E B w a n c l) (hx : ac.eval x = .slice a2 n2 c2) (hr : RK enc k w a2 n2 c2 m)
    (h63 : n + n2 ≤ 1000000000) (hb64 : (n + n2) * bytes ≤ 140737488355328) (hbase : B ≤ w.heap.size)
    (h : ∀ w' a' c', OK enc k E B w' a' (n + n2) c' (l ++ m) → Below B w w' → (∀ q, q < w.heap.size → NB a q → w'.heap[q]? = w.heap[q]? ∧ NB a' q) → w.heap.size ≤ w'.heap.size → wpList P ops Q rest (ac.put o.dst (.slice a' (n + n2) c')) w') :
    wpList P ops Q (o :: rest) ac w :=
  wpList_step fun _ hK => step_appgLk hT hk hgd s x ho hs hown hx hr h63 hb64 hbase fun w' a' c' o1 g1 k1 z1 => hK _ _ (h w' a' c' o1 g1 k1 z1)
end
end Go.Proofs.YtgpmhmdofefdcaaGreat

namespace Go.Proofs.YtgpmhmdofefdcaaGreat
open Go.RowKit Go.Sort
set_option linter.unusedVariables false
set_option linter.unusedSimpArgs false

/-- How a net stands in a list of nets of M nodes each. -/
def enN (M : Nat) (p : Na × Int) : List Value := (ntA p.1 M M p.2).toList
theorem enN_k (M : Nat) : EnK (enN M) 3 := ⟨fun _ => rfl, fun p v hv => (Array.all_eq_true_iff_forall_mem.1 (nt_ones p.1 M M p.2)) v (by simpa [enN] using hv)⟩
theorem elN : ElK Tryz.prog 44 31 3 (.agg ntZ) 56 := ⟨by kernel_rfl, by kernel_rfl, by kernel_rfl, by kernel_rfl, rfl, by omega⟩

/-- The two lists of a net, from B on, below top. -/
structure Wn (B top : Nat) (w : World) (M : Nat) (s : Na) : Prop where
  nod : ∃ ps, OK enC 26 54 B w s.na M s.nc ps
  cra : ∃ cr, cr.length = M ∧ OL .bool 4 B w s.ca M s.cc cr
  ap : ∀ p q, s.na = some p → s.ca = some q → p.block ≠ q.block
  nhi : ∀ p, s.na = some p → p.block < top
  chi : ∀ p, s.ca = some p → p.block < top
def Lies (s : Na) (p : Addr) : Prop := s.na = some p ∨ s.ca = some p
def ApN (s t : Na) : Prop := ∀ p q, Lies s p → Lies t q → p.block ≠ q.block
section
variable {B B' top top' M : Nat} {w w1 : World} {s t : Na}
theorem Wn.ge (h : Wn B top w M s) {p : Addr} (hp : Lies s p) : B ≤ p.block := by
  obtain ⟨_, h1⟩ := h.nod
  obtain ⟨_, _, h2⟩ := h.cra
  rcases hp with hp | hp
  · exact (h1.ltB hp).2
  · exact (h2.ltB hp).2
theorem Wn.lt (h : Wn B top w M s) {p : Addr} (hp : Lies s p) : p.block < top := by
  rcases hp with hp | hp
  · exact h.nhi p hp
  · exact h.chi p hp
theorem Wn.kept (h : Wn B top w M s) (k : ∀ p, Lies s p → w1.heap[p.block]? = w.heap[p.block]?) : Wn B top w1 M s := by
  obtain ⟨l, h1⟩ := h.nod
  obtain ⟨c, hc, h2⟩ := h.cra
  exact ⟨⟨l, h1.kept fun q hq => k ⟨q, 0, none⟩ (.inl hq)⟩, ⟨c, hc, h2.kept fun q hq => k ⟨q, 0, none⟩ (.inr hq)⟩, h.ap, h.nhi, h.chi⟩
theorem Wn.mono (h : Wn B top w M s) (hB : B' ≤ B) (ht : top ≤ top') : Wn B' top' w M s := by
  obtain ⟨l, h1⟩ := h.nod
  obtain ⟨c, hc, h2⟩ := h.cra
  exact ⟨⟨l, h1.mono hB⟩, ⟨c, hc, h2.mono hB⟩, h.ap, fun p hp => Nat.lt_of_lt_of_le (h.nhi p hp) ht, fun p hp => Nat.lt_of_lt_of_le (h.chi p hp) ht⟩
theorem Wn.apart (h : Wn B top w M s) (k : Wn top top' w M t) : ApN s t := fun p q hp hq e => by
  have := h.lt hp; have := k.ge hq; omega
theorem ApN.symm (h : ApN s t) : ApN t s := fun p q hp hq e => h q p hq hp e.symm
theorem Wn.of {ps : List Nd} {cr : List Bool} (h : NtO B w s ps cr) (hl : ps.length = M) (hc : cr.length = M) (ht : w.heap.size ≤ top) : Wn B top w M s := by
  subst hl
  have h2 := h.cra
  rw [hc] at h2
  refine ⟨⟨ps, h.nod⟩, ⟨cr, hc, h2⟩, fun p q hp hq e => ?_, fun p hp => Nat.lt_of_lt_of_le (h.nod.ltB hp).1 ht, fun p hp => Nat.lt_of_lt_of_le (h.cra.ltB hp).1 ht⟩
  rcases h.nod.ex with ⟨h0, _⟩ | ⟨g, cur, h1, _⟩
  · rw [h0] at hp; cases hp
  · rw [h1] at hp; cases hp
    exact (h.sn g h1).2 q hq e.symm

/-- A list of such nets, apart from one another. -/
structure WnL (B top : Nat) (w : World) (M : Nat) (xs : List (Na × Int)) : Prop where
  each : ∀ x ∈ xs, Wn B top w M x.1
  ap : ∀ (i j : Nat) (x y : Na × Int), i ≠ j → xs[i]? = some x → xs[j]? = some y → ApN x.1 y.1
variable {xs : List (Na × Int)} {x : Na × Int}
theorem WnL.kept (h : WnL B top w M xs) (k : ∀ x ∈ xs, ∀ p, Lies x.1 p → w1.heap[p.block]? = w.heap[p.block]?) : WnL B top w1 M xs := ⟨fun x hx => (h.each x hx).kept (k x hx), h.ap⟩
theorem WnL.below (h : WnL B top w M xs) (k : Below top w w1) : WnL B top w1 M xs := h.kept fun x hx p hp => k.block _ ((h.each x hx).lt hp)
theorem WnL.nil : WnL B top w M [] := ⟨fun x hx => (by cases hx), fun i j x y _ hx => (by simp at hx)⟩
theorem WnL.app (h : WnL B top w M xs) (k : Wn top top' w M x.1) (hB : B ≤ top) (ht : top ≤ top') : WnL B top' w M (xs ++ [x]) := by
  refine ⟨fun y hy => ?_, fun i j y z hij hy hz => ?_⟩
  · rcases List.mem_append.1 hy with hy | hy
    · exact (h.each y hy).mono (Nat.le_refl _) ht
    · rw [List.mem_singleton.1 hy]; exact k.mono hB (Nat.le_refl _)
  · rw [List.getElem?_append] at hy hz
    split at hy <;> split at hz
    · exact h.ap i j y z hij hy hz
    · obtain rfl : x = z := by have := List.mem_of_getElem? hz; rw [List.mem_singleton] at this; exact this.symm
      exact (h.each y (List.mem_of_getElem? hy)).apart k
    · obtain rfl : x = y := by have := List.mem_of_getElem? hy; rw [List.mem_singleton] at this; exact this.symm
      exact ((h.each z (List.mem_of_getElem? hz)).apart k).symm
    · exfalso
      have h1 := (List.getElem?_eq_some_iff.1 hy).1
      have h2 := (List.getElem?_eq_some_iff.1 hz).1
      simp only [List.length_singleton] at h1 h2
      omega
/-- A list of one of them has been written. -/
theorem WnL.put (h : WnL B top w M xs) {i : Nat} (hi : xs[i]? = some x) (hw : Wn B top w1 M x.1) {g : Nat} (hg : ∃ p, Lies x.1 p ∧ p.block = g) (k : ∀ q, q ≠ g → w1.heap[q]? = w.heap[q]?) : WnL B top w1 M xs := by
  obtain ⟨p, hp, rfl⟩ := hg
  refine ⟨fun y hy => ?_, h.ap⟩
  obtain ⟨j, hj⟩ := List.getElem?_of_mem hy
  by_cases hij : j = i
  · subst hij
    rw [hi] at hj; cases hj
    exact hw
  · exact (h.each y hy).kept fun q hq => k _ (h.ap j i y x hij hj hi q p hq hp)
end
end Go.Proofs.YtgpmhmdofefdcaaGreat

namespace Go.Proofs.YtgpmhmdofefdcaaGreat
open Go.RowKit Go.Sort
set_option linter.unusedVariables false
set_option linter.unusedSimpArgs false

theorem WnL.mono {B top top' M : Nat} {w : World} {xs : List (Na × Int)} (h : WnL B top w M xs) (ht : top ≤ top') : WnL B top' w M xs := ⟨fun x hx => (h.each x hx).mono (Nat.le_refl _) ht, h.ap⟩

theorem Wn.below {B top M : Nat} {w w1 : World} {s : Na} (h : Wn B top w M s) (k : Below top w w1) : Wn B top w1 M s := h.kept fun p hp => k.block _ (h.lt hp)

structure Oth (w8 w : World) (M : Nat) (a : Option Addr) (n c : Nat) (xs : List (Na × Int)) : Prop where
  own : OK (enN M) 3 31 w8.heap.size w a n c xs
  wl : WnL w8.heap.size w.heap.size w M xs
  nb : ∀ x ∈ xs, ∀ p, Lies x.1 p → NB a p.block
  bel : Below w8.heap.size w8 w
section
variable {w8 w w1 : World} {M n c : Nat} {a : Option Addr} {xs : List (Na × Int)}
theorem Oth.below (h : Oth w8 w M a n c xs) (k : Below w.heap.size w w1) : Oth w8 w1 M a n c xs :=
  ⟨h.own.below k, (h.wl.below k).mono k.size, h.nb, bstep h.bel k⟩
/-- One more, that lies in memory of its own: behind the append. -/
theorem Oth.app (h : Oth w8 w M a n c xs) {top : Nat} {x : Na × Int} {w2 : World} (hx : Wn w.heap.size top w1 M x.1) (ht : top ≤ w1.heap.size) (hw : w.heap.size ≤ top) (k : Below w.heap.size w w1) {a' : Option Addr} {c' : Nat}
    (own : OK (enN M) 3 31 w8.heap.size w2 a' (n + 1) c' (xs ++ [x])) (g : Below w8.heap.size w1 w2)
    (kq : ∀ q, q < w1.heap.size → NB a q → w2.heap[q]? = w1.heap[q]? ∧ NB a' q) (hz : w1.heap.size ≤ w2.heap.size) : Oth w8 w2 M a' (n + 1) c' (xs ++ [x]) := by
  have h1 := h.below k
  have ha : ∀ q, a = some ⟨q, 0, none⟩ → q < w.heap.size := fun q hq => (h.own.ltB hq).1
  have hnb : ∀ y ∈ xs ++ [x], ∀ p, Lies y.1 p → NB a p.block ∧ p.block < w1.heap.size := fun y hy p hp => by
    rcases List.mem_append.1 hy with hy | hy
    · exact ⟨h1.nb y hy p hp, (h1.wl.each y hy).lt hp⟩
    · rw [List.mem_singleton.1 hy] at hp
      have h2 := hx.ge hp
      have h3 := hx.lt hp
      refine ⟨fun q hq e => ?_, by omega⟩
      have h4 : q.block < w.heap.size := by
        rcases h.own.ex with ⟨h0, _⟩ | ⟨g', cur, e1, _⟩
        · rw [h0] at hq; cases hq
        · rw [e1] at hq; cases hq; exact ha _ e1
      omega
  have hL := (h.wl.below k).app hx h.bel.size hw
  exact ⟨own, (hL.kept fun y hy p hp => (kq _ (hnb y hy p hp).2 (hnb y hy p hp).1).1).mono (by omega), fun y hy p hp => (kq _ (hnb y hy p hp).2 (hnb y hy p hp).1).2, (bstep h.bel k).trans g⟩
end

theorem netDrop_all (w : World) (s : Na) (ps : List Nd) (cr : List Bool) (n : Nat) (z : Int) (k : Nat) (c : Ct) (s0 : Sl) (h : NtR w s ps cr) (hn : ps.length = n) (hm : cr.length = n) (hle : n ≤ 100000) (hS : ∀ p ∈ ps, Shr p.1)
    (hk : k < n) (hx : ps[k]? = some (c, s0)) (hcr : cr[k]? = some false) :
    Calls Tryz.prog 11 #[.agg (ntA s n n z), .int .i64 (k : Int)] w fun e w' => ∃ s' ok, e = .returned (.tuple #[.agg (ntA s' n n z), .bool ok]) ∧ (ok = true → ∃ qs, qs.length = n ∧ NtO w.heap.size w' s' qs cr) ∧ Below w.heap.size w w' :=
  (netDrop_any w s ps cr n z k c s0 h hn hm hle hS hk hx hcr).mono fun e w' hh => by
    rcases hh with ⟨s', qs, h1, h2, _, h4, h5⟩ | ⟨h1, h2⟩
    · exact ⟨s', true, h1, fun _ => ⟨qs, h2, h4⟩, h5⟩
    · exact ⟨s, false, h1, fun h0 => (by cases h0), h2⟩
end Go.Proofs.YtgpmhmdofefdcaaGreat
