/-
  Contract: Step.
-/
import Derived.Test.YtgpmhmdofefdcaaGreatB8p
namespace Go.Proofs.YtgpmhmdofefdcaaGreat
open Go.RowKit Go.Sort
set_option linter.unusedVariables false

theorem CtO.fresh {B : Nat} {w : World} {c : Ct} {s : Sl} (h : CtO B w c s) {k : Nat} (hk : w.heap.size ≤ k) : NBs s k :=
  ⟨fun q hq e => by have := (h.da.ltB hq).1; omega, fun q hq e => by have := (h.wi.ltB hq).1; omega, fun q hq e => by have := (h.ti.ltB hq).1; omega⟩

/-- The cells of a controller that is zero. -/
abbrev ctZ : Array Value := #[.int .u8 0, .int .i64 0, .int .i64 0, .int .i64 0, .bool false, .int .i64 0, .int .i64 0, .bool false, .int .u32 0, .bool false, .bool false, .int .u8 0, .slice none 0 0, .bool false, .bool false, .slice none 0 0, .int .i64 0, .bool false, .int .u8 0, .slice none 0 0, .int .u8 0, .bool false, .bool false, .int .u8 0, .bool false, .bool false]
theorem ctZ_is : ctZ = (ctA c0 sl0 : Array Value) := rfl

theorem ct_size (c : Ct) (s : Sl) : (ctA c s).size = 26 := rfl

set_option maxRecDepth 100000 in
set_option maxHeartbeats 2000000 in
theorem step_any (w : World) (c : Ct) (s : Sl) (x : Bool) (h : CtR w c s) (hok : StepOK c) :
    Calls Tryz.prog 29 #[.agg (ctA c s), .bool x] w fun e w' => ∃ s' a n, e = .returned (.tuple #[.agg (ctA (stC c x).1 s'), .agg (hapA (stC c x).2 a n)]) ∧ CtO w.heap.size w' (stC c x).1 s' ∧
      OL bv 5 w.heap.size w' a (stC c x).2.2.data.length n (stC c x).2.2.data ∧ Below w.heap.size w w' := by
  obtain ⟨F, hF, hpl, hL⟩ := lead8 c x hok
  have hcf := fun args w => call_plain hpl args w
  clear hpl
  have hdo : ∀ w, Calls Tryz.prog 44 #[] w fun e w' => e = .returned (.agg #[.func (.func 56) #[] #[], .func (.func 57) #[] #[], .func (.func 58) #[] #[], .func (.func 59) #[] #[], .func (.func 58) #[] #[], .func (.func 60) #[] #[], .func (.func 61) #[] #[], .func (.func 62) #[] #[], .func (.func 63) #[] #[], .func (.func 64) #[] #[]]) ∧ Below w.heap.size w w' := doings_any
  have hph := hok.ph
  have hA : ∀ w1, CtR w1 c s → Calls Tryz.prog 42 #[.agg (ctA c s)] w1 fun e w' => ∃ s', e = .returned (.agg #[.int .u8 (c.ph : Int), .int .i64 (c.n : Int), .int .i64 c.cf.t, .int .i64 c.cf.r, .bool c.cf.o, .int .i64 c.cf.n, .int .i64 c.cf.m, .bool c.has, .int .u32 (c.give.id : Int), .bool c.give.ext, .bool c.give.rem, .int .u8 (c.give.dlc : Int), .slice s'.da c.give.data.length s'.dc, .bool c.sends, .bool c.sender, .slice s'.wa c.wire.length s'.wc, .int .i64 (c.pos : Int), .bool c.tk.b, .int .u8 (c.tk.m : Int), .slice s'.ta c.tk.l.length s'.tc, .int .u8 (c.tk.p : Int), .bool c.tk.fi, .bool c.rl, .int .u8 (c.rm : Int), .bool c.err, .bool c.owed]) ∧ CtO w1.heap.size w' c s' ∧ Below w1.heap.size w1 w' :=
    fun (w1 : World) (k : CtR w1 c s) => apart_any w1 c s k hok.dl hok.wl hok.tl
  generalize stC c x = r at *
  obtain ⟨p, hp⟩ : ∃ p, p = c.ph := ⟨_, rfl⟩
  have q0 : (ctA c s)[0]? = some (.int .u8 (p : Int)) := by rw [hp]; rfl
  rw [← hp] at hF hph
  replace hF : ([.func (.func 56) #[] #[], .func (.func 57) #[] #[], .func (.func 58) #[] #[], .func (.func 59) #[] #[], .func (.func 58) #[] #[], .func (.func 60) #[] #[], .func (.func 61) #[] #[], .func (.func 62) #[] #[], .func (.func 63) #[] #[], .func (.func 64) #[] #[]] : List Value)[p]? = some (.func (.func F) #[] #[]) := by rw [← hF]; unfold doC; simp
  clear hp
  have hF2 : ∀ hh : p < ([.func (.func 56) #[] #[], .func (.func 57) #[] #[], .func (.func 58) #[] #[], .func (.func 59) #[] #[], .func (.func 58) #[] #[], .func (.func 60) #[] #[], .func (.func 61) #[] #[], .func (.func 62) #[] #[], .func (.func 63) #[] #[], .func (.func 64) #[] #[]] : List Value).length, ([.func (.func 56) #[] #[], .func (.func 57) #[] #[], .func (.func 58) #[] #[], .func (.func 59) #[] #[], .func (.func 58) #[] #[], .func (.func 60) #[] #[], .func (.func 61) #[] #[], .func (.func 62) #[] #[], .func (.func 63) #[] #[], .func (.func 64) #[] #[]] : List Value)[p]'hh = .func (.func F) #[] #[] := fun hh => by rw [List.getElem?_eq_getElem hh] at hF; exact Option.some.inj hF
  have i1 : ¬ (10 : Int) ≤ (p : Int) := by omega
  have i2 : (p : Int) < 10 := by omega
  have hb0 := bx_alloc (.cells hap0 63) (bx_alloc (.cells ctZ 54) (heap_alloc_new w (.cells (ctA c s) 54)))
  have g0 : Below w.heap.size w (((w.alloc (.cells (ctA c s) 54)).alloc (.cells ctZ 54)).alloc (.cells hap0 63)) := bnew (bnew (bnew0 w _) _) _
  have z0 : (((w.alloc (.cells (ctA c s) 54)).alloc (.cells ctZ 54)).alloc (.cells hap0 63)).heap.size = w.heap.size + 3 := by simp
  have hr0 : (((w.alloc (.cells (ctA c s) 54)).alloc (.cells ctZ 54)).alloc (.cells hap0 63)).heap[w.heap.size + 1]? = some (.cells ctZ 54 (0, 0)) := by
    refine bx_alloc _ ?_
    have := heap_alloc_new (w.alloc (.cells (ctA c s) 54)) (.cells ctZ 54); rwa [heap_size_alloc] at this
  have hh0 : (((w.alloc (.cells (ctA c s) 54)).alloc (.cells ctZ 54)).alloc (.cells hap0 63)).heap[w.heap.size + 2]? = some (.cells hap0 63 (0, 0)) := by
    have := heap_alloc_new ((w.alloc (.cells (ctA c s) 54)).alloc (.cells ctZ 54)) (.cells hap0 63); rwa [heap_size_alloc, heap_size_alloc] at this
  have h0 := h.below g0
  clear hok
  go_enter Tryz.func29, Tryz.ntmps29
  go_upto_region 6 with (first
    | (with_reducible refine wpList_loadR rowC rfl _ rfl _ rfl hb0 rfl ?_)
    | (go_at_call 42; refine (hA _ h0).mono ?_; rintro e w1 ⟨s1, rfl, o1, g1⟩
       have hb1 := bx_below hb0 g1
       have hr1 := bx_below hr0 g1
       have hh1 := bx_below hh0 g1
       have gg1 := bstep g0 g1
       have z1 := g1.size
       have hz := heap_alloc_new w1 (.cells ctZ 92))
    | (with_reducible refine wpList_storeR rowS rfl _ _ rfl _ _ rfl rfl hz rfl rfl (by kernel_rfl) ?_)
    | (go_at_call 44
       have hn1 : w.heap.size ≠ w1.heap.size ∧ w.heap.size + 1 ≠ w1.heap.size ∧ w.heap.size + 2 ≠ w1.heap.size := by omega
       have hb2 := (setRow_other (w1.alloc (.cells ctZ 92)) w1.heap.size w.heap.size (ctA c s1) hn1.1).trans (bx_alloc _ hb1)
       have hr2 := (setRow_other (w1.alloc (.cells ctZ 92)) w1.heap.size (w.heap.size + 1) (ctA c s1) hn1.2.1).trans (bx_alloc _ hr1)
       have hh2 := (setRow_other (w1.alloc (.cells ctZ 92)) w1.heap.size (w.heap.size + 2) (ctA c s1) hn1.2.2).trans (bx_alloc _ hh1)
       have st2 : StB (w.heap.size + 3) ((w1.alloc (.cells ctZ 92)).setRow w1.heap.size (ctA c s1)) w1.heap.size c s1 := by
         have k := ((o1.alloc (.cells ctZ 92)).setRow (o1.fresh (Nat.le_refl _)) (ctA c s1)).mono (show w.heap.size + 3 ≤ _ by omega)
         exact ⟨setRow_heap _ _ _ _ _ _ hz, by omega, k.da, k.wi, k.ti, o1.fresh (Nat.le_refl _)⟩
       have gg2 : Below w.heap.size w ((w1.alloc (.cells ctZ 92)).setRow w1.heap.size (ctA c s1)) := below_setRow (bnew gg1 _) (by omega) _
       refine (hdo _).mono ?_
       rintro e w3 ⟨rfl, g3⟩
       have hb3 := bx_below hb2 g3
       have hr3 := bx_below hr2 g3
       have hh3 := bx_below hh2 g3
       have st3 := st2.below g3
       have gg3 := bstep gg2 g3
       have z3 := g3.size
       have z2 : ((w1.alloc (.cells ctZ 92)).setRow w1.heap.size (ctA c s1)).heap.size = w1.heap.size + 1 := by simp
       have q3 : (w3.alloc (.cells #[.func (.func 56) #[] #[], .func (.func 57) #[] #[], .func (.func 58) #[] #[], .func (.func 59) #[] #[], .func (.func 58) #[] #[], .func (.func 60) #[] #[], .func (.func 61) #[] #[], .func (.func 62) #[] #[], .func (.func 63) #[] #[], .func (.func 64) #[] #[]] 94)).cell? ⟨w.heap.size, 0, none⟩ = some (.int .u8 (p : Int)) := by rw [bxC (bx_alloc _ hb3) 0]; exact q0)
    | ((with_reducible refine (hL _ _ _ _ (st3.alloc _)).mono ?_); rintro e w4 ⟨s4, a4, n4, rfl, l4, o4, b4⟩))
  have l3 := st3.lt
  have e2 : ∀ (q : Nat) (o : Obj), q < w1.heap.size → w4.heap[q]? = w3.heap[q]? := fun q o hq => by
    rw [l4.wr.block q (by rw [heap_size_alloc]; omega) (by omega)]; exact (bnew0 w3 _).block q (by omega)
  have gl := l4.wr.size
  rw [heap_size_alloc] at gl
  have gg4 : Below w.heap.size w w4 := (l4.wr.below (bnew gg3 _) (by omega) (by rw [heap_size_alloc]; omega))
  have st5 := l4.st.alloc (.cells (hapA r.2 a4 n4) 63)
  have o5 := o4.alloc (.cells (hapA r.2 a4 n4) 63)
  have hx5 := heap_alloc_new w4 (.cells (hapA r.2 a4 n4) 63)
  have hr5 := bx_alloc (.cells (hapA r.2 a4 n4) 63) ((e2 (w.heap.size + 1) default (by omega)).trans hr3)
  have hh5 := bx_alloc (.cells (hapA r.2 a4 n4) 63) ((e2 (w.heap.size + 2) default (by omega)).trans hh3)
  have gg5 : Below w.heap.size w (w4.alloc (.cells (hapA r.2 a4 n4) 63)) := bnew gg4 _
  change Code.wp _ _ _ _ (w4.alloc (.cells (hapA r.2 a4 n4) 63))
  generalize w4.alloc (.cells (hapA r.2 a4 n4) 63) = W at *
  obtain ⟨b0, b1, b2⟩ : w.heap.size + 1 < w1.heap.size ∧ w.heap.size + 2 < w1.heap.size ∧ w.heap.size + 1 ≠ w4.heap.size := by omega
  have bW := st5.lt
  have hW1 : (W.drew.setRow (w.heap.size + 1) (ctA r.1 s4)).heap[w4.heap.size]? = some (.cells (hapA r.2 a4 n4) 63 (0, 0)) := (setRow_other _ _ _ _ (by omega)).trans hx5
  have hW2 : (W.drew.setRow (w.heap.size + 1) (ctA r.1 s4)).heap[w.heap.size + 2]? = some (.cells hap0 63 (0, 0)) := (setRow_other _ _ _ _ (by omega)).trans hh5
  have hW3 : (W.drew.setRow (w.heap.size + 1) (ctA r.1 s4)).heap[w.heap.size + 1]? = some (.cells (ctA r.1 s4) 54 (0, 0)) := setRow_heap _ _ _ _ _ _ hr5
  have hW4 := (setRow_other (W.drew.setRow (w.heap.size + 1) (ctA r.1 s4)) (w.heap.size + 2) (w.heap.size + 1) (hapA r.2 a4 n4) (by omega)).trans hW3
  have hW5 : ((W.drew.setRow (w.heap.size + 1) (ctA r.1 s4)).setRow (w.heap.size + 2) (hapA r.2 a4 n4)).heap[w.heap.size + 2]? = some (.cells (hapA r.2 a4 n4) 63 (0, 0)) := setRow_heap _ _ _ _ _ _ hW2
  have gW : Below w.heap.size w ((W.drew.setRow (w.heap.size + 1) (ctA r.1 s4)).setRow (w.heap.size + 2) (hapA r.2 a4 n4)) :=
    below_setRow (below_setRow (gg5.trans ((below_drewN (Below.refl _ W) 1).mono gg5.size)) (by omega) _) (by omega) _
  have oC : CtO (w.heap.size + 3) ((W.drew.setRow (w.heap.size + 1) (ctA r.1 s4)).setRow (w.heap.size + 2) (hapA r.2 a4 n4)) r.1 s4 :=
    CtO.setRow (CtO.setRow (w := W.drew) ⟨st5.da, st5.wi, st5.ti⟩ (st5.o.nbs (by omega)) _) (st5.o.nbs (by omega)) _
  have oD : OL bv 5 (w.heap.size + 3) ((W.drew.setRow (w.heap.size + 1) (ctA r.1 s4)).setRow (w.heap.size + 2) (hapA r.2 a4 n4)) a4 r.2.2.data.length n4 r.2.2.data :=
    (OL.kept (w' := W.drew.setRow (w.heap.size + 1) (ctA r.1 s4)) o5 fun q hq => setRow_other W.drew _ _ _ (by have := (o5.ltB hq).2; dsimp only at this; omega)).kept fun q hq => setRow_other _ _ _ _ (by have := (o5.ltB hq).2; dsimp only at this; omega)
  refine wp_region_any (by kernel_rfl) ?_
  change wpAny _ _ _ _ _ _ _ W.drew
  refine wpAny_take (i := 0) (v := .pointer (some ⟨w1.heap.size, 0, none⟩)) rfl (by kernel_rfl) (by kernel_rfl) (by kernel_rfl) (fun _ _ _ h => h) (Or.inl ⟨by rfl, ?_⟩) ?_
  · intro w; go_simp
  refine wpAny_ready (rs := [1, 2]) (by kernel_rfl) (by simp) ?_
  refine AllReady.cons rfl (fun K hK => ?_) (AllReady.cons rfl (fun K hK => ?_) AllReady.nil)
  · refine draw_loadR rowC rfl _ rfl w1.heap.size rfl (w := W.drew) st5.box rfl ?_
    refine hK _ _ ?_; clear hK K
    refine wpAny_ready (rs := [2, 3]) (by kernel_rfl) (by simp) ?_
    refine AllReady.cons rfl (fun K hK => ?_) (AllReady.cons rfl (fun K hK => ?_) AllReady.nil)
    · refine draw_loadR rowH rfl _ rfl w4.heap.size rfl (w := W.drew) hx5 rfl ?_
      refine hK _ _ ?_; clear hK K
      refine wpAny_ready (rs := [3]) (by kernel_rfl) (by simp) ?_
      refine AllReady.cons rfl (fun K hK => ?_) AllReady.nil
      refine draw_storeR rowC rfl _ _ rfl (w.heap.size + 1) _ rfl rfl (w := W.drew) hr5 rfl rfl (ct_ones _ _) ?_
      refine hK _ _ ?_; clear hK K
      refine wpAny_ready (rs := [4]) (by kernel_rfl) (by simp) ?_
      refine AllReady.cons rfl (fun K hK => ?_) AllReady.nil
      refine draw_storeR rowH rfl _ _ rfl (w.heap.size + 2) _ rfl rfl hW2 rfl rfl (hap_ones _ _ _) ?_
      refine hK _ _ ?_; clear hK K
      refine wpAny_done (by kernel_rfl) ?_ _
      go_wp2
      exact bodyPost_ret (v := .tuple #[.agg (ctA r.1 s4), .agg (hapA r.2 a4 n4)]) (results_row2 rowC rowH rfl _ _ _ _ rfl rfl hW4 hW5 rfl rfl) rfl ⟨s4, a4, n4, rfl, oC.mono (by omega), oD.mono (by omega), gW⟩
    · refine draw_storeR rowC rfl _ _ rfl (w.heap.size + 1) _ rfl rfl (w := W.drew) hr5 rfl rfl (ct_ones _ _) ?_
      refine hK _ _ ?_; clear hK K
      refine wpAny_ready (rs := [2]) (by kernel_rfl) (by simp) ?_
      refine AllReady.cons rfl (fun K hK => ?_) AllReady.nil
      refine draw_loadR rowH rfl _ rfl w4.heap.size rfl hW1 rfl ?_
      refine hK _ _ ?_; clear hK K
      refine wpAny_ready (rs := [4]) (by kernel_rfl) (by simp) ?_
      refine AllReady.cons rfl (fun K hK => ?_) AllReady.nil
      refine draw_storeR rowH rfl _ _ rfl (w.heap.size + 2) _ rfl rfl hW2 rfl rfl (hap_ones _ _ _) ?_
      refine hK _ _ ?_; clear hK K
      refine wpAny_done (by kernel_rfl) ?_ _
      go_wp2
      exact bodyPost_ret (v := .tuple #[.agg (ctA r.1 s4), .agg (hapA r.2 a4 n4)]) (results_row2 rowC rowH rfl _ _ _ _ rfl rfl hW4 hW5 rfl rfl) rfl ⟨s4, a4, n4, rfl, oC.mono (by omega), oD.mono (by omega), gW⟩
  · refine draw_loadR rowH rfl _ rfl w4.heap.size rfl (w := W.drew) hx5 rfl ?_
    refine hK _ _ ?_; clear hK K
    refine wpAny_ready (rs := [1]) (by kernel_rfl) (by simp) ?_
    refine AllReady.cons rfl (fun K hK => ?_) AllReady.nil
    refine draw_loadR rowC rfl _ rfl w1.heap.size rfl (w := W.drew) st5.box rfl ?_
    refine hK _ _ ?_; clear hK K
    refine wpAny_ready (rs := [3]) (by kernel_rfl) (by simp) ?_
    refine AllReady.cons rfl (fun K hK => ?_) AllReady.nil
    refine draw_storeR rowC rfl _ _ rfl (w.heap.size + 1) _ rfl rfl (w := W.drew) hr5 rfl rfl (ct_ones _ _) ?_
    refine hK _ _ ?_; clear hK K
    refine wpAny_ready (rs := [4]) (by kernel_rfl) (by simp) ?_
    refine AllReady.cons rfl (fun K hK => ?_) AllReady.nil
    refine draw_storeR rowH rfl _ _ rfl (w.heap.size + 2) _ rfl rfl hW2 rfl rfl (hap_ones _ _ _) ?_
    refine hK _ _ ?_; clear hK K
    refine wpAny_done (by kernel_rfl) ?_ _
    go_wp2
    exact bodyPost_ret (v := .tuple #[.agg (ctA r.1 s4), .agg (hapA r.2 a4 n4)]) (results_row2 rowC rowH rfl _ _ _ _ rfl rfl hW4 hW5 rfl rfl) rfl ⟨s4, a4, n4, rfl, oC.mono (by omega), oD.mono (by omega), gW⟩
end Go.Proofs.YtgpmhmdofefdcaaGreat
