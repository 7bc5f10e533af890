/-
  Contract: a frame given to a node of a net.
-/
import Derived.Test.YtgpmhmdofefdcaaGreatB9g
import Derived.Test.YtgpmhmdofefdcaaGreatB9r
namespace Go.Proofs.YtgpmhmdofefdcaaGreat
open Go.RowKit Go.Sort
set_option linter.unusedVariables false

theorem plain_ctlGive : plainFn 31 = true := by kernel_rfl


set_option maxRecDepth 100000 in
set_option maxHeartbeats 4000000 in
theorem netGive_any (w : World) (s : Na) (ps : List Nd) (cr : List Bool) (n : Nat) (z : Int) (k : Nat) (c : Ct) (s0 : Sl) (F : Fr) (a : Option Addr) (kc : Nat) (h : NtR w s ps cr) (hn : ps.length = n) (hm : cr.length = n) (hle : n ≤ 100000) (hS : ∀ p ∈ ps, Shr p.1)
    (hk : k < n) (hx : ps[k]? = some (c, s0)) (hcr : cr[k]? = some false) (hF : Good F) (h2 : RL bv w a F.data.length kc F.data) (hh : c.has = false) :
    Calls Tryz.prog 10 #[.agg (ntA s n n z), .int .i64 (k : Int), .agg (frV F a kc)] w fun e w' => ∃ s', e = .returned (.tuple #[.agg (ntA s' n n z), .int .i64 0]) ∧ ∃ qs, qs.length = n ∧ cts qs = (cts ps).set k { c with has := true, give := F } ∧ NtO w.heap.size w' s' qs cr ∧ Below w.heap.size w w' := by
  have hmem : (c, s0) ∈ ps := List.mem_of_getElem? hx
  obtain ⟨d1, d2, d3⟩ := hS _ hmem
  simp only at d1 d2 d3
  have hb0 : (((w.alloc (.cells (ntA s n n z) 31)).alloc (.cells (frV F a kc) 26)).alloc (.cells ntZ 31)).heap[w.heap.size]? = some (.cells (ntA s n n z) 31 (0, 0)) := bx_alloc _ (bx_alloc _ (heap_alloc_new w _))
  have hf0 : (((w.alloc (.cells (ntA s n n z) 31)).alloc (.cells (frV F a kc) 26)).alloc (.cells ntZ 31)).heap[w.heap.size + 1]? = some (.cells (frV F a kc) 26 (0, 0)) := by
    have := bx_alloc (.cells ntZ 31) (heap_alloc_new (w.alloc (.cells (ntA s n n z) 31)) (.cells (frV F a kc) 26)); rwa [heap_size_alloc] at this
  have hr0 : (((w.alloc (.cells (ntA s n n z) 31)).alloc (.cells (frV F a kc) 26)).alloc (.cells ntZ 31)).heap[w.heap.size + 2]? = some (.cells ntZ 31 (0, 0)) := by
    have := heap_alloc_new ((w.alloc (.cells (ntA s n n z) 31)).alloc (.cells (frV F a kc) 26)) (.cells ntZ 31); rwa [heap_size_alloc, heap_size_alloc] at this
  have g0 : Below w.heap.size w (((w.alloc (.cells (ntA s n n z) 31)).alloc (.cells (frV F a kc) 26)).alloc (.cells ntZ 31)) := bnew (bnew (bnew0 w _) _) _
  have hU := fun w1 (g1 : Below w.heap.size w w1) => up_any w1 s n cr z (k : Int) (h.cra.below g1) (by omega) (by omega)
  have hup : upB n cr (k : Int) = true := by
    unfold upB
    rw [decide_eq_true (by omega), Int.toNat_natCast, hcr]; simp
  rw [hup, hm] at hU
  go_enter Tryz.func10, Tryz.ntmps10
  go_upto_region 3 with (first
    | (with_reducible refine wpList_loadR rowN rfl _ rfl _ rfl hb0 rfl ?_)
    | (go_at_call 30; (with_reducible refine (hU _ g0).mono ?_); rintro e w1 ⟨rfl, g1⟩
       have hb1 := bx_below hb0 g1
       have hf1 := bx_below hf0 g1
       have hr1 := bx_below hr0 g1
       have gg1 := bstep g0 g1))
  obtain ⟨sna, snc, sca, scc⟩ := s
  have hR := h.below gg1
  have hN := hR.nod
  simp only at hN
  rw [hn] at hN
  obtain ⟨b, off, hab, hbl, hr⟩ := hN.range hx
  subst hab
  have hCl : CtR w1 c s0 := hR.sl _ hmem
  have hFl := h2.below gg1
  clear hN hb0 hf0 hr0 g0 g1 hU hup
  go_cut [8, 9] (fun p8 p9 wx => ∃ (q : Nat) (s1 : Sl), p8 = .pointer (some ⟨q, 0, none⟩) ∧ p9 = .int .i64 0 ∧ wx.heap[q]? = some (.cells (ctA { c with has := true, give := F } s1) 54 (0, 0)) ∧ CtO w1.heap.size wx { c with has := true, give := F } s1 ∧ Below w1.heap.size w1 wx)
  case first =>
    have hbD : (fun w' : World => Below w1.heap.size w1 w') w1.drew := below_drew1 (Below.refl _ _)
    refine Rest.begin (S := fun w' => Below w1.heap.size w1 w') (X := [3, 4, 6]) (by kernel_rfl) ?_
    change Rest _ _ _ _ _ _ _ _ _ w1.drew
    refine Rest.take (i := 0) (v := .pointer (some ⟨w.heap.size, 0, none⟩)) rfl (by kernel_rfl) (by kernel_rfl) (by kernel_rfl) (by kernel_rfl) (fun _ _ _ h => h) (.inl hbD) (Or.inl ⟨by simp [Region.wanted, yielded, Act.put], ?_⟩) ?_
    · intro w; go_simp
    refine Rest.takeS (i := 1) (v := .slice (some ⟨b, off, none⟩) n snc) rfl (by kernel_rfl) (by kernel_rfl) (by kernel_rfl) (by kernel_rfl) (fun _ _ _ h => h) hbD (Or.inl ⟨by simp [Region.wanted, yielded, Act.put], ?_⟩) ?_
    · intro w' h'
      have q := (bx3 (bx_below hb1 h')).1
      go_simp
    refine Rest.take (i := 2) (v := .int .i64 (k : Int)) rfl (by kernel_rfl) (by kernel_rfl) (by kernel_rfl) (by kernel_rfl) (fun _ _ _ h => h) (.inl hbD) (Or.inl ⟨by simp [Region.wanted, yielded, Act.put], ?_⟩) ?_
    · intro w; go_simp
    refine Rest.takeS (i := 3) (v := .pointer (some ⟨b, off + k * 26, none⟩)) rfl (by kernel_rfl) (by kernel_rfl) (by kernel_rfl) (by kernel_rfl) (fun _ _ _ h => h) hbD (Or.inl ⟨by simp [Region.wanted, yielded, Act.put], ?_⟩) ?_
    · intro w _; go_simp
    refine Rest.takeS (i := 4) (v := .agg (ctA c s0)) rfl (by kernel_rfl) (by kernel_rfl) (by kernel_rfl) (by kernel_rfl) (fun _ _ _ h => h) hbD (yields_loadM rowC (by simp [Region.wanted, yielded, Act.put]) _ rfl b (off + k * 26) (by simp [Act.eval, Act.put]) _ rfl (fun w' h' j v hv => (Below.cell (p := ⟨b, _, none⟩) h' hbl).trans (hr j v hv))) ?_
    refine Rest.takeS (i := 5) (v := .agg (frV F a kc)) rfl (by kernel_rfl) (by kernel_rfl) (by kernel_rfl) (by kernel_rfl) (fun _ _ _ h => h) hbD (yields_loadR rowF (by simp [Region.wanted, yielded, Act.put]) _ rfl (w.heap.size + 1) (by simp [Act.eval, Act.put]) _ rfl (fun w' h' => ⟨_, _, bx_below hf1 h'⟩)) ?_
    refine Rest.two (i := 6) (j := 10) (by kernel_rfl) rfl rfl (fun K hK => ?_) (fun K hK => ?_)
    · refine draw_callF 31 plain_ctlGive (by simp [Region.wanted]) _ _ _ rfl (by simp [Act.eval]) #[.agg (ctA c s0), .agg (frV F a kc)] (by simp [Act.eval, Act.put]) _ (give_yes w1.drew c s0 F hF a kc (hCl.below hbD) (hFl.below hbD) hh d2 d3) ?_
      rintro e w5 ⟨s5, rfl, o5, g5⟩
      refine ⟨_, rfl, ?_⟩
      have b5 : Below w1.heap.size w1 w5 := hbD.trans (g5.mono (by simp))
      refine hK _ _ ⟨.inl b5, Rest.of_any _ _ _ _ (thru_of (by kernel_rfl)) ?_⟩; clear hK K
      refine wpAny_take (i := 7) (v := .tuple #[.agg (ctA { c with has := true, give := F } s5), .int .i64 0]) rfl (by kernel_rfl) (by kernel_rfl) (by kernel_rfl) (fun _ _ _ h => h) (Or.inl ⟨by simp [Region.wanted], ?_⟩) ?_
      · intro w; go_simp
      refine wpAny_take (i := 8) (v := .agg (ctA { c with has := true, give := F } s5)) rfl (by kernel_rfl) (by kernel_rfl) (by kernel_rfl) (fun _ _ _ h => h) (Or.inl ⟨by simp [Region.wanted], ?_⟩) ?_
      · intro w; go_simp
      refine wpAny_take (i := 9) (v := .int .i64 0) rfl (by kernel_rfl) (by kernel_rfl) (by kernel_rfl) (fun _ _ _ h => h) (Or.inl ⟨by simp [Region.wanted], ?_⟩) ?_
      · intro w; go_simp
      refine wpAny_ready (rs := [10]) (by kernel_rfl) (by simp) ?_
      refine AllReady.cons rfl (fun K hK => ?_) AllReady.nil
      go_simp
      refine hK _ _ ?_; clear hK K
      have hz := heap_alloc_new w5 (.cells ctZ 54)
      refine wpAny_ready (rs := [11]) (by kernel_rfl) (by simp) ?_
      refine AllReady.cons rfl (fun K hK => ?_) AllReady.nil
      refine draw_storeR rowC rfl _ _ rfl w5.heap.size (ctA { c with has := true, give := F } s5) rfl rfl hz rfl rfl (ct_ones _ _) ?_
      refine hK _ _ ?_; clear hK K
      refine wpAny_ready (rs := [12]) (by kernel_rfl) (by simp) ?_
      refine AllReady.cons rfl (fun K hK => ?_) AllReady.nil
      go_simp
      refine hK _ _ ?_; clear hK K
      refine wpAny_done (by kernel_rfl) ?_ _
      go_wp2_with fail
      go_meet
      exact ⟨_, s5, rfl, rfl, setRow_heap _ _ _ _ _ _ hz, ((o5.alloc _).setRow (o5.fresh (Nat.le_refl _)) _).mono (by simp), below_setRow (bnew b5 _) b5.size _⟩
    · go_simp
      have hbA : Below w1.heap.size w1 (w1.drew.alloc (.cells ctZ 54)) := bnew hbD _
      refine hK _ _ ⟨.inl hbA, ?_⟩; clear hK K
      have hz0 := heap_alloc_new w1.drew (.cells ctZ 54)
      refine Rest.one (i := 6) (by kernel_rfl) rfl (fun K hK => ?_)
      refine draw_callF 31 plain_ctlGive (by simp [Region.wanted]) _ _ _ rfl (by simp [Act.eval]) #[.agg (ctA c s0), .agg (frV F a kc)] (by simp [Act.eval, Act.put]) _ (give_yes (w1.drew.alloc (.cells ctZ 54)) c s0 F hF a kc (hCl.below hbA) (hFl.below hbA) hh d2 d3) ?_
      rintro e w5 ⟨s5, rfl, o5, g5⟩
      refine ⟨_, rfl, ?_⟩
      have b5 : Below w1.heap.size w1 w5 := bstep hbA g5
      have hz := bx_below hz0 g5
      refine hK _ _ ⟨.inl b5, Rest.of_any _ _ _ _ (thru_of (by kernel_rfl)) ?_⟩; clear hK K
      refine wpAny_take (i := 7) (v := .tuple #[.agg (ctA { c with has := true, give := F } s5), .int .i64 0]) rfl (by kernel_rfl) (by kernel_rfl) (by kernel_rfl) (fun _ _ _ h => h) (Or.inl ⟨by simp [Region.wanted], ?_⟩) ?_
      · intro w; go_simp
      refine wpAny_take (i := 8) (v := .agg (ctA { c with has := true, give := F } s5)) rfl (by kernel_rfl) (by kernel_rfl) (by kernel_rfl) (fun _ _ _ h => h) (Or.inl ⟨by simp [Region.wanted], ?_⟩) ?_
      · intro w; go_simp
      refine wpAny_take (i := 9) (v := .int .i64 0) rfl (by kernel_rfl) (by kernel_rfl) (by kernel_rfl) (fun _ _ _ h => h) (Or.inl ⟨by simp [Region.wanted], ?_⟩) ?_
      · intro w; go_simp
      refine wpAny_ready (rs := [11]) (by kernel_rfl) (by simp) ?_
      refine AllReady.cons rfl (fun K hK => ?_) AllReady.nil
      refine draw_storeR rowC rfl _ _ rfl w1.drew.heap.size (ctA { c with has := true, give := F } s5) rfl rfl hz rfl rfl (ct_ones _ _) ?_
      refine hK _ _ ?_; clear hK K
      refine wpAny_ready (rs := [12]) (by kernel_rfl) (by simp) ?_
      refine AllReady.cons rfl (fun K hK => ?_) AllReady.nil
      go_simp
      refine hK _ _ ?_; clear hK K
      refine wpAny_done (by kernel_rfl) ?_ _
      go_wp2_with fail
      go_meet
      exact ⟨_, s5, rfl, rfl, setRow_heap _ _ _ _ _ _ hz, (o5.setRow (o5.nbs (by simp)) _).mono (by simp), below_setRow b5 (by simp) _⟩
  case rest =>
    obtain ⟨q, s1, rfl, rfl, hq, ho, gc⟩ := hcut
    have hb2 := bx_below hb1 gc
    have hr2 := bx_below hr1 gc
    have lg := gg1.size
    have gg2 := bstep gg1 gc
    have hWi := with_any wc w1.heap.size ⟨some ⟨b, off, none⟩, snc, sca, scc⟩ ps cr n z k { c with has := true, give := F } s1 (hR.below gc) hn hm hle hS hk ho gc.size
    have hrr := hr1
    clear hR hCl hFl hb1 hf1 hr1 hr h h2 hS hx hmem
    go_wp2_with (first
      | (with_reducible refine wpList_loadR rowN rfl _ rfl _ rfl hb2 rfl ?_)
      | (with_reducible refine wpList_loadR rowC rfl _ rfl _ rfl hq rfl ?_)
      | (go_at_call 32; (with_reducible refine hWi.mono ?_); rintro e w6 ⟨s6, rfl, qs, k1, k2, o6, g6⟩; have hr6 := bx_below hr2 g6; have gg6 := bstep gg2 g6)
      | (with_reducible refine wpList_storeR rowN rfl _ _ rfl _ _ rfl rfl hr6 rfl rfl (nt_ones _ _ _ _) ?_))
    have o7 := (o6.setRow (show w.heap.size + 2 < w1.heap.size from bx_lt hrr) (ntA s6 n n z)).mono lg
    exact bodyPost_ret (v := .tuple #[.agg (ntA s6 n n z), .int .i64 0]) (results_row1 rowN rfl _ _ _ rfl rfl (setRow_heap _ _ _ _ _ _ hr6) rfl) rfl ⟨s6, rfl, qs, k1, k2, o7, below_setRow gg6 (by omega) _⟩
end Go.Proofs.YtgpmhmdofefdcaaGreat
