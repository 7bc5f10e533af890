/-
  Contract: Give of a net with a frame that is not right; and all frames of a list given to the first nodes of a new net (given).
  Contract: given: a new net, of which the first nodes get the frames of a list.
-/
import Derived.Test.YtgpmhmdofefdcaaGreatB9h
import Derived.Test.YtgpmhmdofefdcaaGreatB9j
namespace Go.Proofs.YtgpmhmdofefdcaaGreat
open Go.RowKit Go.Sort
set_option linter.unusedVariables false

set_option maxRecDepth 100000 in
set_option maxHeartbeats 4000000 in
theorem netGive_wrong (w : World) (s : Na) (ps : List Nd) (cr : List Bool) (n : Nat) (z : Int) (k : Nat) (c : Ct) (s0 : Sl) (F : Fr) (a : Option Addr) (kc : Nat) (h : NtR w s ps cr) (hn : ps.length = n) (hm : cr.length = n) (hle : n ≤ 100000) (hS : ∀ p ∈ ps, Shr p.1)
    (hk : k < n) (hx : ps[k]? = some (c, s0)) (hcr : cr[k]? = some false) (hi : F.id < 4294967296) (hd : F.dlc < 256) (hr : riF F.id F.ext F.rem F.dlc F.data.length = false) :
    Calls Tryz.prog 10 #[.agg (ntA s n n z), .int .i64 (k : Int), .agg (frV F a kc)] w fun e w' => e = .returned (.tuple #[.agg (ntA s n n z), .int .i64 40]) ∧ Below w.heap.size w w' := by
  have hmem : (c, s0) ∈ ps := List.mem_of_getElem? hx
  obtain ⟨d1, d2, d3⟩ := hS _ hmem
  simp only at d1 d2 d3
  have hb0 : (((w.alloc (.cells (ntA s n n z) 31)).alloc (.cells (frV F a kc) 26)).alloc (.cells ntZ 31)).heap[w.heap.size]? = some (.cells (ntA s n n z) 31 (0, 0)) := bx_alloc _ (bx_alloc _ (heap_alloc_new w _))
  have hf0 : (((w.alloc (.cells (ntA s n n z) 31)).alloc (.cells (frV F a kc) 26)).alloc (.cells ntZ 31)).heap[w.heap.size + 1]? = some (.cells (frV F a kc) 26 (0, 0)) := by
    have := bx_alloc (.cells ntZ 31) (heap_alloc_new (w.alloc (.cells (ntA s n n z) 31)) (.cells (frV F a kc) 26)); rwa [heap_size_alloc] at this
  have hr0 : (((w.alloc (.cells (ntA s n n z) 31)).alloc (.cells (frV F a kc) 26)).alloc (.cells ntZ 31)).heap[w.heap.size + 2]? = some (.cells ntZ 31 (0, 0)) := by
    have := heap_alloc_new ((w.alloc (.cells (ntA s n n z) 31)).alloc (.cells (frV F a kc) 26)) (.cells ntZ 31); rwa [heap_size_alloc, heap_size_alloc] at this
  have g0 : Below w.heap.size w (((w.alloc (.cells (ntA s n n z) 31)).alloc (.cells (frV F a kc) 26)).alloc (.cells ntZ 31)) := bnew (bnew (bnew0 w _) _) _
  have hU := fun w1 (g1 : Below w.heap.size w w1) => up_any w1 s n cr z (k : Int) (h.cra.below g1) (by omega) (by omega)
  have hup : upB n cr (k : Int) = true := by
    unfold upB
    rw [decide_eq_true (by omega), Int.toNat_natCast, hcr]; simp
  rw [hup, hm] at hU
  go_enter Tryz.func10, Tryz.ntmps10
  go_upto_region 3 with (first
    | (with_reducible refine wpList_loadR rowN rfl _ rfl _ rfl hb0 rfl ?_)
    | (go_at_call 30; (with_reducible refine (hU _ g0).mono ?_); rintro e w1 ⟨rfl, g1⟩
       have hb1 := bx_below hb0 g1
       have hf1 := bx_below hf0 g1
       have hr1 := bx_below hr0 g1
       have gg1 := bstep g0 g1))
  obtain ⟨sna, snc, sca, scc⟩ := s
  have hR := h.below gg1
  have hN := hR.nod
  simp only at hN
  rw [hn] at hN
  obtain ⟨b, off, hab, hbl, hr'⟩ := hN.range hx
  subst hab
  have hCl : CtR w1 c s0 := hR.sl _ hmem
  clear hN hb0 hf0 hr0 g0 g1 hU hup
  go_cut [8, 9] (fun p8 p9 wx => ∃ (q : Nat), p8 = .pointer (some ⟨q, 0, none⟩) ∧ p9 = .int .i64 40 ∧ Below w1.heap.size w1 wx)
  case first =>
    have hbD : (fun w' : World => Below w1.heap.size w1 w') w1.drew := below_drew1 (Below.refl _ _)
    refine Rest.begin (S := fun w' => Below w1.heap.size w1 w') (X := [3, 4, 6]) (by kernel_rfl) ?_
    change Rest _ _ _ _ _ _ _ _ _ w1.drew
    refine Rest.take (i := 0) (v := .pointer (some ⟨w.heap.size, 0, none⟩)) rfl (by kernel_rfl) (by kernel_rfl) (by kernel_rfl) (by kernel_rfl) (fun _ _ _ h => h) (.inl hbD) (Or.inl ⟨by simp [Region.wanted], ?_⟩) ?_
    · intro w; go_simp
    refine Rest.takeS (i := 1) (v := .slice (some ⟨b, off, none⟩) n snc) rfl (by kernel_rfl) (by kernel_rfl) (by kernel_rfl) (by kernel_rfl) (fun _ _ _ h => h) hbD (Or.inl ⟨by simp [Region.wanted], ?_⟩) ?_
    · intro w' h'
      have q := (bx3 (bx_below hb1 h')).1
      go_simp
    refine Rest.take (i := 2) (v := .int .i64 (k : Int)) rfl (by kernel_rfl) (by kernel_rfl) (by kernel_rfl) (by kernel_rfl) (fun _ _ _ h => h) (.inl hbD) (Or.inl ⟨by simp [Region.wanted], ?_⟩) ?_
    · intro w; go_simp
    refine Rest.takeS (i := 3) (v := .pointer (some ⟨b, off + k * 26, none⟩)) rfl (by kernel_rfl) (by kernel_rfl) (by kernel_rfl) (by kernel_rfl) (fun _ _ _ h => h) hbD (Or.inl ⟨by simp [Region.wanted], ?_⟩) ?_
    · intro w _; go_simp
    refine Rest.takeS (i := 4) (v := .agg (ctA c s0)) rfl (by kernel_rfl) (by kernel_rfl) (by kernel_rfl) (by kernel_rfl) (fun _ _ _ h => h) hbD (yields_loadM rowC (by simp [Region.wanted]) _ rfl b (off + k * 26) (by simp [Act.eval, Act.put]) _ rfl (fun w' h' j v hv => (Below.cell (p := ⟨b, _, none⟩) h' hbl).trans (hr' j v hv))) ?_
    refine Rest.takeS (i := 5) (v := .agg (frV F a kc)) rfl (by kernel_rfl) (by kernel_rfl) (by kernel_rfl) (by kernel_rfl) (fun _ _ _ h => h) hbD (yields_loadR rowF (by simp [Region.wanted]) _ rfl (w.heap.size + 1) (by simp [Act.eval, Act.put]) _ rfl (fun w' h' => ⟨_, _, bx_below hf1 h'⟩)) ?_
    refine Rest.two (i := 6) (j := 10) (by kernel_rfl) rfl rfl (fun K hK => ?_) (fun K hK => ?_)
    · refine draw_callF 31 plain_ctlGive (by simp [Region.wanted]) _ _ _ rfl (by simp [Act.eval]) #[.agg (ctA c s0), .agg (frV F a kc)] (by simp [Act.eval, Act.put]) _ (give_no w1.drew c s0 F.id F.ext F.rem F.dlc a F.data.length kc hi hd 40 (.inl ⟨hr, rfl⟩)) ?_
      rintro e w5 ⟨rfl, g5⟩
      refine ⟨_, rfl, ?_⟩
      have b5 : Below w1.heap.size w1 w5 := hbD.trans (g5.mono (by simp))
      refine hK _ _ ⟨.inl b5, Rest.of_any _ _ _ _ (thru_of (by kernel_rfl)) ?_⟩; clear hK K
      refine wpAny_take (i := 7) (v := .tuple #[.agg (ctA c0 sl0), .int .i64 40]) rfl (by kernel_rfl) (by kernel_rfl) (by kernel_rfl) (fun _ _ _ h => h) (Or.inl ⟨by simp [Region.wanted], ?_⟩) ?_
      · intro w; go_simp
      refine wpAny_take (i := 8) (v := .agg (ctA c0 sl0)) rfl (by kernel_rfl) (by kernel_rfl) (by kernel_rfl) (fun _ _ _ h => h) (Or.inl ⟨by simp [Region.wanted], ?_⟩) ?_
      · intro w; go_simp
      refine wpAny_take (i := 9) (v := .int .i64 40) rfl (by kernel_rfl) (by kernel_rfl) (by kernel_rfl) (fun _ _ _ h => h) (Or.inl ⟨by simp [Region.wanted], ?_⟩) ?_
      · intro w; go_simp
      refine wpAny_ready (rs := [10]) (by kernel_rfl) (by simp) ?_
      refine AllReady.cons rfl (fun K hK => ?_) AllReady.nil
      go_simp
      refine hK _ _ ?_; clear hK K
      have hz := heap_alloc_new w5 (.cells ctZ 54)
      refine wpAny_ready (rs := [11]) (by kernel_rfl) (by simp) ?_
      refine AllReady.cons rfl (fun K hK => ?_) AllReady.nil
      refine draw_storeR rowC rfl _ _ rfl w5.heap.size (ctA c0 sl0) rfl rfl hz rfl rfl (ct_ones _ _) ?_
      refine hK _ _ ?_; clear hK K
      refine wpAny_ready (rs := [12]) (by kernel_rfl) (by simp) ?_
      refine AllReady.cons rfl (fun K hK => ?_) AllReady.nil
      go_simp
      refine hK _ _ ?_; clear hK K
      refine wpAny_done (by kernel_rfl) ?_ _
      go_wp2_with fail
      go_meet
      exact ⟨_, rfl, rfl, below_setRow (bnew b5 _) b5.size _⟩
    · go_simp
      have hbA : Below w1.heap.size w1 (w1.drew.alloc (.cells ctZ 54)) := bnew hbD _
      refine hK _ _ ⟨.inl hbA, ?_⟩; clear hK K
      have hz0 := heap_alloc_new w1.drew (.cells ctZ 54)
      refine Rest.one (i := 6) (by kernel_rfl) rfl (fun K hK => ?_)
      refine draw_callF 31 plain_ctlGive (by simp [Region.wanted]) _ _ _ rfl (by simp [Act.eval]) #[.agg (ctA c s0), .agg (frV F a kc)] (by simp [Act.eval]) _ (give_no (w1.drew.alloc (.cells ctZ 54)) c s0 F.id F.ext F.rem F.dlc a F.data.length kc hi hd 40 (.inl ⟨hr, rfl⟩)) ?_
      rintro e w5 ⟨rfl, g5⟩
      refine ⟨_, rfl, ?_⟩
      have b5 : Below w1.heap.size w1 w5 := bstep hbA g5
      have hz := bx_below hz0 g5
      refine hK _ _ ⟨.inl b5, Rest.of_any _ _ _ _ (thru_of (by kernel_rfl)) ?_⟩; clear hK K
      refine wpAny_take (i := 7) (v := .tuple #[.agg (ctA c0 sl0), .int .i64 40]) rfl (by kernel_rfl) (by kernel_rfl) (by kernel_rfl) (fun _ _ _ h => h) (Or.inl ⟨by simp [Region.wanted], ?_⟩) ?_
      · intro w; go_simp
      refine wpAny_take (i := 8) (v := .agg (ctA c0 sl0)) rfl (by kernel_rfl) (by kernel_rfl) (by kernel_rfl) (fun _ _ _ h => h) (Or.inl ⟨by simp [Region.wanted], ?_⟩) ?_
      · intro w; go_simp
      refine wpAny_take (i := 9) (v := .int .i64 40) rfl (by kernel_rfl) (by kernel_rfl) (by kernel_rfl) (fun _ _ _ h => h) (Or.inl ⟨by simp [Region.wanted], ?_⟩) ?_
      · intro w; go_simp
      refine wpAny_ready (rs := [11]) (by kernel_rfl) (by simp) ?_
      refine AllReady.cons rfl (fun K hK => ?_) AllReady.nil
      refine draw_storeR rowC rfl _ _ rfl w1.drew.heap.size (ctA c0 sl0) rfl rfl hz rfl rfl (ct_ones _ _) ?_
      refine hK _ _ ?_; clear hK K
      refine wpAny_ready (rs := [12]) (by kernel_rfl) (by simp) ?_
      refine AllReady.cons rfl (fun K hK => ?_) AllReady.nil
      go_simp
      refine hK _ _ ?_; clear hK K
      refine wpAny_done (by kernel_rfl) ?_ _
      go_wp2_with fail
      go_meet
      exact ⟨_, rfl, rfl, below_setRow b5 (by simp) _⟩
  case rest =>
    obtain ⟨q, rfl, rfl, gc⟩ := hcut
    have hb2 := bx_below hb1 gc
    have hr2 := bx_below hr1 gc
    have gg2 := bstep gg1 gc
    clear hR hCl hb1 hf1 hr1 hr' h hS hx hmem
    go_wp2_with (first
      | (with_reducible refine wpList_loadR rowN rfl _ rfl _ rfl hb2 rfl ?_)
      | (with_reducible refine wpList_storeR rowN rfl _ _ rfl _ _ rfl rfl hr2 rfl rfl (nt_ones _ _ _ _) ?_))
    exact bodyPost_ret (v := .tuple #[.agg (ntA ⟨some ⟨b, off, none⟩, snc, sca, scc⟩ n n z), .int .i64 40]) (results_row1 rowN rfl _ _ _ rfl rfl (setRow_heap _ _ _ _ _ _ hr2) rfl) rfl ⟨rfl, below_setRow gg2 (by omega) _⟩
end Go.Proofs.YtgpmhmdofefdcaaGreat

namespace Go.Proofs.YtgpmhmdofefdcaaGreat
open Go.RowKit Go.Sort
set_option linter.unusedVariables false

/-- A block in which nothing of a net lies. -/
structure NtF (g : Nat) (s : Na) (ps : List Nd) : Prop where
  na : NB s.na g
  ca : NB s.ca g
  sl : ∀ p ∈ ps, NBs p.2 g
section
variable {B : Nat} {w w1 : World} {g n : Nat} {z : Int} {s : Na} {ps : List Nd} {cr : List Bool}
theorem NtO.freeLo (h : NtO B w s ps cr) (hg : g < B) : NtF g s ps := ⟨fun p hp e => by have := (h.nod.ltB hp).2; omega, ol_nb h.cra hg, fun p hp => (h.sl p hp).nbs hg⟩
theorem NtO.freeHi (h : NtO B w s ps cr) (hg : w.heap.size ≤ g) : NtF g s ps := ⟨fun p hp e => by have := (h.nod.ltB hp).1; omega, fun p hp e => by have := (h.cra.ltB hp).1; omega, fun p hp => (h.sl p hp).fresh hg⟩
theorem NtO.setRowF (h : NtO B w s ps cr) (hf : NtF g s ps) (cs : Array Value) : NtO B (w.setRow g cs) s ps cr :=
  ⟨h.nod.kept fun q hq => setRow_other _ _ _ _ (hf.na _ hq), h.cra.kept fun q hq => setRow_other _ _ _ _ (hf.ca _ hq), fun p hp => (h.sl p hp).setRow (hf.sl p hp) _, h.sn, h.sc⟩

/-- A net that lies in a box. -/
structure Nb (w : World) (g n : Nat) (z : Int) (s : Na) (ps : List Nd) (cr : List Bool) : Prop where
  box : w.heap[g]? = some (.cells (ntA s n n z) 31 (0, 0))
  own : NtO 0 w s ps cr
  free : NtF g s ps
  len : ps.length = n
  cln : cr.length = n
theorem Nb.below (h : Nb w g n z s ps cr) (k : Below w.heap.size w w1) : Nb w1 g n z s ps cr := ⟨bx_below h.box k, h.own.below k, h.free, h.len, h.cln⟩
theorem Nb.lt (h : Nb w g n z s ps cr) : g < w.heap.size := bx_lt h.box
theorem Nb.r (h : Nb w g n z s ps cr) : NtR w s ps cr := h.own.r
theorem Nb.put {old : Array Value} (hb : w.heap[g]? = some (.cells old 31 (0, 0))) (ho : NtO B w s ps cr) (hf : NtF g s ps) (hl : ps.length = n) (hc : cr.length = n) : Nb (w.setRow g (ntA s n n z)) g n z s ps cr :=
  ⟨setRow_heap _ _ _ _ _ _ hb, (ho.mono (Nat.zero_le _)).setRowF hf _, hf, hl, hc⟩
/-- Another box is written. -/
theorem Nb.other (h : Nb w g n z s ps cr) {q : Nat} (hq : q ≠ g) (hf : NtF q s ps) (cs : Array Value) : Nb (w.setRow q cs) g n z s ps cr :=
  ⟨(setRow_other _ _ _ _ (Ne.symm hq)).trans h.box, h.own.setRowF hf _, h.free, h.len, h.cln⟩
/-- A net laid in a fresh box. -/
theorem Nb.new (ho : NtO B w s ps cr) (hl : ps.length = n) (hc : cr.length = n) (cs : Array Value) : Nb ((w.alloc (.cells cs 31)).setRow w.heap.size (ntA s n n z)) w.heap.size n z s ps cr :=
  Nb.put (heap_alloc_new w _) (ho.below (bnew0 w _)) (ho.freeHi (Nat.le_refl _)) hl hc
end

/-- The first nodes have got the frames. -/
def gvL (n : Nat) (fs : List Fr) : List Ct := fs.map giC ++ List.replicate (n - fs.length) c0
theorem gvL_len {n : Nat} {fs : List Fr} (h : fs.length ≤ n) : (gvL n fs).length = n := by unfold gvL; simp; omega
theorem gvL_set {n : Nat} {fs : List Fr} {k : Nat} {F : Fr} (hk : k < n) (hF : fs[k]? = some F) : (gvL n (fs.take k)).set k { c0 with has := true, give := F } = gvL n (fs.take (k + 1)) := by
  have hl : k < fs.length := (List.getElem?_eq_some_iff.1 hF).1
  have e1 : (fs.take k).length = k := by rw [List.length_take]; omega
  have e2 : (fs.take (k + 1)).length = k + 1 := by rw [List.length_take]; omega
  unfold gvL
  rw [e1, e2, List.take_add_one, hF]
  have := set_mid ((fs.take k).map giC) n c0 (giC F) (by simp; omega)
  simp only [List.length_map, e1] at this
  show ((fs.take k).map giC ++ List.replicate (n - k) c0).set k (giC F) = _
  rw [this]; simp
theorem gvL_at {n : Nat} {fs : List Fr} {k : Nat} (hk : k < n) : (gvL n (fs.take k))[k]? = some c0 ∨ fs.length < k := by
  rcases Nat.lt_or_ge fs.length k with h | h
  · exact .inr h
  · left
    unfold gvL
    rw [List.getElem?_append_right (by simp; omega)]
    simp [List.getElem?_replicate]; omega
theorem gvL_shr {n : Nat} {fs : List Fr} (hg : ∀ F ∈ fs, Good F) {c : Ct} (hc : c ∈ gvL n fs) : Shr c := by
  rcases List.mem_append.1 hc with h | h
  · obtain ⟨F, hF, rfl⟩ := List.mem_map.1 h
    have := good_len (hg F hF)
    exact ⟨by show F.data.length ≤ _; omega, by simp [giC, c0], by simp [giC, c0, s0]⟩
  · rw [(List.mem_replicate.1 h).2]
    exact ⟨by simp [c0, zeroFr], by simp [c0], by simp [c0, s0]⟩
theorem shr_of {ps : List Nd} (h : ∀ c ∈ cts ps, Shr c) : ∀ p ∈ ps, Shr p.1 := fun p hp => h _ (List.mem_map_of_mem hp)

set_option maxRecDepth 100000 in
set_option maxHeartbeats 8000000 in
theorem given_any (w : World) (a : Option Addr) (c m n : Nat) (fs : List Ff) (h : FrR w a m c fs) (h2 : 2 ≤ n) (h32 : n ≤ 32) (hmn : m ≤ n) :
    Calls Tryz.prog 6 #[.int .i64 (n : Int), .slice a m c] w fun e w' => ∃ s b, e = .returned (.tuple #[.agg (ntA s n n 0), .bool b]) ∧ (b = true ↔ ∀ p ∈ fs, Good p.1) ∧
      (b = true → ∃ ps, ps.length = n ∧ cts ps = gvL n (fs.map Prod.fst) ∧ NtO w.heap.size w' s ps (List.replicate n false)) ∧ Below w.heap.size w w' := by
  have hfl : fs.length = m := h.row.len
  have hz0 := heap_alloc_new w (.cells ntZ 31)
  have g0 := bnew0 w (.cells ntZ 31)
  have H32 := hid (And.intro h2 h32)
  have hNw := fun w1 => new_any w1 n h2 h32
  clear h2 h32
  go_enter Tryz.func6, Tryz.ntmps6
  go_wp2_with (first
    | (go_at_call 20; (with_reducible refine (hNw _).mono ?_); rintro e w1 ⟨s1, rfl, o1, g1⟩; have hz1 := heap_alloc_new w1 (.cells ntZ 31); have hr1 := bx_below hz0 g1; have gg1 := bstep g0 g1; have l1 := g1.size)
    | (with_reducible refine wpList_storeR rowN rfl _ _ rfl _ _ rfl rfl hz1 rfl rfl (nt_ones _ _ _ _) ?_))
  rw [heap_size_alloc] at l1
  have N1 := Nb.new (z := 0) o1 (by unfold zeP; simp) (List.length_replicate ..) ntZ
  have gg2 : Below w.heap.size w ((w1.alloc (.cells ntZ 31)).setRow w1.heap.size (ntA s1 n n 0)) := below_setRow (bnew gg1 _) (by omega) _
  have hr2 := (setRow_other (w1.alloc (.cells ntZ 31)) w1.heap.size w.heap.size (ntA s1 n n 0) (by omega)).trans (bx_alloc (.cells ntZ 31) hr1)
  have hF2 := h.below gg2
  have O1 : NtO (w.heap.size + 1) ((w1.alloc (.cells ntZ 31)).setRow w1.heap.size (ntA s1 n n 0)) s1 (zeP n) (List.replicate n false) := (o1.below (below_setRow (bnew0 w1 _) (Nat.le_refl _) _)).mono (by simp)
  clear hz1 hr1 gg1 g1 o1 hz0 g0 hNw
  obtain ⟨g6, hg6⟩ : ∃ g6, g6 = w1.heap.size := ⟨_, rfl⟩
  change Code.wp _ _ _ _ ((w1.alloc (.cells ntZ 31)).setRow w1.heap.size (ntA s1 n n 0))
  generalize (w1.alloc (.cells ntZ 31)).setRow w1.heap.size (ntA s1 n n 0) = W2 at *
  rw [← hg6] at N1 l1 ⊢
  clear hg6 w1
  go_loopg [19] m (fun gn i wr => ∃ (k : Nat) (s : Na) (ps : List Nd), k ≤ m ∧ gn = m - k ∧ i = .int .i64 (k : Int) ∧ Nb wr g6 n 0 s ps (List.replicate n false) ∧ NtO (w.heap.size + 1) wr s ps (List.replicate n false) ∧ Below w.heap.size w wr ∧
    wr.heap[w.heap.size]? = some (.cells ntZ 31 (0, 0)) ∧ Hid (cts ps = gvL n ((fs.map Prod.fst).take k)) ∧ Hid (∀ j p, j < k → fs[j]? = some p → Good p.1))
  case atStart =>
    exact ⟨0, s1, zeP n, by omega, rfl, rfl, N1, O1, gg2, hr2, hid (by rw [cts_ze]; unfold gvL; simp), hid (fun j p hj => by omega)⟩
  case round =>
    clear N1 O1 gg2 hr2 hF2
    obtain ⟨k, s, ps, hk, rfl, rfl, N0, O0, hbel, hr0, HC, HG⟩ := hrel
    have l6 := N0.lt
    by_cases hlt : k < m
    · obtain ⟨⟨F, fa, fk⟩, hx⟩ : ∃ p, fs[k]? = some p := ⟨fs[k]'(by omega), by simp [hfl, hlt]⟩
      have hmem := List.mem_of_getElem? hx
      have hFr := h.below hbel
      obtain ⟨b, off, hab, hbl, hr⟩ := hFr.row.range hx
      have hr' : wr.rangeAt b (off + k * 5) (frV F fa fk).toList := hr
      have hdat := hFr.dat _ hmem
      have hid1 := hFr.id _ hmem
      have hdl1 := hFr.dl _ hmem
      simp only at hdat hid1 hdl1
      have hkn : k < n := by have := H32.out; omega
      have hgk : ((fs.map Prod.fst))[k]? = some F := by rw [List.getElem?_map, hx]; rfl
      have hck : (cts ps)[k]? = some c0 := by
        rw [HC.out]
        exact (gvL_at hkn).resolve_right (by rw [List.length_map]; omega)
      obtain ⟨⟨cc, s0⟩, hpk⟩ : ∃ y, ps[k]? = some y := ⟨ps[k]'(by rw [N0.len]; exact hkn), by simp⟩
      obtain rfl : cc = c0 := by have := cts_at hpk; rw [hck] at this; cases this; rfl
      have hSh : ∀ p ∈ ps, Shr p.1 := shr_of fun c hc => by
        rw [HC.out] at hc
        refine gvL_shr (fun F hF => ?_) hc
        obtain ⟨j, hj⟩ := List.getElem?_of_mem hF
        rw [List.getElem?_take] at hj
        by_cases e : j < k
        · rw [if_pos e, List.getElem?_map] at hj
          cases hp : fs[j]? with
          | none => rw [hp] at hj; cases hj
          | some p => rw [hp] at hj; cases hj; exact HG.out j p e hp
        · rw [if_neg e] at hj; cases hj
      have hcr : (List.replicate n false)[k]? = some false := by rw [List.getElem?_replicate, if_pos hkn]
      have hz9 := heap_alloc_new wr (.cells #[.int .u32 0, .bool false, .bool false, .int .u8 0, .slice none 0 0] 26)
      have g9 : Below wr.heap.size wr ((wr.alloc (.cells #[.int .u32 0, .bool false, .bool false, .int .u8 0, .slice none 0 0] 26)).setRow wr.heap.size (frV F fa fk)) := below_setRow (bnew0 wr _) (Nat.le_refl _) _
      have hb9 : ((wr.alloc (.cells #[.int .u32 0, .bool false, .bool false, .int .u8 0, .slice none 0 0] 26)).setRow wr.heap.size (frV F fa fk)).heap[wr.heap.size]? = some (.cells (frV F fa fk) 26 (0, 0)) := setRow_heap _ _ _ _ _ _ hz9
      have N9 := N0.below g9
      have O9 := O0.below g9
      have bl9 := bstep hbel g9
      have hr9 := bx_below hr0 g9
      have hd9 := hdat.below g9
      have hn32 : n ≤ 100000 := by have := H32.out; omega
      have HX := hid (And.intro hgk (And.intro hx hkn))
      subst hab
      clear hFr hr hdat hmem hgk hx
      go_upto_region 5 with (first
        | (with_reducible refine wpList_loadM rowF rfl _ rfl b (off + k * 5) rfl (frV F fa fk) hr' rfl ?_)
        | (with_reducible refine wpList_storeR rowF rfl _ _ rfl _ _ rfl rfl hz9 rfl rfl (fr_ones _ _ _) ?_))
      rw [put_no9]
      change Code.wp _ _ _ _ ((wr.alloc (.cells #[.int .u32 0, .bool false, .bool false, .int .u8 0, .slice none 0 0] 26)).setRow wr.heap.size (frV F fa fk))
      generalize (wr.alloc (.cells #[.int .u32 0, .bool false, .bool false, .int .u8 0, .slice none 0 0] 26)).setRow wr.heap.size (frV F fa fk) = W9 at *
      have hb6 := N9.box
      have hrd := N9.r
      have hpl := N9.len
      have hcl := N9.cln
      clear hz9 g9 hr' N0 O0 hbel hr0 hbl
      by_cases hg : Good F
      · have hG := fun (w1 : World) (g1 : NtR w1 s ps (List.replicate n false)) (g2 : RL bv w1 fa F.data.length fk F.data) => netGive_any w1 s ps (List.replicate n false) n 0 k c0 s0 F fa fk g1 hpl hcl hn32 hSh hkn hpk hcr hg g2 rfl
        have HGd := hid hg
        clear hg hcr hpk hSh hck hpl hcl hid1 hdl1
        have hk32 : k < 32 := by have := H32.out; omega
        go_wp2_with (first
          | (with_reducible refine wpList_loadR rowN rfl _ rfl _ rfl hb6 rfl ?_)
          | (with_reducible refine wpList_loadR rowF rfl _ rfl _ rfl hb9 rfl ?_)
          | (go_at_call 10; (with_reducible refine (hG _ hrd hd9).mono ?_); rintro e w4 ⟨s4, rfl, qs4, k1, k2, o4, g4⟩
             have hz4 := heap_alloc_new w4 (.cells ntZ 31)
             have hb4 := setRow_heap _ _ _ (ntA s4 n n 0) _ _ hz4
             have g5 : Below w4.heap.size w4 ((w4.alloc (.cells ntZ 31)).setRow w4.heap.size (ntA s4 n n 0)) := below_setRow (bnew0 w4 _) (Nat.le_refl _) _
             have hb65 := bx_below (bx_below hb6 g4) g5)
          | (with_reducible refine wpList_storeR rowN rfl _ _ rfl _ _ rfl rfl hz4 rfl rfl (nt_ones _ _ _ _) ?_)
          | (with_reducible refine wpList_loadR rowN rfl _ rfl _ rfl hb4 rfl ?_)
          | (with_reducible refine wpList_storeR rowN rfl _ _ rfl _ _ rfl rfl hb65 rfl rfl (nt_ones _ _ _ _) ?_))
        have o5 := o4.below g5
        have l69 := N9.lt
        have N6 : Nb (((w4.alloc (.cells ntZ 31)).setRow w4.heap.size (ntA s4 n n 0)).setRow g6 (ntA s4 n n 0)) g6 n 0 s4 qs4 (List.replicate n false) := Nb.put hb65 o5 (o4.freeLo l69) k1 (by simp)
        have O6 : NtO (w.heap.size + 1) (((w4.alloc (.cells ntZ 31)).setRow w4.heap.size (ntA s4 n n 0)).setRow g6 (ntA s4 n n 0)) s4 qs4 (List.replicate n false) := (o5.setRowF (o4.freeLo l69) _).mono (bx_lt hr9)
        have hr6 := (setRow_other ((w4.alloc (.cells ntZ 31)).setRow w4.heap.size (ntA s4 n n 0)) g6 w.heap.size (ntA s4 n n 0) (by omega)).trans (bx_below (bx_below hr9 g4) g5)
        have b6 : Below w.heap.size w (((w4.alloc (.cells ntZ 31)).setRow w4.heap.size (ntA s4 n n 0)).setRow g6 (ntA s4 n n 0)) := below_setRow (bstep (bstep bl9 g4) g5) (by omega) _
        have HC6 : Hid (cts qs4 = gvL n ((fs.map Prod.fst).take (k + 1))) := by
          show _ = _
          rw [k2, HC.out]; exact gvL_set HX.out.2.2 HX.out.1
        have HG6 : Hid (∀ j p, j < k + 1 → fs[j]? = some p → Good p.1) := fun j p hj hp => by
          by_cases e : j < k
          · exact HG.out j p e hp
          · obtain rfl : j = k := by omega
            rw [HX.out.2.1] at hp; cases hp; exact HGd.out
        clear hz4 hb4 g5 hb65 o4 g4 o5 hb6 hb9 hrd hd9 hr9 bl9 N9 O9 hG k1 k2
        go_roundg (m - (k + 1))
        case measure => go_light; omega
        case rel => go_light; exact ⟨k + 1, _, _, by omega, rfl, by have := H32.out; go_num, N6, O6, b6, hr6, HC6, HG6⟩
      · have hrf : riF F.id F.ext F.rem F.dlc F.data.length = false := by
          cases e : riF F.id F.ext F.rem F.dlc F.data.length with
          | false => rfl
          | true => exact absurd ((good_iff F _ rfl).1 e) hg
        have hG := fun (w1 : World) (g1 : NtR w1 s ps (List.replicate n false)) => netGive_wrong w1 s ps (List.replicate n false) n 0 k c0 s0 F fa fk g1 hpl hcl hn32 hSh hkn hpk hcr hid1 hdl1 hrf
        have HGd := hid hg
        clear hg hrf hcr hpk hSh hn32 hck hpl hcl
        go_wp2_with (first
          | (with_reducible refine wpList_loadR rowN rfl _ rfl _ rfl hb6 rfl ?_)
          | (with_reducible refine wpList_loadR rowF rfl _ rfl _ rfl hb9 rfl ?_)
          | (go_at_call 10; (with_reducible refine (hG _ hrd).mono ?_); rintro e w4 ⟨rfl, g4⟩
             have hz4 := heap_alloc_new w4 (.cells ntZ 31)
             have hb4 := setRow_heap _ _ _ (ntA s n n 0) _ _ hz4
             have g5 : Below w4.heap.size w4 ((w4.alloc (.cells ntZ 31)).setRow w4.heap.size (ntA s n n 0)) := below_setRow (bnew0 w4 _) (Nat.le_refl _) _
             have hb65 := bx_below (bx_below hb6 g4) g5
             have hb66 := setRow_heap _ _ _ (ntA s n n 0) _ _ hb65
             have hr66 := (setRow_other ((w4.alloc (.cells ntZ 31)).setRow w4.heap.size (ntA s n n 0)) g6 w.heap.size (ntA s n n 0) (by omega)).trans (bx_below (bx_below hr9 g4) g5))
          | (with_reducible refine wpList_storeR rowN rfl _ _ rfl _ _ rfl rfl hz4 rfl rfl (nt_ones _ _ _ _) ?_)
          | (with_reducible refine wpList_loadR rowN rfl _ rfl _ rfl hb4 rfl ?_)
          | (with_reducible refine wpList_storeR rowN rfl _ _ rfl _ _ rfl rfl hb65 rfl rfl (nt_ones _ _ _ _) ?_)
          | (with_reducible refine wpList_loadR rowN rfl _ rfl _ rfl hb66 rfl ?_)
          | (with_reducible refine wpList_storeR rowN rfl _ _ rfl _ _ rfl rfl hr66 rfl rfl (nt_ones _ _ _ _) ?_))
        have b6 : Below w.heap.size w (((w4.alloc (.cells ntZ 31)).setRow w4.heap.size (ntA s n n 0)).setRow g6 (ntA s n n 0)) := below_setRow (bstep (bstep bl9 g4) g5) (by omega) _
        exact bodyPost_ret (v := .tuple #[.agg (ntA s n n 0), .bool false]) (results_row1 rowN rfl _ _ _ rfl rfl (setRow_heap _ _ _ _ _ _ hr66) rfl) rfl ⟨s, false, rfl, ⟨fun e => (by cases e), fun e => absurd (e _ (List.mem_of_getElem? HX.out.2.1)) HGd.out⟩, fun e => (by cases e), below_setRow b6 (Nat.le_refl _) _⟩
    · obtain rfl : k = m := by omega
      have hb6 := N0.box
      have hall : Hid (∀ p ∈ fs, Good p.1) := fun p hp => by
        obtain ⟨j, hj⟩ := List.getElem?_of_mem hp
        exact HG.out j p (by have := (List.getElem?_eq_some_iff.1 hj).1; omega) hj
      have HC6 : Hid (cts ps = gvL n (fs.map Prod.fst)) := by
        have := HC.out
        rwa [List.take_of_length_le (by rw [List.length_map]; omega)] at this
      clear HC HG
      go_wp2_with (first
        | (with_reducible refine wpList_loadR rowN rfl _ rfl _ rfl hb6 rfl ?_)
        | (with_reducible refine wpList_storeR rowN rfl _ _ rfl _ _ rfl rfl hr0 rfl rfl (nt_ones _ _ _ _) ?_))
      have O7 : NtO w.heap.size (wr.setRow w.heap.size (ntA s n n 0)) s ps (List.replicate n false) := (O0.setRow (Nat.lt_succ_self _) _).mono (by omega)
      exact bodyPost_ret (v := .tuple #[.agg (ntA s n n 0), .bool true]) (results_row1 rowN rfl _ _ _ rfl rfl (setRow_heap _ _ _ _ _ _ hr0) rfl) rfl ⟨s, true, rfl, ⟨fun _ => hall.out, fun _ => rfl⟩, fun _ => ⟨ps, N0.len, HC6.out, O7⟩, below_setRow hbel (Nat.le_refl _) _⟩
end Go.Proofs.YtgpmhmdofefdcaaGreat
