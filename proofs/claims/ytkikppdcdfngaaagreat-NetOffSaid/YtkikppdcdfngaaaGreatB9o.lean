/-
  Contract: a net in which a node crashes (Crash); what lies there behind a bit of a net.
  Words for statements on nets: what is read of the nodes, and of what happened.
-/
import Derived.Test.YtkikppdcdfngaaaGreatB9m
import Derived.Test.YtkikppdcdfngaaaGreatM9c
namespace Go.Proofs.YtkikppdcdfngaaaGreat
open Go.RowKit Go.Sort
set_option linter.unusedVariables false

/-- A mark is set. -/
theorem NtO.crash {B : Nat} {w : World} {s : Na} {ps : List Nd} {cr : List Bool} {g : Nat} (h : NtO B w s ps cr) (hg : s.ca = some ⟨g, 0, none⟩) (k : Nat) : NtO B (w.setCell ⟨g, k, none⟩ (.bool true)) s ps (cr.set k true) := by
  obtain ⟨n1, n2⟩ := h.sc g hg
  have hc := h.cra
  rw [hg] at hc
  refine ⟨h.nod.kept fun q hq => heap_setCell_other _ _ _ _ (fun e => n2 _ hq e), ?_, fun p hp => (h.sl p hp).kept fun q => ?_, fun g2 hg2 => h.sn g2 hg2, fun g2 hg2 => h.sc g2 hg2⟩
  · rw [hg, List.length_set]; exact hc.set true
  · by_cases e : q = g
    · subst e; exact .inl (n1 p hp)
    · exact .inr (heap_setCell_other _ _ _ _ e)

set_option maxRecDepth 100000 in
set_option maxHeartbeats 4000000 in
theorem netCrash_any (w : World) (s : Na) (ps : List Nd) (cr : List Bool) (n : Nat) (z : Int) (k : Nat) (h : NtR w s ps cr) (hn : ps.length = n) (hm : cr.length = n) (hle : n ≤ 100000) (hS : ∀ p ∈ ps, Shr p.1) (hk : k < n) :
    Calls Tryz.prog 17 #[.agg (ntA s n n z), .int .i64 (k : Int)] w fun e w' => ∃ s', e = .returned (.tuple #[.agg (ntA s' n n z), .int .i64 0]) ∧ ∃ qs, qs.length = n ∧ cts qs = cts ps ∧ NtO w.heap.size w' s' qs (cr.set k true) ∧ Below w.heap.size w w' := by
  have hb0 : ((w.alloc (.cells (ntA s n n z) 27)).alloc (.cells ntZ 27)).heap[w.heap.size]? = some (.cells (ntA s n n z) 27 (0, 0)) := bx_alloc _ (heap_alloc_new w _)
  have hr0 : ((w.alloc (.cells (ntA s n n z) 27)).alloc (.cells ntZ 27)).heap[w.heap.size + 1]? = some (.cells ntZ 27 (0, 0)) := by
    have := heap_alloc_new (w.alloc (.cells (ntA s n n z) 27)) (.cells ntZ 27); rwa [heap_size_alloc] at this
  have g0 : Below w.heap.size w ((w.alloc (.cells (ntA s n n z) 27)).alloc (.cells ntZ 27)) := bnew (bnew0 w _) _
  have hH := fun w1 => has_any w1 s n n z (k : Int)
  rw [show decide (0 ≤ (k : Int) ∧ (k : Int) < (n : Int)) = true by rw [decide_eq_true_eq]; omega] at hH
  go_enter Tryz.func17, Tryz.ntmps17
  go_upto_region 4 with (first
    | (with_reducible refine wpList_loadR rowN rfl _ rfl _ rfl hb0 rfl ?_)
    | (go_at_call 30; (with_reducible refine (hH _).mono ?_); rintro e w1 ⟨rfl, g1⟩
       have hb1 := bx_below hb0 g1
       have hr1 := bx_below hr0 g1
       have gg1 := bstep g0 g1
       have l1 := g1.size
       simp only [heap_size_alloc] at l1)
    | (with_reducible refine wpList_loadR rowN rfl _ rfl _ rfl hb1 rfl ?_)
    | (go_at_call 33; (with_reducible refine (netApart_any _ s ps cr n z (h.below gg1) hn hm hle hS).mono ?_); rintro e w2 ⟨s2, rfl, qs2, k1, k2, o2, g2⟩
       have hb2 := bx_below hb1 g2
       have hr2 := bx_below hr1 g2
       have gg2 := bstep gg1 g2)
    | (with_reducible refine wpList_storeR rowN rfl _ _ rfl _ _ rfl rfl hb2 rfl rfl (nt_ones _ _ _ _) ?_))
  rw [put_no9]
  have lw : w.heap.size < w1.heap.size := by omega
  have hb3 : (w2.setRow w.heap.size (ntA s2 n n z)).heap[w.heap.size]? = some (.cells (ntA s2 n n z) 27 (0, 0)) := setRow_heap _ _ _ _ _ _ hb2
  have hr3 := (setRow_other w2 w.heap.size (w.heap.size + 1) (ntA s2 n n z) (by omega)).trans hr2
  have gg3 : Below w.heap.size w (w2.setRow w.heap.size (ntA s2 n n z)) := below_setRow gg2 (Nat.le_refl _) _
  have o3 : NtO w1.heap.size (w2.setRow w.heap.size (ntA s2 n n z)) s2 qs2 cr := o2.setRow lw _
  have hc3 := o3.cra
  obtain ⟨gC, hgC, hgB, hgl⟩ : ∃ g, s2.ca = some ⟨g, 0, none⟩ ∧ w1.heap.size ≤ g ∧ g < (w2.setRow w.heap.size (ntA s2 n n z)).heap.size := by
    rcases hc3.ex with ⟨_, e⟩ | ⟨g, cur, e, _⟩
    · omega
    · have := hc3.ltB e
      exact ⟨g, e, by simpa using this.2, this.1⟩
  rw [hgC] at hc3
  obtain ⟨y, hy⟩ : ∃ y, cr[k]? = some y := ⟨cr[k]'(by omega), by simp⟩
  obtain ⟨hcv, hfv⟩ := hc3.cellAt hy
  have q1 := (bx3 hb3).2.1
  rw [hgC] at q1
  have o4 := (o3.crash hgC k)
  have hb4 := (heap_setCell_other (w2.setRow w.heap.size (ntA s2 n n z)) ⟨gC, k, none⟩ w.heap.size (.bool true) (show w.heap.size ≠ gC by omega)).trans hb3
  have hr4 := (heap_setCell_other (w2.setRow w.heap.size (ntA s2 n n z)) ⟨gC, k, none⟩ (w.heap.size + 1) (.bool true) (show w.heap.size + 1 ≠ gC by omega)).trans hr3
  have gg4 : Below w.heap.size w ((w2.setRow w.heap.size (ntA s2 n n z)).setCell ⟨gC, k, none⟩ (.bool true)) := gg3.setCell (show w.heap.size ≤ gC by omega) _
  clear hb0 hr0 g0 hH hb1 hr1 gg1 g1 hb2 hr2 gg2 g2 o2 hb3 hr3 gg3 o3 hc3
  go_wp2_with (first
    | (with_reducible refine wpList_loadR rowN rfl _ rfl _ rfl hb4 rfl ?_)
    | (with_reducible refine wpList_storeR rowN rfl _ _ rfl _ _ rfl rfl hr4 rfl rfl (nt_ones _ _ _ _) ?_))
  have o5 := (o4.setRow (show w.heap.size + 1 < w1.heap.size by omega) (ntA s2 n n z)).mono (show w.heap.size ≤ _ by omega)
  exact bodyPost_ret (v := .tuple #[.agg (ntA s2 n n z), .int .i64 0]) (results_row1 rowN rfl _ _ _ rfl rfl (setRow_heap _ _ _ _ _ _ hr4) rfl) rfl ⟨s2, rfl, qs2, k1, k2, o5, below_setRow gg4 (by omega) _⟩

/-- The two fresh boxes behind a bit of a net. -/
structure Two9 (w1 : World) (s : Na) (a : La) (n : Nat) (z : Int) (x : Bool) : Prop where
  zz : (w1.alloc (.cells ntZ 27)).heap[w1.heap.size]? = some (.cells ntZ 27 (0, 0))
  z1 : ((w1.alloc (.cells ntZ 27)).alloc (.cells lnZ 40)).heap[w1.heap.size]? = some (.cells ntZ 27 (0, 0))
  l1 : (((w1.alloc (.cells ntZ 27)).alloc (.cells lnZ 40)).setRow w1.heap.size (ntA s n n z)).heap[w1.heap.size + 1]? = some (.cells lnZ 40 (0, 0))
  n2 : ((((w1.alloc (.cells ntZ 27)).alloc (.cells lnZ 40)).setRow w1.heap.size (ntA s n n z)).setRow (w1.heap.size + 1) (lnV a n x)).heap[w1.heap.size]? = some (.cells (ntA s n n z) 27 (0, 0))
  l2 : ((((w1.alloc (.cells ntZ 27)).alloc (.cells lnZ 40)).setRow w1.heap.size (ntA s n n z)).setRow (w1.heap.size + 1) (lnV a n x)).heap[w1.heap.size + 1]? = some (.cells (lnV a n x) 40 (0, 0))
  b : Below w1.heap.size w1 ((((w1.alloc (.cells ntZ 27)).alloc (.cells lnZ 40)).setRow w1.heap.size (ntA s n n z)).setRow (w1.heap.size + 1) (lnV a n x))

theorem two9 (w1 : World) (s : Na) (a : La) (n : Nat) (z : Int) (x : Bool) : Two9 w1 s a n z x := by
  have zz := heap_alloc_new w1 (.cells ntZ 27)
  have z1 := bx_alloc (.cells lnZ 40) zz
  have k1 : ((w1.alloc (.cells ntZ 27)).alloc (.cells lnZ 40)).heap[w1.heap.size + 1]? = some (.cells lnZ 40 (0, 0)) := by
    have := heap_alloc_new (w1.alloc (.cells ntZ 27)) (.cells lnZ 40); rwa [heap_size_alloc] at this
  have h1 := fun cs => (setRow_other ((w1.alloc (.cells ntZ 27)).alloc (.cells lnZ 40)) w1.heap.size (w1.heap.size + 1) cs (by omega)).trans k1
  exact ⟨zz, z1, h1 _, (setRow_other _ (w1.heap.size + 1) w1.heap.size _ (by omega)).trans (setRow_heap _ w1.heap.size _ _ _ _ z1), setRow_heap _ _ _ _ _ _ (h1 _), below_setRow (below_setRow (bnew (bnew0 w1 _) _) (Nat.le_refl _) _) (by omega) _⟩

/-- What is driven where nobody has crashed. -/
theorem dvL_up (cs : List Ct) : ∀ (n : Nat), cs.length = n → (dvL cs (List.replicate n false)).all id = cs.all dvC := by
  induction cs with
  | nil => intro n h; subst h; rfl
  | cons c r ih =>
    intro n h
    subst h
    show ((dvL (c :: r) (List.replicate (r.length + 1) false)).all id) = _
    rw [List.replicate_succ]
    show ((false || dvC c) && (dvL r (List.replicate r.length false)).all id) = (dvC c && r.all dvC)
    rw [ih _ rfl, Bool.false_or]
theorem up_at {n j : Nat} : (List.replicate n false)[j]?.getD false = false := by
  rw [List.getElem?_replicate]; split <;> rfl
theorem nx_up {n : Nat} {x : Bool} {l : List Int} {j : Nat} {c : Ct} : nxC (List.replicate n false) x l j c = (stC c (biN x l j)).1 := by
  unfold nxC; rw [up_at]; rfl
theorem hp_up {n : Nat} {x : Bool} {l : List Int} {j : Nat} {c : Ct} : hpC (List.replicate n false) x l j c = (stC c (biN x l j)).2 := by
  unfold hpC; rw [up_at]; rfl
theorem bi_nil {x : Bool} {j : Nat} : biN x [] j = x := by unfold biN; simp
theorem bi_one {x : Bool} {j q : Nat} : biN x [(q : Int)] j = if j = q then !x else x := by
  unfold biN
  by_cases h : j = q
  · subst h; rw [decide_eq_true (by simp), if_pos rfl]; cases x <;> rfl
  · rw [decide_eq_false (by simp; omega), if_neg h]; cases x <;> rfl
end Go.Proofs.YtkikppdcdfngaaaGreat

namespace Go.Proofs.YtkikppdcdfngaaaGreat
open Go.RowKit Go.Sort
set_option linter.unusedVariables false

theorem LnO.hapAt {B : Nat} {w : World} {a : La} {n : Nat} {dl sm : List Bool} {hs : List Hd} (h : LnO B w a n dl sm hs) (hn : 0 < n) :
    ∃ g, a.ha = some ⟨g, 0, none⟩ ∧ B ≤ g ∧ ∀ j d, (hs.map Prod.fst)[j]? = some d → w.cell? ⟨g, j * 6, none⟩ = some (.int .u8 (d.1 : Int)) := by
  obtain ⟨g, hg, hB, _⟩ := h.hap.addr hn
  have hp := h.hap
  rw [hg] at hp
  refine ⟨g, hg, hB, fun j d hd => ?_⟩
  rw [List.getElem?_map] at hd
  cases hx : hs[j]? with
  | none => rw [hx] at hd; cases hd
  | some y =>
    rw [hx] at hd
    cases hd
    exact hp.range enH_k hx 0 _ rfl
theorem LnO.samAt {B : Nat} {w : World} {a : La} {n : Nat} {dl sm : List Bool} {hs : List Hd} (h : LnO B w a n dl sm hs) (hn : 0 < n) :
    ∃ b off, a.sa = some ⟨b, off, none⟩ ∧ ∀ j y, sm[j]? = some y → w.cell? ⟨b, off + j, none⟩ = some (.bool y) := by
  obtain ⟨b, off, e, _, hc⟩ := h.sam.rl.cell hn
  exact ⟨b, off, e, fun j y hy => hc j y hy⟩
/-- The phase, and the counters, of a node. -/
theorem NtO.nodAt {B : Nat} {w : World} {s : Na} {ps : List Nd} {cr : List Bool} (h : NtO B w s ps cr) (hn : 0 < ps.length) :
    ∃ g, s.na = some ⟨g, 0, none⟩ ∧ B ≤ g ∧ ∀ j c, (cts ps)[j]? = some c → w.cell? ⟨g, j * 26, none⟩ = some (.int .u8 (c.ph : Int)) ∧ w.cell? ⟨g, j * 26 + 2, none⟩ = some (.int .i64 c.cf.t) ∧ w.cell? ⟨g, j * 26 + 3, none⟩ = some (.int .i64 c.cf.r) := by
  obtain ⟨g, hg, hB, _⟩ := h.nod.addr hn
  have hp := h.nod
  rw [hg] at hp
  refine ⟨g, hg, hB, fun j c hc => ?_⟩
  unfold cts at hc
  rw [List.getElem?_map] at hc
  cases hx : ps[j]? with
  | none => rw [hx] at hc; cases hc
  | some y =>
    rw [hx] at hc
    cases hc
    exact ⟨hp.range enC_k hx 0 _ rfl, hp.range enC_k hx 2 _ rfl, hp.range enC_k hx 3 _ rfl⟩

/-- The frame of the chapter's examples. -/
def f9 : Fr := ⟨1, false, false, 0, []⟩
theorem f9_good : Good f9 := ⟨by decide, by decide, rfl⟩

/-- Where the two nodes of the chapter's examples stand. -/
def AwC (i j : Nat) (c : Ct) : Prop := RoN f9 zeC i (if j = 0 then some f9 else none) (decide (j = 0)) c
theorem aw_node (j : Nat) : NodeOK f9 (if j = 0 then some f9 else none) (decide (j = 0)) := om_node j
theorem aw_start {j : Nat} {c : Ct} (h : (gvL 2 [f9])[j]? = some c) : AwC 0 j c := by
  match j with
  | 0 => cases h; exact .inl ⟨rfl, giC f9, rfl, rfl, rfl, rfl⟩
  | 1 => cases h; exact .inl ⟨rfl, c0, rfl, rfl, rfl, rfl⟩
theorem aw_ok {i j : Nat} {c : Ct} (hi : i < (putL (boL f9)).length + 13) (h : AwC i j c) : StepOK c := ro_ok f9_good cfA_zero (aw_node j) hi h
theorem aw_step {i j : Nat} {c : Ct} (hi : i < (putL (boL f9)).length + 13) (h : AwC i j c) : AwC (i + 1) j (stC c (xB f9 i)).1 ∧ ((stC c (xB f9 i)).2.1 = 2 ↔ j ≠ 0 ∧ i = (putL (boL f9)).length + 8) ∧ ((stC c (xB f9 i)).2.1 = 1 ↔ j = 0 ∧ i = (putL (boL f9)).length + 9) := by
  obtain ⟨_, h2, h3⟩ := ro_hap f9_good cfA_zero (aw_node j) hi h
  refine ⟨(ro_step f9_good cfA_zero (aw_node j) hi h).1, h2.trans ?_, h3.trans ?_⟩
  · simp
  · simp
theorem aw_bus {i : Nat} {cs : List Ct} (hl : cs.length = 2) (hi : i < (putL (boL f9)).length + 13) (h : ∀ j c, cs[j]? = some c → AwC i j c) : cs.all dvC = xB f9 i := by
  refine ro_bus f9_good (cf := fun _ => zeC) (fun _ => cfA_zero) (l := cs) (gs := [some f9, none]) (jw := 0) (by rw [hl]; rfl) (by omega) (by omega) hi (fun j hj => ?_) (fun j hj => ?_)
  · have := aw_node j
    rcases (show j = 0 ∨ j = 1 by simp at hj; omega) with rfl | rfl <;> exact this
  · have := h j _ (List.getElem?_eq_getElem hj)
    rcases (show j = 0 ∨ j = 1 by omega) with rfl | rfl <;> exact this
end Go.Proofs.YtkikppdcdfngaaaGreat
