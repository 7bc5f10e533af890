/-
  Contract: a net in which a node crashes (Crash); what lies there behind a bit of a net.
  Words for statements on nets: what is read of the nodes, and of what happened.
  Contract: the chapter's examples (awake).
  Words for the walks of NetOmits, NetOff and NetTwins: a net in a box beside rows that are written.
-/
import Derived.Test.YtgpmhmdofefdcaaGreatB9m
import Derived.Test.YtgpmhmdofefdcaaGreatM9c
namespace Go.Proofs.YtgpmhmdofefdcaaGreat
open Go.RowKit Go.Sort
set_option linter.unusedVariables false

/-- A mark is set. -/
theorem NtO.crash {B : Nat} {w : World} {s : Na} {ps : List Nd} {cr : List Bool} {g : Nat} (h : NtO B w s ps cr) (hg : s.ca = some ⟨g, 0, none⟩) (k : Nat) : NtO B (w.setCell ⟨g, k, none⟩ (.bool true)) s ps (cr.set k true) := by
  obtain ⟨n1, n2⟩ := h.sc g hg
  have hc := h.cra
  rw [hg] at hc
  refine ⟨h.nod.kept fun q hq => heap_setCell_other _ _ _ _ (fun e => n2 _ hq e), ?_, fun p hp => (h.sl p hp).kept fun q => ?_, fun g2 hg2 => h.sn g2 hg2, fun g2 hg2 => h.sc g2 hg2⟩
  · rw [hg, List.length_set]; exact hc.set true
  · by_cases e : q = g
    · subst e; exact .inl (n1 p hp)
    · exact .inr (heap_setCell_other _ _ _ _ e)

set_option maxRecDepth 100000 in
set_option maxHeartbeats 4000000 in
theorem netCrash_any (w : World) (s : Na) (ps : List Nd) (cr : List Bool) (n : Nat) (z : Int) (k : Nat) (h : NtR w s ps cr) (hn : ps.length = n) (hm : cr.length = n) (hle : n ≤ 100000) (hS : ∀ p ∈ ps, Shr p.1) (hk : k < n) :
    Calls Tryz.prog 9 #[.agg (ntA s n n z), .int .i64 (k : Int)] w fun e w' => ∃ s', e = .returned (.tuple #[.agg (ntA s' n n z), .int .i64 0]) ∧ ∃ qs, qs.length = n ∧ cts qs = cts ps ∧ NtO w.heap.size w' s' qs (cr.set k true) ∧ Below w.heap.size w w' := by
  have hb0 : ((w.alloc (.cells (ntA s n n z) 31)).alloc (.cells ntZ 31)).heap[w.heap.size]? = some (.cells (ntA s n n z) 31 (0, 0)) := bx_alloc _ (heap_alloc_new w _)
  have hr0 : ((w.alloc (.cells (ntA s n n z) 31)).alloc (.cells ntZ 31)).heap[w.heap.size + 1]? = some (.cells ntZ 31 (0, 0)) := by
    have := heap_alloc_new (w.alloc (.cells (ntA s n n z) 31)) (.cells ntZ 31); rwa [heap_size_alloc] at this
  have g0 : Below w.heap.size w ((w.alloc (.cells (ntA s n n z) 31)).alloc (.cells ntZ 31)) := bnew (bnew0 w _) _
  have hH := fun w1 => has_any w1 s n n z (k : Int)
  rw [show decide (0 ≤ (k : Int) ∧ (k : Int) < (n : Int)) = true by rw [decide_eq_true_eq]; omega] at hH
  go_enter Tryz.func9, Tryz.ntmps9
  go_upto_region 4 with (first
    | (with_reducible refine wpList_loadR rowN rfl _ rfl _ rfl hb0 rfl ?_)
    | (go_at_call 23; (with_reducible refine (hH _).mono ?_); rintro e w1 ⟨rfl, g1⟩
       have hb1 := bx_below hb0 g1
       have hr1 := bx_below hr0 g1
       have gg1 := bstep g0 g1
       have l1 := g1.size
       simp only [heap_size_alloc] at l1)
    | (with_reducible refine wpList_loadR rowN rfl _ rfl _ rfl hb1 rfl ?_)
    | (go_at_call 26; (with_reducible refine (netApart_any _ s ps cr n z (h.below gg1) hn hm hle hS).mono ?_); rintro e w2 ⟨s2, rfl, qs2, k1, k2, o2, g2⟩
       have hb2 := bx_below hb1 g2
       have hr2 := bx_below hr1 g2
       have gg2 := bstep gg1 g2)
    | (with_reducible refine wpList_storeR rowN rfl _ _ rfl _ _ rfl rfl hb2 rfl rfl (nt_ones _ _ _ _) ?_))
  rw [put_no9]
  have lw : w.heap.size < w1.heap.size := by omega
  have hb3 : (w2.setRow w.heap.size (ntA s2 n n z)).heap[w.heap.size]? = some (.cells (ntA s2 n n z) 31 (0, 0)) := setRow_heap _ _ _ _ _ _ hb2
  have hr3 := (setRow_other w2 w.heap.size (w.heap.size + 1) (ntA s2 n n z) (by omega)).trans hr2
  have gg3 : Below w.heap.size w (w2.setRow w.heap.size (ntA s2 n n z)) := below_setRow gg2 (Nat.le_refl _) _
  have o3 : NtO w1.heap.size (w2.setRow w.heap.size (ntA s2 n n z)) s2 qs2 cr := o2.setRow lw _
  have hc3 := o3.cra
  obtain ⟨gC, hgC, hgB, hgl⟩ : ∃ g, s2.ca = some ⟨g, 0, none⟩ ∧ w1.heap.size ≤ g ∧ g < (w2.setRow w.heap.size (ntA s2 n n z)).heap.size := by
    rcases hc3.ex with ⟨_, e⟩ | ⟨g, cur, e, _⟩
    · omega
    · have := hc3.ltB e
      exact ⟨g, e, by simpa using this.2, this.1⟩
  rw [hgC] at hc3
  obtain ⟨y, hy⟩ : ∃ y, cr[k]? = some y := ⟨cr[k]'(by omega), by simp⟩
  obtain ⟨hcv, hfv⟩ := hc3.cellAt hy
  have q1 := (bx3 hb3).2.1
  rw [hgC] at q1
  have o4 := (o3.crash hgC k)
  have hb4 := (heap_setCell_other (w2.setRow w.heap.size (ntA s2 n n z)) ⟨gC, k, none⟩ w.heap.size (.bool true) (show w.heap.size ≠ gC by omega)).trans hb3
  have hr4 := (heap_setCell_other (w2.setRow w.heap.size (ntA s2 n n z)) ⟨gC, k, none⟩ (w.heap.size + 1) (.bool true) (show w.heap.size + 1 ≠ gC by omega)).trans hr3
  have gg4 : Below w.heap.size w ((w2.setRow w.heap.size (ntA s2 n n z)).setCell ⟨gC, k, none⟩ (.bool true)) := gg3.setCell (show w.heap.size ≤ gC by omega) _
  clear hb0 hr0 g0 hH hb1 hr1 gg1 g1 hb2 hr2 gg2 g2 o2 hb3 hr3 gg3 o3 hc3
  go_wp2_with (first
    | (with_reducible refine wpList_loadR rowN rfl _ rfl _ rfl hb4 rfl ?_)
    | (with_reducible refine wpList_storeR rowN rfl _ _ rfl _ _ rfl rfl hr4 rfl rfl (nt_ones _ _ _ _) ?_))
  have o5 := (o4.setRow (show w.heap.size + 1 < w1.heap.size by omega) (ntA s2 n n z)).mono (show w.heap.size ≤ _ by omega)
  exact bodyPost_ret (v := .tuple #[.agg (ntA s2 n n z), .int .i64 0]) (results_row1 rowN rfl _ _ _ rfl rfl (setRow_heap _ _ _ _ _ _ hr4) rfl) rfl ⟨s2, rfl, qs2, k1, k2, o5, below_setRow gg4 (by omega) _⟩

/-- The two fresh boxes behind a bit of a net. -/
structure Two9 (w1 : World) (s : Na) (a : La) (n : Nat) (z : Int) (x : Bool) : Prop where
  zz : (w1.alloc (.cells ntZ 31)).heap[w1.heap.size]? = some (.cells ntZ 31 (0, 0))
  z1 : ((w1.alloc (.cells ntZ 31)).alloc (.cells lnZ 36)).heap[w1.heap.size]? = some (.cells ntZ 31 (0, 0))
  l1 : (((w1.alloc (.cells ntZ 31)).alloc (.cells lnZ 36)).setRow w1.heap.size (ntA s n n z)).heap[w1.heap.size + 1]? = some (.cells lnZ 36 (0, 0))
  n2 : ((((w1.alloc (.cells ntZ 31)).alloc (.cells lnZ 36)).setRow w1.heap.size (ntA s n n z)).setRow (w1.heap.size + 1) (lnV a n x)).heap[w1.heap.size]? = some (.cells (ntA s n n z) 31 (0, 0))
  l2 : ((((w1.alloc (.cells ntZ 31)).alloc (.cells lnZ 36)).setRow w1.heap.size (ntA s n n z)).setRow (w1.heap.size + 1) (lnV a n x)).heap[w1.heap.size + 1]? = some (.cells (lnV a n x) 36 (0, 0))
  b : Below w1.heap.size w1 ((((w1.alloc (.cells ntZ 31)).alloc (.cells lnZ 36)).setRow w1.heap.size (ntA s n n z)).setRow (w1.heap.size + 1) (lnV a n x))

theorem two9 (w1 : World) (s : Na) (a : La) (n : Nat) (z : Int) (x : Bool) : Two9 w1 s a n z x := by
  have zz := heap_alloc_new w1 (.cells ntZ 31)
  have z1 := bx_alloc (.cells lnZ 36) zz
  have k1 : ((w1.alloc (.cells ntZ 31)).alloc (.cells lnZ 36)).heap[w1.heap.size + 1]? = some (.cells lnZ 36 (0, 0)) := by
    have := heap_alloc_new (w1.alloc (.cells ntZ 31)) (.cells lnZ 36); rwa [heap_size_alloc] at this
  have h1 := fun cs => (setRow_other ((w1.alloc (.cells ntZ 31)).alloc (.cells lnZ 36)) w1.heap.size (w1.heap.size + 1) cs (by omega)).trans k1
  exact ⟨zz, z1, h1 _, (setRow_other _ (w1.heap.size + 1) w1.heap.size _ (by omega)).trans (setRow_heap _ w1.heap.size _ _ _ _ z1), setRow_heap _ _ _ _ _ _ (h1 _), below_setRow (below_setRow (bnew (bnew0 w1 _) _) (Nat.le_refl _) _) (by omega) _⟩

/-- What is driven where nobody has crashed. -/
theorem dvL_up (cs : List Ct) : ∀ (n : Nat), cs.length = n → (dvL cs (List.replicate n false)).all id = cs.all dvC := by
  induction cs with
  | nil => intro n h; subst h; rfl
  | cons c r ih =>
    intro n h
    subst h
    show ((dvL (c :: r) (List.replicate (r.length + 1) false)).all id) = _
    rw [List.replicate_succ]
    show ((false || dvC c) && (dvL r (List.replicate r.length false)).all id) = (dvC c && r.all dvC)
    rw [ih _ rfl, Bool.false_or]
theorem up_at {n j : Nat} : (List.replicate n false)[j]?.getD false = false := by
  rw [List.getElem?_replicate]; split <;> rfl
theorem nx_up {n : Nat} {x : Bool} {l : List Int} {j : Nat} {c : Ct} : nxC (List.replicate n false) x l j c = (stC c (biN x l j)).1 := by
  unfold nxC; rw [up_at]; rfl
theorem hp_up {n : Nat} {x : Bool} {l : List Int} {j : Nat} {c : Ct} : hpC (List.replicate n false) x l j c = (stC c (biN x l j)).2 := by
  unfold hpC; rw [up_at]; rfl
theorem bi_nil {x : Bool} {j : Nat} : biN x [] j = x := by unfold biN; simp
theorem bi_one {x : Bool} {j q : Nat} : biN x [(q : Int)] j = if j = q then !x else x := by
  unfold biN
  by_cases h : j = q
  · subst h; rw [decide_eq_true (by simp), if_pos rfl]; cases x <;> rfl
  · rw [decide_eq_false (by simp; omega), if_neg h]; cases x <;> rfl
end Go.Proofs.YtgpmhmdofefdcaaGreat

namespace Go.Proofs.YtgpmhmdofefdcaaGreat
open Go.RowKit Go.Sort
set_option linter.unusedVariables false

theorem LnO.hapAt {B : Nat} {w : World} {a : La} {n : Nat} {dl sm : List Bool} {hs : List Hd} (h : LnO B w a n dl sm hs) (hn : 0 < n) :
    ∃ g, a.ha = some ⟨g, 0, none⟩ ∧ B ≤ g ∧ ∀ j d, (hs.map Prod.fst)[j]? = some d → w.cell? ⟨g, j * 6, none⟩ = some (.int .u8 (d.1 : Int)) := by
  obtain ⟨g, hg, hB, _⟩ := h.hap.addr hn
  have hp := h.hap
  rw [hg] at hp
  refine ⟨g, hg, hB, fun j d hd => ?_⟩
  rw [List.getElem?_map] at hd
  cases hx : hs[j]? with
  | none => rw [hx] at hd; cases hd
  | some y =>
    rw [hx] at hd
    cases hd
    exact hp.range enH_k hx 0 _ rfl
theorem LnO.samAt {B : Nat} {w : World} {a : La} {n : Nat} {dl sm : List Bool} {hs : List Hd} (h : LnO B w a n dl sm hs) (hn : 0 < n) :
    ∃ b off, a.sa = some ⟨b, off, none⟩ ∧ ∀ j y, sm[j]? = some y → w.cell? ⟨b, off + j, none⟩ = some (.bool y) := by
  obtain ⟨b, off, e, _, hc⟩ := h.sam.rl.cell hn
  exact ⟨b, off, e, fun j y hy => hc j y hy⟩
/-- The phase, and the counters, of a node. -/
theorem NtO.nodAt {B : Nat} {w : World} {s : Na} {ps : List Nd} {cr : List Bool} (h : NtO B w s ps cr) (hn : 0 < ps.length) :
    ∃ g, s.na = some ⟨g, 0, none⟩ ∧ B ≤ g ∧ ∀ j c, (cts ps)[j]? = some c → w.cell? ⟨g, j * 26, none⟩ = some (.int .u8 (c.ph : Int)) ∧ w.cell? ⟨g, j * 26 + 2, none⟩ = some (.int .i64 c.cf.t) ∧ w.cell? ⟨g, j * 26 + 3, none⟩ = some (.int .i64 c.cf.r) := by
  obtain ⟨g, hg, hB, _⟩ := h.nod.addr hn
  have hp := h.nod
  rw [hg] at hp
  refine ⟨g, hg, hB, fun j c hc => ?_⟩
  unfold cts at hc
  rw [List.getElem?_map] at hc
  cases hx : ps[j]? with
  | none => rw [hx] at hc; cases hc
  | some y =>
    rw [hx] at hc
    cases hc
    exact ⟨hp.range enC_k hx 0 _ rfl, hp.range enC_k hx 2 _ rfl, hp.range enC_k hx 3 _ rfl⟩

/-- The frame of the chapter's examples. -/
def f9 : Fr := ⟨1, false, false, 0, []⟩
theorem f9_good : Good f9 := ⟨by decide, by decide, rfl⟩

/-- Where the two nodes of the chapter's examples stand. -/
def AwC (i j : Nat) (c : Ct) : Prop := RoN f9 zeC i (if j = 0 then some f9 else none) (decide (j = 0)) c
theorem aw_node (j : Nat) : NodeOK f9 (if j = 0 then some f9 else none) (decide (j = 0)) := om_node j
theorem aw_start {j : Nat} {c : Ct} (h : (gvL 2 [f9])[j]? = some c) : AwC 0 j c := by
  match j with
  | 0 => cases h; exact .inl ⟨rfl, giC f9, rfl, rfl, rfl, rfl⟩
  | 1 => cases h; exact .inl ⟨rfl, c0, rfl, rfl, rfl, rfl⟩
theorem aw_ok {i j : Nat} {c : Ct} (hi : i < (putL (boL f9)).length + 13) (h : AwC i j c) : StepOK c := ro_ok f9_good cfA_zero (aw_node j) hi h
theorem aw_step {i j : Nat} {c : Ct} (hi : i < (putL (boL f9)).length + 13) (h : AwC i j c) : AwC (i + 1) j (stC c (xB f9 i)).1 ∧ ((stC c (xB f9 i)).2.1 = 2 ↔ j ≠ 0 ∧ i = (putL (boL f9)).length + 8) ∧ ((stC c (xB f9 i)).2.1 = 1 ↔ j = 0 ∧ i = (putL (boL f9)).length + 9) := by
  obtain ⟨_, h2, h3⟩ := ro_hap f9_good cfA_zero (aw_node j) hi h
  refine ⟨(ro_step f9_good cfA_zero (aw_node j) hi h).1, h2.trans ?_, h3.trans ?_⟩
  · simp
  · simp
theorem aw_bus {i : Nat} {cs : List Ct} (hl : cs.length = 2) (hi : i < (putL (boL f9)).length + 13) (h : ∀ j c, cs[j]? = some c → AwC i j c) : cs.all dvC = xB f9 i := by
  refine ro_bus f9_good (cf := fun _ => zeC) (fun _ => cfA_zero) (l := cs) (gs := [some f9, none]) (jw := 0) (by rw [hl]; rfl) (by omega) (by omega) hi (fun j hj => ?_) (fun j hj => ?_)
  · have := aw_node j
    rcases (show j = 0 ∨ j = 1 by simp at hj; omega) with rfl | rfl <;> exact this
  · have := h j _ (List.getElem?_eq_getElem hj)
    rcases (show j = 0 ∨ j = 1 by omega) with rfl | rfl <;> exact this
end Go.Proofs.YtgpmhmdofefdcaaGreat

namespace Go.Proofs.YtgpmhmdofefdcaaGreat
open Go.RowKit Go.Sort
set_option linter.unusedVariables false

abbrev frZ : Array Value := #[.int .u32 0, .bool false, .bool false, .int .u8 0, .slice none 0 0]
abbrev fr1 : Array Value := #[.int .u32 1, .bool false, .bool false, .int .u8 0, .slice none 0 0]

theorem all_two {cs : List Ct} (h : cs.length = 2) : true = (dvL cs [true, true]).all id := by
  rcases cs with _ | ⟨a, _ | ⟨b, _ | _⟩⟩
  · cases h
  · cases h
  · rfl
  · simp at h
theorem qu_two {cs : List Ct} (h : cs.length = 2) : quA cs [true, true] = true := by
  rcases cs with _ | ⟨a, _ | ⟨b, _ | _⟩⟩
  · cases h
  · cases h
  · rfl
  · simp at h
theorem aw_crash0 (w : World) (s : Na) (ps : List Nd) (z : Int) (h : NtR w s ps (List.replicate 2 false)) (hl : ps.length = 2) (hS : ∀ c ∈ cts ps, Shr c) :
    Calls Tryz.prog 9 #[.agg (ntA s 2 2 z), .int .i64 0] w fun e w' => ∃ s', e = .returned (.tuple #[.agg (ntA s' 2 2 z), .int .i64 0]) ∧ ∃ qs, qs.length = 2 ∧ cts qs = cts ps ∧ NtO w.heap.size w' s' qs [true, false] ∧ Below w.heap.size w w' := by
  refine (netCrash_any w s ps (List.replicate 2 false) 2 z 0 h hl rfl (by omega) (shr_of hS) (by omega)).mono ?_
  rintro e w2 ⟨s', rfl, qs', k1, k2, k3, k4⟩
  exact ⟨s', rfl, qs', k1, k2, k3, k4⟩
theorem aw_crash1 (w : World) (s : Na) (ps : List Nd) (z : Int) (h : NtR w s ps [true, false]) (hl : ps.length = 2) (hS : ∀ c ∈ cts ps, Shr c) :
    Calls Tryz.prog 9 #[.agg (ntA s 2 2 z), .int .i64 1] w fun e w' => ∃ s', e = .returned (.tuple #[.agg (ntA s' 2 2 z), .int .i64 0]) ∧ ∃ qs, qs.length = 2 ∧ cts qs = cts ps ∧ NtO w.heap.size w' s' qs [true, true] ∧ Below w.heap.size w w' := by
  refine (netCrash_any w s ps [true, false] 2 z 1 h hl rfl (by omega) (shr_of hS) (by omega)).mono ?_
  rintro e w2 ⟨s', rfl, qs', k1, k2, k3, k4⟩
  exact ⟨s', rfl, qs', k1, k2, k3, k4⟩
theorem aw9_last (w : World) (s : Na) (ps : List Nd) (z : Int) (h : NtR w s ps [true, true]) (hl : ps.length = 2) (hS : ∀ c ∈ cts ps, StepOK c) (hz : 0 ≤ z ∧ z ≤ 1000) :
    Calls Tryz.prog 7 #[.agg (ntA s 2 2 z), .slice none 0 0] w fun e w' => ∃ s' a, e = .returned (.tuple #[.agg (ntA s' 2 2 (z + 1)), .agg (lnV a 2 true), .int .i64 0]) ∧ Below w.heap.size w w' := by
  refine (netStep_any w s ps [true, true] 2 z none 0 0 [] h hl rfl (by omega) (fun p hp => hS _ (List.mem_map_of_mem hp)) (RL.nil _ _ _ _) (by omega) (fun x hx => by cases hx) (by omega) (by omega) true (all_two (by rw [cts_len, hl]))).mono ?_
  rintro e w2 ⟨s', a, rfl, qs', hs', _, _, _, _, _, _, g⟩
  exact ⟨s', a, rfl, g⟩
theorem aw_quiet (w : World) (s : Na) (ps : List Nd) (z : Int) (h : NtR w s ps [true, true]) (hl : ps.length = 2) :
    Calls Tryz.prog 17 #[.agg (ntA s 2 2 z)] w fun e w' => e = .returned (.bool true) ∧ Below w.heap.size w w' := by
  refine (quiet_any w s ps [true, true] 2 z h hl rfl (by omega)).mono ?_
  rintro e w2 ⟨rfl, g⟩
  exact ⟨by rw [qu_two (by rw [cts_len, hl])], g⟩

set_option maxRecDepth 100000 in
set_option maxHeartbeats 8000000 in
theorem awake9_any (w : World) : Calls Tryz.prog 13 #[] w fun e w' => e = .returned (.bool true) ∧ Below w.heap.size w w' := by
  have hz0 := heap_alloc_new w (.cells frZ 26)
  have hf0 : ((w.alloc (.cells frZ 26)).setRow w.heap.size fr1).heap[w.heap.size]? = some (.cells fr1 26 (0, 0)) := setRow_heap _ _ _ _ _ _ hz0
  have g0 : Below w.heap.size w ((w.alloc (.cells frZ 26)).setRow w.heap.size fr1) := below_setRow (bnew0 w _) (Nat.le_refl _) _
  obtain ⟨P, hP⟩ : ∃ P, P = (putL (boL f9)).length := ⟨_, rfl⟩
  have hPb : P ≤ 150 := by rw [hP]; exact P_top f9_good
  obtain ⟨N, hN⟩ : ∃ N, N = P + 10 := ⟨_, rfl⟩
  have hW : ∀ w1, Calls Tryz.prog 15 #[.agg fr1] w1 fun e w' => ∃ a' c', e = .returned (.tuple #[.slice a' N c', .int .i64 0]) ∧ Below w1.heap.size w1 w' := fun w1 => by
    refine (wire_any w1 1 false false 0 none 0 0 [] (by omega) (by omega) (RL.nil _ _ _ _) (by decide)).mono ?_
    rintro e w2 ⟨a', c', rfl, _, g2⟩
    exact ⟨a', c', by rw [hN, hP]; rfl, g2⟩
  have hNw : ∀ w1, Calls Tryz.prog 20 #[.int .i64 2] w1 fun e w' => ∃ s', e = .returned (.tuple #[.agg (ntA s' 2 2 0), .int .i64 0]) ∧ NtO w1.heap.size w' s' (zeP 2) (List.replicate 2 false) ∧ Below w1.heap.size w1 w' := fun w1 => new_any w1 2 (by omega) (by omega)
  have hG : ∀ w1 s, NtR w1 s (zeP 2) (List.replicate 2 false) → Calls Tryz.prog 10 #[.agg (ntA s 2 2 0), .int .i64 0, .agg fr1] w1 fun e w' => ∃ s', e = .returned (.tuple #[.agg (ntA s' 2 2 0), .int .i64 0]) ∧ ∃ qs, qs.length = 2 ∧ cts qs = gvL 2 [f9] ∧ NtO w1.heap.size w' s' qs (List.replicate 2 false) ∧ Below w1.heap.size w1 w' := fun w1 s h => by
    refine (netGive_any w1 s (zeP 2) (List.replicate 2 false) 2 0 0 c0 sl0 f9 none 0 h rfl rfl (by omega) (fun p hp => ?_) (by omega) rfl rfl f9_good (RL.nil _ _ _ _) rfl).mono ?_
    · rw [(List.mem_replicate.1 hp).2]
      exact ⟨by simp [c0, zeroFr], by simp [c0], by simp [c0, s0]⟩
    · rintro e w2 ⟨s', rfl, qs, k1, k2, o, g⟩
      exact ⟨s', rfl, qs, k1, k2.trans rfl, o, g⟩
  have HP := hid (And.intro hP hN)
  have hNb : N ≤ 160 := by omega
  clear hP hN
  go_enter Tryz.func13, Tryz.ntmps13
  go_upto_region 4 with (first
    | (with_reducible refine wpList_storeR rowF rfl _ _ rfl _ _ rfl rfl hz0 rfl rfl (by kernel_rfl) ?_)
    | (with_reducible refine wpList_loadR rowF rfl _ rfl _ rfl hf0 rfl ?_)
    | (go_at_call 15; (with_reducible refine (hW _).mono ?_); rintro e w1 ⟨a1, c1, rfl, g1⟩; have hf1 := bx_below hf0 g1; have gg1 := bstep g0 g1)
    | (go_at_call 20; (with_reducible refine (hNw _).mono ?_); rintro e w2 ⟨s2, rfl, o2, g2⟩; have hz2 := heap_alloc_new w2 (.cells ntZ 31); have hf2 := bx_below hf1 g2; have gg2 := bstep gg1 g2; have l2 := g2.size)
    | (with_reducible refine wpList_storeR rowN rfl _ _ rfl _ _ rfl rfl hz2 rfl rfl (nt_ones _ _ _ _) ?_))
  have N3 := Nb.new (z := 0) o2 (by unfold zeP; simp) (List.length_replicate ..) ntZ
  have b3 : Below w2.heap.size w2 ((w2.alloc (.cells ntZ 31)).setRow w2.heap.size (ntA s2 2 2 0)) := below_setRow (bnew0 w2 _) (Nat.le_refl _) _
  have gg3 := bstep gg2 b3
  have hf3 := bx_below hf2 b3
  have lf := bx_lt hf2
  clear hz0 hf0 g0 hf1 gg1 g1 hz2 hf2 gg2 o2 l2 g2 b3 hW hNw
  obtain ⟨g4, hg4⟩ : ∃ g, g = w2.heap.size := ⟨_, rfl⟩
  try rw [put_no9]
  change Code.wp _ _ _ _ ((w2.alloc (.cells ntZ 31)).setRow w2.heap.size (ntA s2 2 2 0))
  generalize (w2.alloc (.cells ntZ 31)).setRow w2.heap.size (ntA s2 2 2 0) = W3 at *
  rw [← hg4] at N3 lf ⊢
  clear hg4 w2
  have hb3 := N3.box
  have hr3 := N3.r
  go_upto_region 7 with (first
    | (with_reducible refine wpList_loadR rowN rfl _ rfl _ rfl hb3 rfl ?_)
    | (with_reducible refine wpList_loadR rowF rfl _ rfl _ rfl hf3 rfl ?_)
    | (go_at_call 10; (with_reducible refine (hG _ _ hr3).mono ?_); rintro e w4 ⟨s4, rfl, qs4, k1, k2, o4, g5⟩; have hb4 := bx_below hb3 g5; have q5 := (bx3 (setRow_heap w4 g4 _ (ntA s4 2 2 0) _ _ hb4)).1)
    | (with_reducible refine wpList_storeR rowN rfl _ _ rfl _ _ rfl rfl hb4 rfl rfl (nt_ones _ _ _ _) ?_))
  have N5 : Nb (w4.setRow g4 (ntA s4 2 2 0)) g4 2 0 s4 qs4 (List.replicate 2 false) := Nb.put hb4 o4 (o4.freeLo N3.lt) k1 (by simp)
  have gg5 : Below w.heap.size w (w4.setRow g4 (ntA s4 2 2 0)) := below_setRow (bstep gg3 g5) (by omega) _
  clear hf3 hb3 hr3 hb4 q5 o4 g5 gg3 N3 hG k1
  try rw [put_no9]
  change Code.wp _ _ _ _ (w4.setRow g4 (ntA s4 2 2 0))
  generalize w4.setRow g4 (ntA s4 2 2 0) = W5 at *
  have hA := fun j c (hj : (cts qs4)[j]? = some c) => aw_start (j := j) (c := c) (by rw [← k2]; exact hj)
  have hok : ∀ p ∈ qs4, StepOK p.1 := fun p hp => by
    obtain ⟨j, hj⟩ := List.getElem?_of_mem hp
    exact aw_ok (i := 0) (by omega) (hA j _ (cts_at hj))
  have hS : ∀ w1, NtR w1 s4 qs4 (List.replicate 2 false) → ∀ b, RL zv w1 (some ⟨b, 0, none⟩) 1 1 [1] → Calls Tryz.prog 7 #[.agg (ntA s4 2 2 0), .slice (some ⟨b, 0, none⟩) 1 1] w1 fun e w' => ∃ s' a, e = .returned (.tuple #[.agg (ntA s' 2 2 1), .agg (lnV a 2 false), .int .i64 0]) ∧ ∃ qs,
      (qs.length = 2 ∧ (cts qs)[0]? = some (stC (giC f9) false).1 ∧ (cts qs)[1]? = some c0) ∧ NtO w1.heap.size w' s' qs (List.replicate 2 false) ∧ (∃ hs dl, LnO w1.heap.size w' a 2 dl [false, true] hs) ∧ Below w1.heap.size w1 w' := fun w1 h1 b hl => by
    have hc0 : (cts qs4)[0]? = some (giC f9) := by rw [k2]; rfl
    have hc1 : (cts qs4)[1]? = some c0 := by rw [k2]; rfl
    have hx : false = (dvL (cts qs4) (List.replicate 2 false)).all id := by rw [k2]; rfl
    refine (netStep_any w1 s4 qs4 (List.replicate 2 false) 2 0 (some ⟨b, 0, none⟩) 1 1 [1] h1 N5.len (by simp) (by omega) hok hl (by omega) (fun x hx => by rw [List.mem_singleton] at hx; omega) (by omega) (by omega) false hx).mono ?_
    rintro e w2 ⟨s', a, rfl, qs, hs, r1, r2, r3, r4, r5, r6, r7⟩
    refine ⟨s', a, rfl, qs, ⟨r1, ?_, ?_⟩, r5, ⟨hs, _, r6⟩, r7⟩
    · rw [r2 0 _ hc0]; rfl
    · rw [r2 1 _ hc1]; rfl
  have hb5 := N5.box
  have lit := ol_lit zv 3 0 W5 [1] #[.int .i64 1] 1 rfl rfl (by omega) (by omega)
  have hl5 := lit.rl
  have bl5 : Below W5.heap.size W5 (W5.alloc (.cells #[.int .i64 1] 3)) := bnew0 W5 _
  have hr5 := N5.r.below bl5
  have lg4 := N5.lt
  clear hok
  go_upto_region 8 with (first
    | (with_reducible refine wpList_loadR rowN rfl _ rfl _ rfl hb5 rfl ?_)
    | (go_at_call 7; (with_reducible refine (hS _ hr5 _ hl5).mono ?_); rintro e w6 ⟨s6, a6, rfl, qs6, hq6, o6, ⟨hs6, dl6, L6⟩, g6⟩
       have T6 := two9 w6 s6 a6 2 1 false
       obtain ⟨tz, tz1, tl1, tn2, tl2, tb⟩ := T6)
    | (with_reducible refine wpList_storeR rowN rfl _ _ rfl _ _ rfl rfl tz1 rfl rfl (nt_ones _ _ _ _) ?_)
    | (with_reducible refine wpList_storeR rowLn rfl _ _ rfl _ _ rfl rfl tl1 rfl rfl (ln_ones _ _ _ _ _ _ _ _ _ _) ?_))
  have b7 : Below W5.heap.size W5 ((((w6.alloc (.cells ntZ 31)).alloc (.cells lnZ 36)).setRow w6.heap.size (ntA s6 2 2 1)).setRow (w6.heap.size + 1) (lnV a6 2 false)) := bstep (bstep bl5 g6) tb
  have o7 := o6.below tb
  have L7 := L6.below tb
  have l6 : W5.heap.size < w6.heap.size := by have := g6.size; simp at this; omega
  clear tz tz1 tl1 o6 L6 tb g6 hl5 hr5 hS lit bl5 hb5
  try rw [put_no9]
  change Code.wp _ _ _ _ ((((w6.alloc (.cells ntZ 31)).alloc (.cells lnZ 36)).setRow w6.heap.size (ntA s6 2 2 1)).setRow (w6.heap.size + 1) (lnV a6 2 false))
  generalize (((w6.alloc (.cells ntZ 31)).alloc (.cells lnZ 36)).setRow w6.heap.size (ntA s6 2 2 1)).setRow (w6.heap.size + 1) (lnV a6 2 false) = W7 at *
  obtain ⟨qn, hqn⟩ : ∃ q, q = w6.heap.size := ⟨_, rfl⟩
  rw [← hqn] at tn2 tl2 l6 ⊢
  clear hqn
  obtain ⟨r1, r2, r3⟩ := hq6
  obtain ⟨bS, oS, eS, cS⟩ := L7.samAt (by omega)
  obtain ⟨gN, eN, _, cN⟩ := o7.nodAt (by omega)
  have qS := cS 1 true rfl
  obtain ⟨p0, _⟩ := cN 0 _ r2
  obtain ⟨p1, _⟩ := cN 1 _ r3
  have q8 := bx4 tl2
  have q7 := (bx3 tn2).1
  rw [eS] at q8
  rw [eN] at q7
  obtain ⟨_, q81, q82, _⟩ := q8
  have N7 := N5.below b7
  have hF4 : NtF (qn + 1) s4 qs4 := N5.own.freeHi (by omega)
  have tn2f := tn2
  have gg7 := bstep gg5 b7
  clear cS cN r1 r2 r3 eS eN L7 o7 tn2 N5 b7 gg5
  have HA : Hid (∀ j c, (cts qs4)[j]? = some c → AwC 0 j c) := hA
  have F7 : NtF (qn + 1) s4 qs4 := hF4
  clear hA hF4 k2
  go_upto_region 10 with fail
  clear p0 p1 qS q7 q81 q82 tn2f
  go_wp2
  go_loopg [9, 85] N (fun gn s9 idx wr => ∃ (i : Nat) (s : Na) (ps : List Nd) (la : La) (lx : Bool), i ≤ N ∧ gn = N - i ∧ idx = .int .i64 (i : Int) ∧ s9 = .int .i64 0 ∧ Nb wr g4 2 (i : Int) s ps (List.replicate 2 false) ∧ NtF (qn + 1) s ps ∧ wr.heap[qn + 1]? = some (.cells (lnV la 2 lx) 36 (0, 0)) ∧ Below w.heap.size w wr ∧ Hid (∀ j c, (cts ps)[j]? = some c → AwC i j c))
  case atStart => exact ⟨0, s4, qs4, a6, false, by omega, by omega, rfl, rfl, N7, F7, tl2, gg7, HA⟩
  case round =>
    clear N7 F7 tl2 gg7 HA
    obtain ⟨i, s, ps, la, lx, hi, rfl, rfl, rfl, N0, F0, hl0, hbel, HA⟩ := hrel
    have lln := bx_lt hl0
    have hb0 := N0.box
    have hr0 := N0.r
    have lN0 := N0.lt
    by_cases hlt : i < N
    · have hok : ∀ p ∈ ps, StepOK p.1 := fun p hp => by
        obtain ⟨j, hj⟩ := List.getElem?_of_mem hp
        exact aw_ok (i := i) (by have := HP.out; omega) (HA.out j _ (cts_at hj))
      have hx : xB f9 i = (dvL (cts ps) (List.replicate 2 false)).all id := by
        rw [dvL_up (cts ps) 2 (by rw [cts_len, N0.len])]
        exact (aw_bus (by rw [cts_len, N0.len]) (by have := HP.out; omega) HA.out).symm
      have hst := fun j c hj => aw_step (i := i) (j := j) (c := c) (by have := HP.out; omega) (HA.out j c hj)
      obtain ⟨x, hxe⟩ : ∃ x, x = xB f9 i := ⟨_, rfl⟩
      rw [← hxe] at hx hst
      have hS := netStep_any wr s ps (List.replicate 2 false) 2 (i : Int) none 0 0 [] hr0 N0.len (by simp) (by omega) hok (RL.nil _ _ _ _) (by omega) (fun x hx => by cases hx) (by omega) (by omega) x hx
      have hlen := N0.len
      have HST := hid (And.intro hst HA.out)
      clear hok hx hst hxe HA
      go_upto_region 14 with (first
        | (with_reducible refine wpList_loadR rowN rfl _ rfl _ rfl hb0 rfl ?_)
        | (go_at_call 7; (with_reducible refine hS.mono ?_); rintro e w5 ⟨s5, a5, rfl, qs5, hs5, r1, r2, r3, r4, o5, L5, g5⟩
           have hb5 := bx_below hb0 g5
           have hl5 := (setRow_other w5 g4 (qn + 1) (ntA s5 2 2 ((i : Int) + 1)) (by omega)).trans (bx_below hl0 g5))
        | (with_reducible refine wpList_storeR rowN rfl _ _ rfl _ _ rfl rfl hb5 rfl rfl (nt_ones _ _ _ _) ?_)
        | (with_reducible refine wpList_storeR rowLn rfl _ _ rfl _ _ rfl rfl hl5 rfl rfl (ln_ones _ _ _ _ _ _ _ _ _ _) ?_))
      have N5 : Nb (w5.setRow g4 (ntA s5 2 2 ((i : Int) + 1))) g4 2 ((i : Int) + 1) s5 qs5 (List.replicate 2 false) := Nb.put hb5 o5 (o5.freeLo lN0) r1 (by simp)
      have F5 : NtF (qn + 1) s5 qs5 := o5.freeLo lln
      have N8 := N5.other (q := qn + 1) (by omega) F5 (lnV a5 2 x)
      have L8 : LnO wr.heap.size ((w5.setRow g4 (ntA s5 2 2 ((i : Int) + 1))).setRow (qn + 1) (lnV a5 2 x)) a5 2 (dvL (cts ps) (List.replicate 2 false)) (smL 2 x []) hs5 := L5.keptHi fun q hq => (setRow_other _ _ _ _ (by omega)).trans (setRow_other _ _ _ _ (by omega))
      have hl8 : ((w5.setRow g4 (ntA s5 2 2 ((i : Int) + 1))).setRow (qn + 1) (lnV a5 2 x)).heap[qn + 1]? = some (.cells (lnV a5 2 x) 36 (0, 0)) := setRow_heap _ _ _ _ _ _ hl5
      have g8 : Below w.heap.size w ((w5.setRow g4 (ntA s5 2 2 ((i : Int) + 1))).setRow (qn + 1) (lnV a5 2 x)) := below_setRow (below_setRow (bstep hbel g5) (by omega) _) (by omega) _
      try rw [put_no9]
      change Code.wp _ _ _ _ ((w5.setRow g4 (ntA s5 2 2 ((i : Int) + 1))).setRow (qn + 1) (lnV a5 2 x))
      generalize (w5.setRow g4 (ntA s5 2 2 ((i : Int) + 1))).setRow (qn + 1) (lnV a5 2 x) = W8 at *
      clear hb5 hl5 N5 L5 o5 g5 hS hb0 hr0 hl0 hbel N0 F0
      obtain ⟨⟨c0', hc0⟩, c1', hc1⟩ : (∃ c, (cts ps)[0]? = some c) ∧ ∃ c, (cts ps)[1]? = some c := ⟨⟨_, List.getElem?_eq_getElem (by rw [cts_len]; omega)⟩, _, List.getElem?_eq_getElem (by rw [cts_len]; omega)⟩
      obtain ⟨gH, eH, _, cH⟩ := L8.hapAt (by omega)
      have p0 := cH 0 _ (r4 0 _ hc0)
      have p1 := cH 1 _ (r4 1 _ hc1)
      rw [hp_up, bi_nil] at p0 p1
      have q83 := (bx4 hl8).2.2.2
      rw [eH] at q83
      have HN : Hid (∀ j c, (cts qs5)[j]? = some c → AwC (i + 1) j c) := fun j c hj => by
        obtain ⟨cc, hcc⟩ : ∃ cc, (cts ps)[j]? = some cc := ⟨_, List.getElem?_eq_getElem (by have := (List.getElem?_eq_some_iff.1 hj).1; rw [cts_len] at this ⊢; omega)⟩
        have e := r2 j cc hcc
        rw [nx_up, bi_nil] at e
        rw [hj] at e
        cases e
        exact (HST.out.1 j cc hcc).1
      obtain ⟨h0, hh0⟩ : ∃ h, h = (stC c0' x).2.1 := ⟨_, rfl⟩
      obtain ⟨h1, hh1⟩ : ∃ h, h = (stC c1' x).2.1 := ⟨_, rfl⟩
      rw [← hh0] at p0
      rw [← hh1] at p1
      have k0 : Hid (h0 = 1 ↔ i = P + 9) := by
        have := (HST.out.1 0 _ hc0).2.2
        rw [← hh0, ← HP.out.1] at this; exact this.trans (by simp)
      have k1 : Hid (h1 = 2 ↔ i = P + 8) := by
        have := (HST.out.1 1 _ hc1).2.1
        rw [← hh1, ← HP.out.1] at this; exact this.trans (by simp)
      clear hh0 hh1 hc0 hc1 r1 r2 r3 r4 cH L8 eH HST
      by_cases e8 : i = P + 8
      · have qc : ((i : Int) == (N : Int) - 2) = true := by have := HP.out; simp; omega
        have qd : ((i : Int) == (N : Int) - 1) = false := by have := HP.out; simp; omega
        obtain rfl : h1 = 2 := k1.out.2 e8
        have qa : ((h0 : Int) == 1) = false := by have := k0.out; simp; omega
        clear k0 k1 e8
        go_wp2_with fail
        go_roundg (N - (i + 1))
        case measure => go_light; omega
        case rel => go_light; exact ⟨i + 1, _, _, _, _, by omega, rfl, by go_num, rfl, N8, F5, hl8, g8, HN⟩
      · have qc : ((i : Int) == (N : Int) - 2) = false := by have := HP.out; simp; omega
        have qb : ((h1 : Int) == 2) = false := by have := k1.out; simp; omega
        by_cases e9 : i = P + 9
        · have qd : ((i : Int) == (N : Int) - 1) = true := by have := HP.out; simp; omega
          obtain rfl : h0 = 1 := k0.out.2 e9
          clear k0 k1 e8 e9
          go_wp2_with fail
          go_roundg (N - (i + 1))
          case measure => go_light; omega
          case rel => go_light; exact ⟨i + 1, _, _, _, _, by omega, rfl, by go_num, rfl, N8, F5, hl8, g8, HN⟩
        · have qd : ((i : Int) == (N : Int) - 1) = false := by have := HP.out; simp; omega
          have qa : ((h0 : Int) == 1) = false := by have := k0.out; simp; omega
          clear k0 k1 e8 e9
          go_wp2_with fail
          go_roundg (N - (i + 1))
          case measure => go_light; omega
          case rel => go_light; exact ⟨i + 1, _, _, _, _, by omega, rfl, by go_num, rfl, N8, F5, hl8, g8, HN⟩
    · obtain rfl : i = N := by omega
      have hlen := N0.len
      have hcl : (cts ps).length = 2 := by rw [cts_len, hlen]
      have hok : ∀ c ∈ cts ps, StepOK c := fun c hc => by
        obtain ⟨j, hj⟩ := List.getElem?_of_mem hc
        exact aw_ok (i := i) (by have := HP.out; omega) (HA.out j _ hj)
      have hsh : ∀ c ∈ cts ps, Shr c := fun c hc => ⟨(hok c hc).dl, (hok c hc).wl, (hok c hc).tl⟩
      have hC0 := aw_crash0 wr s ps (i : Int) hr0 hlen hsh
      have hC1 := fun w1 s1 qs (h1 : NtR w1 s1 qs [true, false]) h2 (h3 : cts qs = cts ps) => aw_crash1 w1 s1 qs (i : Int) h1 h2 (by rw [h3]; exact hsh)
      have hSt := fun w1 s1 qs (h1 : NtR w1 s1 qs [true, true]) h2 (h3 : cts qs = cts ps) => aw9_last w1 s1 qs (i : Int) h1 h2 (by rw [h3]; exact hok) (by omega)
      clear hok hsh HA hcl
      go_upto_region 18 with (first
        | (with_reducible refine wpList_loadR rowN rfl _ rfl _ rfl hb0 rfl ?_)
        | (go_at_call 9; (with_reducible refine hC0.mono ?_); rintro e w5 ⟨s5, rfl, qs5, j1, j2, o5, g5⟩
           have hb5 := bx_below hb0 g5)
        | (with_reducible refine wpList_storeR rowN rfl _ _ rfl _ _ rfl rfl hb5 rfl rfl (nt_ones _ _ _ _) ?_))
      have N5 : Nb (w5.setRow g4 (ntA s5 2 2 (i : Int))) g4 2 (i : Int) s5 qs5 [true, false] := Nb.put hb5 o5 (o5.freeLo lN0) j1 rfl
      have hl5 := (setRow_other w5 g4 (qn + 1) (ntA s5 2 2 (i : Int)) (by omega)).trans (bx_below hl0 g5)
      have gg5 : Below w.heap.size w (w5.setRow g4 (ntA s5 2 2 (i : Int))) := below_setRow (bstep hbel g5) (by omega) _
      clear hC0 hb0 hr0 hl0 hbel N0 F0 g5 hb5 o5
      try rw [put_no9]
      change Code.wp _ _ _ _ (w5.setRow g4 (ntA s5 2 2 (i : Int)))
      generalize w5.setRow g4 (ntA s5 2 2 (i : Int)) = W5 at *
      have hb5 := N5.box
      have hr5 := N5.r
      have lN5 := N5.lt
      have hC := hC1 W5 s5 qs5 hr5 j1 j2
      go_upto_region 19 with (first
        | (with_reducible refine wpList_loadR rowN rfl _ rfl _ rfl hb5 rfl ?_)
        | (go_at_call 9; (with_reducible refine hC.mono ?_); rintro e w6 ⟨s6, rfl, qs6, i1, i2, o6, g6⟩
           have hb6 := bx_below hb5 g6)
        | (with_reducible refine wpList_storeR rowN rfl _ _ rfl _ _ rfl rfl hb6 rfl rfl (nt_ones _ _ _ _) ?_))
      have N6 : Nb (w6.setRow g4 (ntA s6 2 2 (i : Int))) g4 2 (i : Int) s6 qs6 [true, true] := Nb.put hb6 o6 (o6.freeLo lN5) i1 rfl
      have F6 : NtF (qn + 1) s6 qs6 := o6.freeLo (bx_lt hl5)
      have hl6 := (setRow_other w6 g4 (qn + 1) (ntA s6 2 2 (i : Int)) (by omega)).trans (bx_below hl5 g6)
      have gg6 : Below w.heap.size w (w6.setRow g4 (ntA s6 2 2 (i : Int))) := below_setRow (bstep gg5 g6) (by omega) _
      clear hC hC1 hb5 hr5 hl5 gg5 N5 g6 hb6 o6 j1
      try rw [put_no9]
      change Code.wp _ _ _ _ (w6.setRow g4 (ntA s6 2 2 (i : Int)))
      generalize w6.setRow g4 (ntA s6 2 2 (i : Int)) = W6 at *
      have hb6 := N6.box
      have hr6 := N6.r
      have hS6 := hSt W6 s6 qs6 hr6 i1 (i2.trans j2)
      have lq := bx_lt hl6
      clear hSt
      go_upto_region 20 with (first
        | (with_reducible refine wpList_loadR rowN rfl _ rfl _ rfl hb6 rfl ?_)
        | (go_at_call 7; (with_reducible refine hS6.mono ?_); rintro e w7 ⟨s7, a7, rfl, g7⟩
           have hz7 := heap_alloc_new w7 (.cells ntZ 31)
           have l7 := g7.size
           have hl7 := (setRow_other (w7.alloc (.cells ntZ 31)) w7.heap.size (qn + 1) (ntA s7 2 2 ((i : Int) + 1)) (by omega)).trans (bx_alloc (.cells ntZ 31) (bx_below hl6 g7)))
        | (with_reducible refine wpList_storeR rowN rfl _ _ rfl _ _ rfl rfl hz7 rfl rfl (nt_ones _ _ _ _) ?_)
        | (with_reducible refine wpList_storeR rowLn rfl _ _ rfl _ _ rfl rfl hl7 rfl rfl (ln_ones _ _ _ _ _ _ _ _ _ _) ?_))
      have b8 : Below W6.heap.size W6 ((w7.alloc (.cells ntZ 31)).setRow w7.heap.size (ntA s7 2 2 ((i : Int) + 1))) := below_setRow (bnew g7 _) (by omega) _
      have N8 := (N6.below b8).other (q := qn + 1) (by omega) F6 (lnV a7 2 true)
      have hl8 : (((w7.alloc (.cells ntZ 31)).setRow w7.heap.size (ntA s7 2 2 ((i : Int) + 1))).setRow (qn + 1) (lnV a7 2 true)).heap[qn + 1]? = some (.cells (lnV a7 2 true) 36 (0, 0)) := setRow_heap _ _ _ _ _ _ hl7
      have gg8 : Below w.heap.size w (((w7.alloc (.cells ntZ 31)).setRow w7.heap.size (ntA s7 2 2 ((i : Int) + 1))).setRow (qn + 1) (lnV a7 2 true)) := below_setRow (bstep gg6 b8) (by omega) _
      try rw [put_no9]
      change Code.wp _ _ _ _ (((w7.alloc (.cells ntZ 31)).setRow w7.heap.size (ntA s7 2 2 ((i : Int) + 1))).setRow (qn + 1) (lnV a7 2 true))
      generalize ((w7.alloc (.cells ntZ 31)).setRow w7.heap.size (ntA s7 2 2 ((i : Int) + 1))).setRow (qn + 1) (lnV a7 2 true) = W8 at *
      have hb8 := N8.box
      have q81 := (bx4 hl8).2.1
      have hQ := aw_quiet W8 s6 qs6 (i : Int) N8.r i1
      clear hz7 hl7 b8 g7 l7 hS6 hb6 hr6 hl6 gg6 N6 F6 N8 hl8 i1 i2 lN5 lq
      go_wp2_with (first
        | (with_reducible refine wpList_loadW rowN (by simp [Region.wanted, yielded]) _ rfl _ rfl hb8 rfl ?_)
        | (go_at_call 17; (with_reducible refine hQ.mono ?_); rintro e w9 ⟨rfl, g9⟩))
      go_ret
      exact ⟨rfl, bstep gg8 g9⟩
end Go.Proofs.YtgpmhmdofefdcaaGreat

namespace Go.Proofs.YtgpmhmdofefdcaaGreat
open Go.RowKit Go.Sort
set_option linter.unusedVariables false

theorem tI9 : ElT Tryz.prog 41 3 (.int .i64 0) 8 := ⟨by kernel_rfl, by kernel_rfl, by kernel_rfl, by kernel_rfl, by kernel_rfl⟩

section
variable {B : Nat} {w w1 : World} {g n : Nat} {z : Int} {s : Na} {ps : List Nd} {cr : List Bool}
theorem NtO.setCellF (h : NtO B w s ps cr) (hf : NtF g s ps) (i : Nat) (v : Value) : NtO B (w.setCell ⟨g, i, none⟩ v) s ps cr :=
  ⟨h.nod.kept fun q hq => heap_setCell_other _ _ _ _ (hf.na _ hq), h.cra.kept fun q hq => heap_setCell_other _ _ _ _ (hf.ca _ hq), fun p hp => (h.sl p hp).kept fun q => by
    by_cases e : q = g
    · subst e; exact .inl (hf.sl p hp)
    · exact .inr (heap_setCell_other _ _ _ _ e), h.sn, h.sc⟩
theorem Nb.cell (h : Nb w g n z s ps cr) {q : Nat} (hq : q ≠ g) (hf : NtF q s ps) (i : Nat) (v : Value) : Nb (w.setCell ⟨q, i, none⟩ v) g n z s ps cr :=
  ⟨(heap_setCell_other _ _ _ _ (Ne.symm hq)).trans h.box, h.own.setCellF hf i v, h.free, h.len, h.cln⟩
end

/-- Which kind of node: the sender, the one that samples a bit turned about, another one. -/
def kd (q j : Nat) : Nat := if j = 0 then 0 else if j = q then 1 else 2
theorem kd_le (q j : Nat) : kd q j ≤ 2 := by unfold kd; split <;> (try split) <;> omega

theorem om_bi {F : Fr} {q i j : Nat} (hq : 1 ≤ q) : biN (omB F i) (if i = (putL (boL F)).length + 8 then [(q : Int)] else []) j = omS F i (kd q j) := by
  unfold omS
  by_cases h : i = (putL (boL F)).length + 8
  · rw [if_pos h, bi_one]
    by_cases hj : j = q
    · rw [if_pos hj, if_pos ⟨h, by unfold kd; rw [if_neg (by omega), if_pos hj]⟩]
    · rw [if_neg hj, if_neg]
      intro e
      have := e.2
      unfold kd at this
      rw [if_neg hj] at this
      split at this <;> omega
  · rw [if_neg h, bi_nil, if_neg fun e => h e.1]

theorem om_begin {F : Fr} {M q j : Nat} {c : Ct} (h : (gvL M [F])[j]? = some c) : OmC F 0 (kd q j) c := by
  have hP := P_pos F
  refine .inl ⟨by omega, .inl ⟨rfl, ?_⟩⟩
  unfold gvL at h
  match j with
  | 0 =>
    cases h
    exact ⟨giC F, rfl, rfl, rfl, rfl⟩
  | j + 1 =>
    have hk : ¬ kd q (j + 1) = 0 := by unfold kd; rw [if_neg (by omega)]; split <;> omega
    have hn : omG F (kd q (j + 1)) = none := if_neg hk
    rw [hn]
    have e : ([F].map giC ++ List.replicate (M - [F].length) c0)[j + 1]? = (List.replicate (M - 1) c0)[j]? := by simp
    rw [e, List.getElem?_replicate] at h
    split at h
    · cases h; exact ⟨c0, rfl, rfl, rfl, rfl⟩
    · cases h

/-- How often a node has taken the frame. -/
def tkV (P q j k : Nat) : Int := (if kd q j = 2 ∧ P + 8 < k then 1 else 0) + (if kd q j ≠ 0 ∧ P + 27 + (P + 8) < k then 1 else 0)
/-- The bit in which it was sent. -/
def seV (P k : Nat) : Int := if P + 27 + (P + 9) < k then ((P + 27 + (P + 9) : Nat) : Int) else -1
theorem tkV_le (P q j k : Nat) : 0 ≤ tkV P q j k ∧ tkV P q j k ≤ 2 := by unfold tkV; split <;> split <;> omega
theorem kd_zero {q j : Nat} : kd q j = 0 ↔ j = 0 := by
  unfold kd
  split
  · rename_i h; exact ⟨fun _ => h, fun _ => rfl⟩
  · rename_i h; split <;> exact ⟨fun e => by omega, fun e => absurd e h⟩
theorem om_tk (P q j k : Nat) : tkV P q j (k + 1) = if (k = P + 8 ∧ kd q j = 2) ∨ (k = P + 27 + (P + 8) ∧ kd q j ≠ 0) then tkV P q j k + 1 else tkV P q j k := by
  unfold tkV
  generalize kd q j = t
  repeat' split
  all_goals omega
theorem om_se (P k : Nat) : seV P (k + 1) = if k = P + 27 + (P + 9) then (k : Int) else seV P k := by
  unfold seV
  by_cases h : k = P + 27 + (P + 9)
  · rw [if_pos h, if_pos (by omega), h]
  · rw [if_neg h]
    by_cases h2 : P + 27 + (P + 9) < k
    · rw [if_pos h2, if_pos (by omega)]
    · rw [if_neg h2, if_neg (by omega)]
theorem om_T {P q i k h : Nat} {T : Int} (hT : T = if 1 ≤ i then seV P (k + 1) else seV P k) (h1 : h = 1 ↔ k = P + 27 + (P + 9) ∧ kd q i = 0) :
    (if h = 1 then (k : Int) else T) = if 1 ≤ i + 1 then seV P (k + 1) else seV P k := by
  rw [if_pos (show 1 ≤ i + 1 by omega), om_se]
  rw [kd_zero] at h1
  by_cases hi : i = 0
  · rw [if_neg (by omega)] at hT
    by_cases e : k = P + 27 + (P + 9)
    · rw [if_pos (h1.2 ⟨e, hi⟩), if_pos e]
    · rw [if_neg (fun x => e (h1.1 x).1), if_neg e, hT]
  · rw [if_pos (by omega), om_se] at hT
    rw [if_neg (fun x => hi (h1.1 x).2), hT]
/-- One number more, by place. -/
theorem om_put {P q i k M : Nat} {tk : List Int} (hl : tk.length = M) (h : ∀ j, j < M → tk[j]? = some (if j < i then tkV P q j (k + 1) else tkV P q j k)) (v : Int) (hv : v = tkV P q i (k + 1)) (hi : i < M) :
    ∀ j, j < M → (tk.set i v)[j]? = some (if j < i + 1 then tkV P q j (k + 1) else tkV P q j k) := fun j hj => by
  rw [List.getElem?_set]
  by_cases e : i = j
  · subst e; rw [if_pos rfl, if_pos (by omega), if_pos (by omega), hv]
  · rw [if_neg e, h j hj]
    by_cases e2 : j < i
    · rw [if_pos e2, if_pos (by omega)]
    · rw [if_neg e2, if_neg (by omega)]
theorem om_keep {P q i k M : Nat} {tk : List Int} (h : ∀ j, j < M → tk[j]? = some (if j < i then tkV P q j (k + 1) else tkV P q j k)) (hv : tkV P q i (k + 1) = tkV P q i k) :
    ∀ j, j < M → tk[j]? = some (if j < i + 1 then tkV P q j (k + 1) else tkV P q j k) := fun j hj => by
  rw [h j hj]
  by_cases e : i = j
  · subst e; rw [if_neg (by omega), if_pos (by omega), hv]
  · by_cases e2 : j < i
    · rw [if_pos e2, if_pos (by omega)]
    · rw [if_neg e2, if_neg (by omega)]
/-- A list of one frame, as it is written. -/
theorem one_frame (w : World) (F : Fr) (a : Option Addr) (c : Nat) (hi : F.id < 4294967296) (hd : F.dlc < 256) (h : RL bv w a F.data.length c F.data) :
    FrR (w.alloc (.cells (frV F a c) 26)) (some ⟨w.heap.size, 0, none⟩) 1 1 [(F, (a, c))] := by
  refine ⟨(ok_lit enF_k 26 0 w [(F, (a, c))] (frV F a c) 1 (by simp [enF]) rfl (by omega) (by omega)).rk enF_k, fun p hp => ?_, fun p hp => ?_, fun p hp => ?_⟩
  · rw [List.mem_singleton] at hp; subst hp; exact h.below (bnew0 w _)
  · rw [List.mem_singleton] at hp; subst hp; exact hi
  · rw [List.mem_singleton] at hp; subst hp; exact hd

theorem size_setRow9 (w : World) (g : Nat) (cs : Array Value) : (w.setRow g cs).heap.size = w.heap.size := by simp

end Go.Proofs.YtgpmhmdofefdcaaGreat
