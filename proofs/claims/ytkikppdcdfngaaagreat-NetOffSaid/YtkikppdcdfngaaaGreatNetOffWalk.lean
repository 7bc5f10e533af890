/-
  The walk of the statement NetOff: for any frame and any number of nodes it returns true, and nothing that was there has changed.
-/
import Derived.Test.YtkikppdcdfngaaaGreatB9s
namespace Go.Proofs.YtkikppdcdfngaaaGreat
open Go.RowKit Go.Sort
set_option linter.unusedVariables false

theorem rowCf : RowT Tryz.prog 46 5 := rowT_of (by kernel_rfl) (by kernel_rfl)
/-- Whether a node has a frame; its counters. -/
theorem NtO.nodHas {B : Nat} {w : World} {s : Na} {ps : List Nd} {cr : List Bool} (h : NtO B w s ps cr) (hn : 0 < ps.length) :
    ∃ g, s.na = some ⟨g, 0, none⟩ ∧ ∀ c, (cts ps)[0]? = some c → w.cell? ⟨g, 0, none⟩ = some (.int .u8 (c.ph : Int)) ∧ w.cell? ⟨g, 7, none⟩ = some (.bool c.has) ∧ w.rangeAt g 2 [.int .i64 c.cf.t, .int .i64 c.cf.r, .bool c.cf.o, .int .i64 c.cf.n, .int .i64 c.cf.m] := by
  obtain ⟨g, hg, _, _⟩ := h.nod.addr hn
  have hp := h.nod
  rw [hg] at hp
  refine ⟨g, hg, fun c hc => ?_⟩
  unfold cts at hc
  rw [List.getElem?_map] at hc
  cases hx : ps[0]? with
  | none => rw [hx] at hc; cases hc
  | some y =>
    rw [hx] at hc
    cases hc
    have hr := hp.range enC_k hx
    have e0 := hr 0 _ rfl
    have e7 := hr 7 _ rfl
    have e2 := hr 2 _ rfl
    have e3 := hr 3 _ rfl
    have e4 := hr 4 _ rfl
    have e5 := hr 5 _ rfl
    have e6 := hr 6 _ rfl
    simp only [Nat.zero_mul, Nat.zero_add] at e0 e7 e2 e3 e4 e5 e6
    refine ⟨e0, e7, fun j v hv => ?_⟩
    match j with
    | 0 => cases hv; exact e2
    | 1 => cases hv; exact e3
    | 2 => cases hv; exact e4
    | 3 => cases hv; exact e5
    | 4 => cases hv; exact e6
    | j + 5 => cases hv

set_option maxRecDepth 100000 in
set_option maxHeartbeats 8000000 in
theorem netOff_any (w : World) (F : Fr) (a : Option Addr) (c : Nat) (y : Nat) (hi : F.id < 4294967296) (hd : F.dlc < 256) (h : RL bv w a F.data.length c F.data) (hy : y < 256) :
    Calls Tryz.prog 7 #[.agg (frV F a c), .int .u8 (y : Int)] w fun e w' => e = .returned (.bool true) ∧ Below w.heap.size w w' := by
  have hz0 := heap_alloc_new w (.cells (frV F a c) 34)
  have g0 : Below w.heap.size w (w.alloc (.cells (frV F a c) 34)) := bnew0 w _
  have h0 := h.below g0
  obtain ⟨m6, hm6⟩ : ∃ m, m = y % 5 := ⟨_, rfl⟩
  have hki : (y : Int) % 5 = (m6 : Int) := by omega
  obtain ⟨M, hM⟩ : ∃ M, M = 2 + m6 := ⟨_, rfl⟩
  have i3 : 2 + (m6 : Int) = (M : Int) := by omega
  have hMb : 2 ≤ M ∧ M ≤ 6 := by omega
  have hsz : (frV F a c).size = 5 := rfl
  clear hm6 hM
  cases hr : riF F.id F.ext F.rem F.dlc F.data.length
  · have hW := fun w1 => wire_wrong w1 F.id F.ext F.rem F.dlc a F.data.length c hi hd hr
    go_enter Tryz.func7, Tryz.ntmps7
    go_upto_region 2 with (first
      | (with_reducible refine wpList_loadR rowF rfl _ rfl _ rfl hz0 rfl ?_)
      | (go_at_call 11; (with_reducible refine (hW _).mono ?_); rintro e w1 ⟨rfl, g1⟩))
    have hz1 := bx_below hz0 g1
    have gg1 := bstep g0 g1
    have hF := one_frame w1 F a c hi hd (h0.below g1)
    have hGv := given_any _ _ _ _ M _ hF (by omega) (by omega) (by omega)
    have hng : ¬ Good F := fun e => by rw [(good_iff F _ rfl).2 e] at hr; cases hr
    have HNG := hid hng
    have bl1 := bnew0 w1 (.cells (frV F a c) 34)
    clear hng hz0 g0 g1 hW h0 h hr hF
    go_wp2_with (first
      | (with_reducible refine wpList_loadR rowF rfl _ rfl _ rfl hz1 rfl ?_)
      | (go_at_call 9; (with_reducible refine hGv.mono ?_); rintro e w2 ⟨s2, b, rfl, hb, _, g2⟩
         obtain rfl : b = false := by
           cases b with
           | false => rfl
           | true => exact absurd (hb.1 rfl _ (List.mem_singleton.2 rfl)) HNG.out
         have hz2 := heap_alloc_new w2 (.cells ntZ 27)
         have gg3 : Below w.heap.size w ((w2.alloc (.cells ntZ 27)).setRow w2.heap.size (ntA s2 M M 0)) := below_setRow (bnew (bstep (bstep gg1 bl1) g2) _) (bstep (bstep gg1 bl1) g2).size _
         clear hb)
      | (with_reducible refine wpList_storeR rowN rfl _ _ rfl _ _ rfl rfl hz2 rfl rfl (nt_ones _ _ _ _) ?_)
      | (go_at_call 15; (with_reducible refine (awake9_any _).mono ?_); rintro e w4 ⟨rfl, g4⟩))
    go_ret
    exact ⟨rfl, bstep gg3 g4⟩
  · have hg : Good F := (good_iff F _ rfl).1 hr
    obtain ⟨P, hP⟩ : ∃ P, P = (putL (boL F)).length := ⟨_, rfl⟩
    have hPb : 34 ≤ P ∧ P ≤ 150 := by rw [hP]; exact ⟨P_pos F, P_top hg⟩
    obtain ⟨N, hN⟩ : ∃ N, N = P + 10 := ⟨_, rfl⟩
    obtain ⟨K, hK⟩ : ∃ K, K = 2958 + N := ⟨_, rfl⟩
    have iK : 2958 + (N : Int) = (K : Int) := by omega
    have hW : ∀ w1, RL bv w1 a F.data.length c F.data → Calls Tryz.prog 11 #[.agg (frV F a c)] w1 fun e w' => ∃ a' c', e = .returned (.tuple #[.slice a' N c', .int .i64 0]) ∧ Below w1.heap.size w1 w' := fun w1 h1 => by
      refine (wire_any w1 F.id F.ext F.rem F.dlc a F.data.length c F.data hi hd h1 hr).mono ?_
      rintro e w2 ⟨a', c', rfl, _, g2⟩
      exact ⟨a', c', by rw [hN, hP], g2⟩
    have HK := hid (And.intro hP (And.intro hN hK))
    have HG := hid hg
    have hNb : N ≤ 160 := by omega
    have hKb : K ≤ 4000 := by omega
    have H := hid h
    clear hr hg hP hN hK h
    go_enter Tryz.func7, Tryz.ntmps7
    go_upto_region 2 with (first
      | (with_reducible refine wpList_loadR rowF rfl _ rfl _ rfl hz0 rfl ?_)
      | (go_at_call 11; (with_reducible refine (hW _ h0).mono ?_); rintro e w1 ⟨a1, c1, rfl, g1⟩))
    have hz1 := bx_below hz0 g1
    have gg1 := bstep g0 g1
    have hF := one_frame w1 F a c hi hd (h0.below g1)
    have hGv := given_any _ _ _ _ M _ hF (by omega) (by omega) (by omega)
    have bl1 := bnew0 w1 (.cells (frV F a c) 34)
    clear hz0 g0 g1 hW h0 hF
    go_upto_region 5 with (first
      | (with_reducible refine wpList_loadR rowF rfl _ rfl _ rfl hz1 rfl ?_)
      | (go_at_call 9; (with_reducible refine hGv.mono ?_); rintro e w2 ⟨s2, b, rfl, hb, hb2, g2⟩
         obtain rfl : b = true := hb.2 fun p hp => by rw [List.mem_singleton] at hp; subst hp; exact HG.out
         obtain ⟨ps2, k1, k2, o2⟩ := hb2 rfl
         have hz2 := heap_alloc_new w2 (.cells ntZ 27)
         have gg2 := bstep (bstep gg1 bl1) g2
         clear hb hb2)
      | (with_reducible refine wpList_storeR rowN rfl _ _ rfl _ _ rfl rfl hz2 rfl rfl (nt_ones _ _ _ _) ?_))
    have N3 := Nb.new (z := 0) o2 k1 (List.length_replicate ..) ntZ
    have lwB : w.heap.size < w2.heap.size := by have := bx_lt (bx_below (bx_below hz1 bl1) g2); omega
    have gg3 : Below w.heap.size w ((w2.alloc (.cells ntZ 27)).setRow w2.heap.size (ntA s2 M M 0)) := below_setRow (bnew gg2 _) gg2.size _
    have hf3 := (setRow_other (w2.alloc (.cells ntZ 27)) w2.heap.size w.heap.size (ntA s2 M M 0) (by omega)).trans (bx_alloc (.cells ntZ 27) (bx_below (bx_below hz1 bl1) g2))
    have HA : Hid (OfA F 0 (cts ps2)) := by show OfA _ _ _; rw [k2]; exact ofA_begin HG.out hMb.1
    obtain ⟨gB, hgB⟩ : ∃ g, g = w2.heap.size := ⟨_, rfl⟩
    try rw [put_no9]
    change Code.wp _ _ _ _ ((w2.alloc (.cells ntZ 27)).setRow w2.heap.size (ntA s2 M M 0))
    generalize (w2.alloc (.cells ntZ 27)).setRow w2.heap.size (ntA s2 M M 0) = W3 at *
    rw [← hgB] at N3 lwB ⊢
    have q3 := (bx3 N3.box).1
    clear hgB hz2 gg2 o2 k1 k2 hGv hz1 gg1 bl1 g2 hsz
    clear w2
    go_wp2
    clear q3
    go_loopg [9, 10, 11, 12, 13, 53] K (fun gn s9 s10 s11 s12 s13 idx wr => ∃ (t : Nat) (s : Na) (ps : List Nd) (b o n e T : Nat), t ≤ K ∧ gn = K - t ∧ idx = .int .i64 (t : Int) ∧ s9 = .int .i64 (b : Int) ∧ s10 = .int .i64 (o : Int) ∧ s11 = .int .i64 (n : Int) ∧ s12 = .int .i64 (e : Int) ∧ s13 = .int .i64 (T : Int) ∧
      Nb wr gB M (t : Int) s ps (List.replicate M false) ∧ wr.heap[w.heap.size]? = some (.cells (frV F a c) 34 (0, 0)) ∧ Below w.heap.size w wr ∧ Hid (b = ofB t ∧ o = ofO t ∧ n = ofN t ∧ e = ofE P t ∧ T = ofT P M t) ∧ Hid (OfA F t (cts ps)))
    case atStart => exact ⟨0, s2, ps2, 0, 0, 0, 0, 0, by omega, by omega, rfl, rfl, rfl, rfl, rfl, rfl, N3, hf3, gg3, hid ⟨rfl, rfl, rfl, by unfold ofE; rw [if_neg (by omega)], by unfold ofT; rw [if_neg (by omega)]⟩, HA⟩
    case round =>
      clear N3 hf3 gg3 HA
      obtain ⟨t, s, ps, b, o, n, e, T, ht, rfl, rfl, rfl, rfl, rfl, rfl, rfl, N0, hf0, hbel, HC, HA⟩ := hrel
      by_cases hlt : t < K
      · have hlen := N0.len
        have hcl : (cts ps).length = M := by rw [cts_len, hlen]
        have hbnd : b ≤ 31 ∧ o ≤ 1 ∧ n ≤ 1 ∧ e ≤ 1 ∧ T ≤ 6 := by
          obtain ⟨h1, h2, h3, h4, h5⟩ := HC.out
          exact ⟨by rw [h1]; exact ofB_le t, by rw [h2]; exact ofO_le t, by rw [h3]; exact ofN_le t, by rw [h4]; exact ofE_le P t, by rw [h5]; unfold ofT; split <;> omega⟩
        obtain ⟨fl, hfl⟩ : ∃ fl : List Int, fl = if ofW t = true then [0] else [] := ⟨_, rfl⟩
        have HF := hid hfl
        have HF0 := hid hfl
        have hflg : ∀ x ∈ fl, 0 ≤ x ∧ x < (M : Int) := fun x hx => by
          rw [hfl] at hx
          split at hx
          · rw [List.mem_singleton] at hx; omega
          · cases hx
        clear hfl
        obtain ⟨ca, hca⟩ : ∃ c, (cts ps)[0]? = some c := ⟨_, List.getElem?_eq_getElem (by omega)⟩
        obtain ⟨gN, eN, cN⟩ := N0.own.nodHas (by omega)
        obtain ⟨p0, p7, _⟩ := cN ca hca
        have q0 := (bx3 N0.box).1
        rw [eN] at q0
        have HI : Hid (ofW t = (decide (ca.ph = 0) && (ca.has && decide (o = 0)))) := by
          show _ = _
          have ho := HC.out.2.1
          by_cases h856 : t ≤ 856
          · obtain ⟨i1, i2⟩ := HA.out.idle HG.out (by omega) h856 hca
            have : o = 0 := by rw [ho]; unfold ofO; rw [if_neg (by omega)]
            rw [i2, decide_eq_true this, Bool.and_true, Bool.and_true]
            by_cases hw : ofW t = true
            · rw [hw, decide_eq_true (i1.2 hw)]
            · rw [decide_eq_false fun x => hw (i1.1 x)]; simpa using hw
          · have : o = 1 := by rw [ho]; unfold ofO; rw [if_pos (by omega)]
            rw [decide_eq_false (show ¬ o = 0 by omega), Bool.and_false, Bool.and_false]
            cases hw : ofW t with
            | false => rfl
            | true => have := ofW_iff.1 hw; omega
        generalize ca.ph = ph at *
        generalize ca.has = hh at *
        clear cN eN hca
        go_upto_region 11 with fail
        obtain ⟨wf, hwf⟩ : ∃ v, v = ofW t := ⟨_, rfl⟩
        rw [← hwf] at HI HF
        clear hwf
        go_cut [71] (fun v wx => v = .bool wf ∧ wx = wr)
        case first =>
          clear HF N0 hf0 HC HA hflg hbnd
          by_cases e1 : ph = 0
          · have q1 : ((ph : Int) == 0) = true := by simp; omega
            cases hh with
            | true =>
              by_cases e2 : o = 0
              · have q2 : ((o : Int) == 0) = true := by simp; omega
                have HX : Hid (wf = true) := by show _ = _; rw [HI.out, decide_eq_true e1, decide_eq_true e2]; rfl
                clear HI e1 e2
                go_wp2_with fail
                go_meet
                exact ⟨by rw [HX.out], rfl⟩
              · have q2 : ((o : Int) == 0) = false := by simp; omega
                have HX : Hid (wf = false) := by show _ = _; rw [HI.out, decide_eq_false e2]; simp
                clear HI e1 e2
                go_wp2_with fail
                go_meet
                exact ⟨by rw [HX.out], rfl⟩
            | false =>
              have HX : Hid (wf = false) := by show _ = _; rw [HI.out]; simp
              clear HI e1
              go_wp2_with fail
              go_meet
              exact ⟨by rw [HX.out], rfl⟩
          · have q1 : ((ph : Int) == 0) = false := by simp; omega
            have HX : Hid (wf = false) := by show _ = _; rw [HI.out, decide_eq_false e1]; rfl
            clear HI e1
            go_wp2_with fail
            go_meet
            exact ⟨by rw [HX.out], rfl⟩
        case rest =>
        obtain ⟨rfl, rfl⟩ := hcut
        clear HI p0 p7 q0
        go_upto_if 71 with fail
        go_cut [14] (fun v wx => ∃ (af : Option Addr) (nf cf : Nat), v = .slice af nf cf ∧ nf ≤ 1 ∧ RL zv wx af nf cf fl ∧ Below wc.heap.size wc wx)
        case first =>
          have lit := ol_lit zv 3 0 wc [0] #[.int .i64 0] 1 rfl rfl (by omega) (by omega)
          have HL := hid lit
          clear lit N0 hf0 HC HA hflg hbnd
          cases wf with
          | true =>
            have HX : Hid (fl = [0]) := HF.out.trans (if_pos rfl)
            clear HF
            go_wp2_with fail
            go_meet
            exact ⟨some ⟨wc.heap.size, 0, none⟩, 1, 1, rfl, by omega, by rw [HX.out]; exact HL.out.rl, bnew0 _ _⟩
          | false =>
            have HX : Hid (fl = []) := HF.out.trans (if_neg (by simp))
            clear HF
            go_wp2_with fail
            go_meet
            exact ⟨none, 0, 0, rfl, by omega, by rw [HX.out]; exact RL.nil _ _ _ _, Below.refl _ _⟩
        case rest =>
        obtain ⟨af, nf, cf, rfl, hnf, hfr, gc⟩ := hcut
        have N1 := N0.below gc
        have hf1 := bx_below hf0 gc
        have hbel1 := bstep hbel gc
        clear N0 hf0 hbel gc HF
        have hok : ∀ p ∈ ps, StepOK p.1 := fun p hp => HA.out.ok (by omega) _ (List.mem_map_of_mem hp)
        have hx : ofX F t = (dvL (cts ps) (List.replicate M false)).all id := by
          rw [dvL_up (cts ps) M hcl]
          exact (HA.out.bus HG.out (by omega)).symm
        have hst : ∀ qs, qs.length = M → (∀ j c, (cts ps)[j]? = some c → (cts qs)[j]? = some (stC c (biN (ofX F t) fl j)).1) → OfA F (t + 1) (cts qs) := fun qs h1 h2 => HA.out.step HG.out (by omega) (by rw [cts_len, h1, hcl]) HF0.out h2
        have hhp := fun j c (hj : (cts ps)[j]? = some c) => HA.out.hap HG.out (by omega) HF0.out hj
        obtain ⟨x, hxe⟩ : ∃ x, x = ofX F t := ⟨_, rfl⟩
        rw [← hxe] at hx hst hhp
        have hS := netStep_any wc s ps (List.replicate M false) M (t : Int) af nf cf fl N1.r hlen (by simp) (by omega) hok hfr (by omega) hflg (by omega) (by omega) x hx
        have HST := hid (And.intro hst (And.intro hhp hcl))
        have hb1 := N1.box
        have lB1 := N1.lt
        clear hok hx hst hhp hxe HA hcl hflg hfr HF0
        go_upto_region 15 with (first
          | (with_reducible refine wpList_loadR rowN rfl _ rfl _ rfl hb1 rfl ?_)
          | (go_at_call 12; (with_reducible refine hS.mono ?_); rintro e w5 ⟨s5, a5, rfl, qs5, hs5, r1, r2, r3, r4, o5, L5, g5⟩
             have T5 := two9 w5 s5 a5 M ((t : Int) + 1) x
             obtain ⟨tz, tz1, tl1, tn2, tl2, tb⟩ := T5
             have hb6 := bx_below (bx_below hb1 g5) tb)
          | (with_reducible refine wpList_storeR rowN rfl _ _ rfl _ _ rfl rfl tz1 rfl rfl (nt_ones _ _ _ _) ?_)
          | (with_reducible refine wpList_storeR rowLn rfl _ _ rfl _ _ rfl rfl tl1 rfl rfl (ln_ones _ _ _ _ _ _ _ _ _ _) ?_)
          | (with_reducible refine wpList_loadR rowN rfl _ rfl _ rfl tn2 rfl ?_)
          | (with_reducible refine wpList_storeR rowN rfl _ _ rfl _ _ rfl rfl hb6 rfl rfl (nt_ones _ _ _ _) ?_))
        obtain ⟨W6, hW6⟩ : ∃ W6, W6 = (((w5.alloc (.cells ntZ 27)).alloc (.cells lnZ 40)).setRow w5.heap.size (ntA s5 M M ((t : Int) + 1))).setRow (w5.heap.size + 1) (lnV a5 M x) := ⟨_, rfl⟩
        rw [← hW6] at tb tl2 hb6
        have l5 := g5.size
        have N8 : Nb (W6.setRow gB (ntA s5 M M ((t : Int) + 1))) gB M ((t : Int) + 1) s5 qs5 (List.replicate M false) := Nb.put hb6 (o5.below tb) (o5.freeLo lB1) r1 (by simp)
        have L8 : LnO wc.heap.size (W6.setRow gB (ntA s5 M M ((t : Int) + 1))) a5 M (dvL (cts ps) (List.replicate M false)) (smL M x fl) hs5 := (L5.below tb).keptHi fun q hq => setRow_other _ _ _ _ (by omega)
        have hl8 : (W6.setRow gB (ntA s5 M M ((t : Int) + 1))).heap[w5.heap.size + 1]? = some (.cells (lnV a5 M x) 40 (0, 0)) := (setRow_other _ _ _ _ (by omega)).trans tl2
        have hf8 : (W6.setRow gB (ntA s5 M M ((t : Int) + 1))).heap[w.heap.size]? = some (.cells (frV F a c) 34 (0, 0)) := (setRow_other _ _ _ _ (by omega)).trans (bx_below (bx_below hf1 g5) tb)
        have g8 : Below w.heap.size w (W6.setRow gB (ntA s5 M M ((t : Int) + 1))) := below_setRow (bstep (bstep hbel1 g5) tb) (by omega) _
        rw [← hW6]
        clear hW6 tz tz1 tl1 tn2 tl2 tb hb6 hb1 L5 o5 g5 hS hbel1 N1 hf1
        try rw [put_no9]
        try rw [put_no9]
        change Code.wp _ _ _ _ (W6.setRow gB (ntA s5 M M ((t : Int) + 1)))
        generalize W6.setRow gB (ntA s5 M M ((t : Int) + 1)) = W8 at *
        clear W6
        obtain ⟨gH, eH, lH, _⟩ := L8.hapAt (by omega)
        have q83 := (bx4 hl8).2.2.2
        rw [eH] at q83
        obtain ⟨Bc, hBc⟩ : ∃ B, B = wc.heap.size := ⟨_, rfl⟩
        rw [← hBc] at L8 lH lB1
        obtain ⟨dl, hdl⟩ : ∃ dl, dl = dvL (cts ps) (List.replicate M false) := ⟨_, rfl⟩
        rw [← hdl] at L8
        clear hdl
        obtain ⟨ql, hql⟩ : ∃ ql, ql = w5.heap.size + 1 := ⟨_, rfl⟩
        rw [← hql] at hl8 q83
        have hhl : hs5.length = M := L8.hap.1
        have HR : Hid (OfA F (t + 1) (cts qs5) ∧ (∀ j d, (hs5.map Prod.fst)[j]? = some d → (j = 0 → d.1 = ofH F t) ∧ (1 ≤ j → d.1 ≠ 10 ∧ (d.1 = 2 ↔ t = P + 2285) ∧ (d.1 = 2 → d.2 = F)))) := by
          obtain ⟨hst, hhp, hcl⟩ := HST.out
          refine ⟨hst qs5 r1 fun j c hj => ?_, fun j d hj => ?_⟩
          · have e := r2 j c hj
            rwa [nx_up] at e
          · obtain ⟨cc, hcc⟩ : ∃ cc, (cts ps)[j]? = some cc := ⟨_, List.getElem?_eq_getElem (by have := (List.getElem?_eq_some_iff.1 hj).1; rw [List.length_map] at this; omega)⟩
            have e := r4 j cc hcc
            rw [hp_up, hj] at e
            cases e
            have := hhp j cc hcc
            rw [← HK.out.1] at this
            exact this
        clear r1 r2 r3 r4 HST hlen
        try rw [← hql]
        clear hql hBc
        go_upto_region 18 with fail
        have hCt := of_cnt F t
        rw [← HK.out.1] at hCt
        have hHc := (ofH_cases F t).2.2.2
        have HCt := hid (And.intro hCt hHc)
        clear hCt hHc q83 hl8
        go_loopg [9, 10, 11, 12, 13, 86] M (fun gn s9 s10 s11 s12 s13 idx wr2 => ∃ (i b1 o1 n1 e1 T1 : Nat), i ≤ M ∧ gn = M - i ∧ idx = .int .i64 (i : Int) ∧ s9 = .int .i64 (b1 : Int) ∧ s10 = .int .i64 (o1 : Int) ∧ s11 = .int .i64 (n1 : Int) ∧ s12 = .int .i64 (e1 : Int) ∧ s13 = .int .i64 (T1 : Int) ∧
          Nb wr2 gB M ((t : Int) + 1) s5 qs5 (List.replicate M false) ∧ LnO Bc wr2 a5 M dl (smL M x fl) hs5 ∧ wr2.heap[w.heap.size]? = some (.cells (frV F a c) 34 (0, 0)) ∧ Below w.heap.size w wr2 ∧
          Hid (b1 = (if 1 ≤ i then ofB (t + 1) else ofB t) ∧ o1 = (if 1 ≤ i then ofO (t + 1) else ofO t) ∧ n1 = (if 1 ≤ i then ofN (t + 1) else ofN t) ∧ e1 = (if 1 ≤ i then ofE P (t + 1) else ofE P t) ∧ T1 = ofT P M t + (if t = P + 2285 then i - 1 else 0)))
        case atStart =>
          obtain ⟨h1, h2, h3, h4, h5⟩ := HC.out
          exact ⟨0, b, o, n, e, T, by omega, by omega, rfl, rfl, rfl, rfl, rfl, rfl, N8, L8, hf8, g8, hid ⟨by rw [if_neg (by omega)]; exact h1, by rw [if_neg (by omega)]; exact h2, by rw [if_neg (by omega)]; exact h3, by rw [if_neg (by omega)]; exact h4, by rw [h5]; split <;> rfl⟩⟩
        case round =>
          clear N8 L8 hf8 g8 HC hbnd
          obtain ⟨i, b1, o1, n1, e1, T1, hi2, rfl, rfl, rfl, rfl, rfl, rfl, rfl, N0, L0, hf0, hbel, HV⟩ := hrel
          by_cases hlt2 : i < M
          · have hbn : b1 ≤ 31 ∧ o1 ≤ 1 ∧ n1 ≤ 1 ∧ e1 ≤ 1 ∧ T1 ≤ 12 := by
              obtain ⟨v1, v2, v3, v4, v5⟩ := HV.out
              refine ⟨by rw [v1]; split <;> exact ofB_le _, by rw [v2]; split <;> exact ofO_le _, by rw [v3]; split <;> exact ofN_le _, by rw [v4]; split <;> exact ofE_le _ _, ?_⟩
              rw [v5]; unfold ofT; repeat' split
              all_goals omega
            obtain ⟨⟨d, ah, nh⟩, hxi⟩ : ∃ y, hs5[i]? = some y := ⟨hs5[i]'(by omega), by simp⟩
            have hap := L0.hap
            rw [eH] at hap
            have hr6 : wr.rangeAt gH (i * 6) (hapA d ah nh).toList := hap.range enH_k hxi
            have hda := (L0.hsl _ (List.mem_of_getElem? hxi)).rl
            obtain ⟨f0, f1⟩ := HR.out.2 i d (by rw [List.getElem?_map, hxi]; rfl)
            have hz9 := heap_alloc_new wr (.cells hap0 44)
            have g9 : Below wr.heap.size wr ((wr.alloc (.cells hap0 44)).setRow wr.heap.size (hapA d ah nh)) := below_setRow (bnew0 wr _) (Nat.le_refl _) _
            have hb9 : ((wr.alloc (.cells hap0 44)).setRow wr.heap.size (hapA d ah nh)).heap[wr.heap.size]? = some (.cells (hapA d ah nh) 44 (0, 0)) := setRow_heap _ _ _ _ _ _ hz9
            have hon := hap_ones d ah nh
            have N9 := N0.below g9
            have L9 := L0.below g9
            have hf9 := bx_below hf0 g9
            have gg9 := bstep hbel g9
            have hda9 := hda.below g9
            simp only at hda9
            go_upto_region 20 with (first
              | (with_reducible refine wpList_loadM rowH rfl _ rfl gH (i * 6) rfl (hapA d ah nh) hr6 rfl ?_)
              | (with_reducible refine wpList_storeR rowH rfl _ _ rfl _ _ rfl rfl hz9 rfl rfl hon ?_))
            try rw [put_no9]
            change Code.wp _ _ _ _ ((wr.alloc (.cells hap0 44)).setRow wr.heap.size (hapA d ah nh))
            generalize (wr.alloc (.cells hap0 44)).setRow wr.heap.size (hapA d ah nh) = W9 at *
            have c0 : W9.cell? ⟨wr.heap.size, 0, none⟩ = some (.int .u8 (d.1 : Int)) := cell_of_row _ _ 0 _ _ _ hb9
            have hrF : W9.rangeAt wr.heap.size 1 (frV d.2 ah nh).toList := fun j v hv => by
              match j with
              | 0 => cases hv; exact cell_of_row _ _ 1 _ _ _ hb9
              | 1 => cases hv; exact cell_of_row _ _ 2 _ _ _ hb9
              | 2 => cases hv; exact cell_of_row _ _ 3 _ _ _ hb9
              | 3 => cases hv; exact cell_of_row _ _ 4 _ _ _ hb9
              | 4 => cases hv; exact cell_of_row _ _ 5 _ _ _ hb9
              | j + 5 => cases hv
            have hSF := sameFrame_any W9 d.2.id d.2.ext d.2.rem d.2.dlc ah d.2.data.length nh d.2.data F.id F.ext F.rem F.dlc a F.data.length c F.data hda9 (H.out.below gg9)
            obtain ⟨h, hh2⟩ : ∃ h, h = d.1 := ⟨_, rfl⟩
            rw [← hh2] at c0 f0 f1
            have HN0 : Hid (i = 0 → (if h = 4 then b1 + 1 else b1) = (if 1 ≤ i + 1 then ofB (t + 1) else ofB t) ∧ (if h = 10 then o1 + 1 else o1) = (if 1 ≤ i + 1 then ofO (t + 1) else ofO t) ∧ (if h = 11 then n1 + 1 else n1) = (if 1 ≤ i + 1 then ofN (t + 1) else ofN t) ∧ (if h = 1 then e1 + 1 else e1) = (if 1 ≤ i + 1 then ofE P (t + 1) else ofE P t) ∧ T1 = ofT P M t + (if t = P + 2285 then i + 1 - 1 else 0)) := fun e => by
              obtain ⟨v1, v2, v3, v4, v5⟩ := HV.out
              obtain ⟨⟨u1, u2, u3, u4⟩, _⟩ := HCt.out
              have hh := f0 e
              rw [if_neg (show ¬ 1 ≤ i by omega)] at v1 v2 v3 v4
              rw [if_pos (show 1 ≤ i + 1 by omega), if_pos (show 1 ≤ i + 1 by omega), if_pos (show 1 ≤ i + 1 by omega), if_pos (show 1 ≤ i + 1 by omega), u1, u2, u3, u4, ← hh, v1, v2, v3, v4]
              refine ⟨rfl, rfl, rfl, rfl, ?_⟩
              rw [v5]; subst e; split <;> rfl
            have HN1 : Hid (1 ≤ i → b1 = (if 1 ≤ i + 1 then ofB (t + 1) else ofB t) ∧ o1 = (if 1 ≤ i + 1 then ofO (t + 1) else ofO t) ∧ n1 = (if 1 ≤ i + 1 then ofN (t + 1) else ofN t) ∧ e1 = (if 1 ≤ i + 1 then ofE P (t + 1) else ofE P t) ∧ (if h = 2 then T1 + 1 else T1) = ofT P M t + (if t = P + 2285 then i + 1 - 1 else 0)) := fun e => by
              obtain ⟨v1, v2, v3, v4, v5⟩ := HV.out
              obtain ⟨_, f2, _⟩ := f1 e
              rw [if_pos e] at v1 v2 v3 v4
              rw [if_pos (by omega), if_pos (by omega), if_pos (by omega), if_pos (by omega)]
              refine ⟨v1, v2, v3, v4, ?_⟩
              by_cases e2 : h = 2
              · rw [if_pos e2, if_pos (f2.1 e2), v5, if_pos (f2.1 e2)]; omega
              · rw [if_neg e2, if_neg fun x => e2 (f2.2 x), v5, if_neg fun x => e2 (f2.2 x)]
            have HH : Hid ((i = 0 → h = 0 ∨ h = 1 ∨ h = 4 ∨ h = 10 ∨ h = 11) ∧ (1 ≤ i → h ≠ 10 ∧ (h = 2 → d.2 = F))) := ⟨fun e => by rw [f0 e]; exact HCt.out.2, fun e => ⟨(f1 e).1, (f1 e).2.2⟩⟩
            clear f0 f1 hh2 hb9 hon hr6 hap hz9 N0 L0 hf0 hbel hxi HV hda hda9
            by_cases e0 : i = 0
            · have qi : ((i : Int) == 0) = true := by simp; omega
              rcases HH.out.1 e0 with h0 | h1 | h4 | h10 | h11
              · clear hSF hrF
                have c0' : W9.cell? ⟨wr.heap.size, 0, none⟩ = some (.int .u8 0) := by rw [c0, h0]; rfl
                obtain ⟨z1, z2, z3, z4, z5⟩ := HN0.out e0
                rw [if_neg (show ¬ h = 4 by omega)] at z1
                rw [if_neg (show ¬ h = 10 by omega)] at z2
                rw [if_neg (show ¬ h = 11 by omega)] at z3
                rw [if_neg (show ¬ h = 1 by omega)] at z4
                have HZ := hid (And.intro z1 (And.intro z2 (And.intro z3 (And.intro z4 z5))))
                clear z1 z2 z3 z4 z5 c0 h0 HN0 HN1 HH e0
                go_wp2_with fail
                go_roundg (M - (i + 1))
                case measure => go_light; omega
                case rel => go_light; exact ⟨i + 1, b1, o1, n1, e1, T1, by omega, rfl, by go_num, by go_num, by go_num, by go_num, by go_num, by go_num, N9, L9, hf9, gg9, HZ⟩
              · clear hSF hrF
                have c0' : W9.cell? ⟨wr.heap.size, 0, none⟩ = some (.int .u8 1) := by rw [c0, h1]; rfl
                obtain ⟨z1, z2, z3, z4, z5⟩ := HN0.out e0
                rw [if_neg (show ¬ h = 4 by omega)] at z1
                rw [if_neg (show ¬ h = 10 by omega)] at z2
                rw [if_neg (show ¬ h = 11 by omega)] at z3
                rw [if_pos (show h = 1 by omega)] at z4
                have HZ := hid (And.intro z1 (And.intro z2 (And.intro z3 (And.intro z4 z5))))
                clear z1 z2 z3 z4 z5 c0 h1 HN0 HN1 HH e0
                go_wp2_with fail
                go_roundg (M - (i + 1))
                case measure => go_light; omega
                case rel => go_light; exact ⟨i + 1, b1, o1, n1, e1 + 1, T1, by omega, rfl, by go_num, by go_num, by go_num, by go_num, by go_num, by go_num, N9, L9, hf9, gg9, HZ⟩
              · clear hSF hrF
                have c0' : W9.cell? ⟨wr.heap.size, 0, none⟩ = some (.int .u8 4) := by rw [c0, h4]; rfl
                obtain ⟨z1, z2, z3, z4, z5⟩ := HN0.out e0
                rw [if_pos (show h = 4 by omega)] at z1
                rw [if_neg (show ¬ h = 10 by omega)] at z2
                rw [if_neg (show ¬ h = 11 by omega)] at z3
                rw [if_neg (show ¬ h = 1 by omega)] at z4
                have HZ := hid (And.intro z1 (And.intro z2 (And.intro z3 (And.intro z4 z5))))
                clear z1 z2 z3 z4 z5 c0 h4 HN0 HN1 HH e0
                go_wp2_with fail
                go_roundg (M - (i + 1))
                case measure => go_light; omega
                case rel => go_light; exact ⟨i + 1, b1 + 1, o1, n1, e1, T1, by omega, rfl, by go_num, by go_num, by go_num, by go_num, by go_num, by go_num, N9, L9, hf9, gg9, HZ⟩
              · clear hSF hrF
                have c0' : W9.cell? ⟨wr.heap.size, 0, none⟩ = some (.int .u8 10) := by rw [c0, h10]; rfl
                obtain ⟨z1, z2, z3, z4, z5⟩ := HN0.out e0
                rw [if_neg (show ¬ h = 4 by omega)] at z1
                rw [if_pos (show h = 10 by omega)] at z2
                rw [if_neg (show ¬ h = 11 by omega)] at z3
                rw [if_neg (show ¬ h = 1 by omega)] at z4
                have HZ := hid (And.intro z1 (And.intro z2 (And.intro z3 (And.intro z4 z5))))
                clear z1 z2 z3 z4 z5 c0 h10 HN0 HN1 HH e0
                go_wp2_with fail
                go_roundg (M - (i + 1))
                case measure => go_light; omega
                case rel => go_light; exact ⟨i + 1, b1, o1 + 1, n1, e1, T1, by omega, rfl, by go_num, by go_num, by go_num, by go_num, by go_num, by go_num, N9, L9, hf9, gg9, HZ⟩
              · clear hSF hrF
                have c0' : W9.cell? ⟨wr.heap.size, 0, none⟩ = some (.int .u8 11) := by rw [c0, h11]; rfl
                obtain ⟨z1, z2, z3, z4, z5⟩ := HN0.out e0
                rw [if_neg (show ¬ h = 4 by omega)] at z1
                rw [if_neg (show ¬ h = 10 by omega)] at z2
                rw [if_pos (show h = 11 by omega)] at z3
                rw [if_neg (show ¬ h = 1 by omega)] at z4
                have HZ := hid (And.intro z1 (And.intro z2 (And.intro z3 (And.intro z4 z5))))
                clear z1 z2 z3 z4 z5 c0 h11 HN0 HN1 HH e0
                go_wp2_with fail
                go_roundg (M - (i + 1))
                case measure => go_light; omega
                case rel => go_light; exact ⟨i + 1, b1, o1, n1 + 1, e1, T1, by omega, rfl, by go_num, by go_num, by go_num, by go_num, by go_num, by go_num, N9, L9, hf9, gg9, HZ⟩
            · have qi : ((i : Int) == 0) = false := by simp; omega
              obtain ⟨z1, z2, z3, z4, z5⟩ := HN1.out (by omega)
              by_cases h2 : h = 2
              · have c0' : W9.cell? ⟨wr.heap.size, 0, none⟩ = some (.int .u8 2) := by rw [c0, h2]; rfl
                have hdF : d.2 = F := (HH.out.2 (by omega)).2 h2
                have hSF2 : Calls Tryz.prog 13 #[.agg (frV d.2 ah nh), .agg (frV F a c)] W9 fun e w' => e = .returned (.bool true) ∧ Below W9.heap.size W9 w' := hSF.mono fun e w' ⟨k1, k2⟩ => ⟨by rw [k1]; exact congrArg (fun b => Ending.returned (.bool b)) (decide_eq_true hdF), k2⟩
                rw [if_pos h2] at z5
                have HZ := hid (And.intro z1 (And.intro z2 (And.intro z3 (And.intro z4 z5))))
                clear z1 z2 z3 z4 z5 c0 h2 HN0 HN1 HH e0 hSF hdF
                go_wp2_with (first
                  | (with_reducible refine wpList_loadMW rowF (by simp [Region.wanted, yielded]) _ rfl wr.heap.size 1 rfl (frV d.2 ah nh) hrF rfl ?_)
                  | (with_reducible refine wpList_loadW rowF (by simp [Region.wanted, yielded, Act.put]) _ rfl _ rfl hf9 rfl ?_)
                  | (go_at_call 13; (with_reducible refine hSF2.mono ?_); rintro e w10 ⟨rfl, g10⟩
                     have N10 := N9.below g10
                     have L10 := L9.below g10
                     have hf10 := bx_below hf9 g10
                     have gg10 := bstep gg9 g10))
                go_roundg (M - (i + 1))
                case measure => go_light; omega
                case rel => go_light; exact ⟨i + 1, b1, o1, n1, e1, T1 + 1, by omega, rfl, by go_num, by go_num, by go_num, by go_num, by go_num, by go_num, N10, L10, hf10, gg10, HZ⟩
              · have q2 : ((h : Int) == 2) = false := by simp; omega
                have q10 : ((h : Int) == 10) = false := by have := (HH.out.2 (by omega)).1; simp; omega
                rw [if_neg h2] at z5
                have HZ := hid (And.intro z1 (And.intro z2 (And.intro z3 (And.intro z4 z5))))
                clear z1 z2 z3 z4 z5 h2 HN0 HN1 HH e0 hSF hrF
                go_wp2_with fail
                go_roundg (M - (i + 1))
                case measure => go_light; omega
                case rel => go_light; exact ⟨i + 1, b1, o1, n1, e1, T1, by omega, rfl, by go_num, by go_num, by go_num, by go_num, by go_num, by go_num, N9, L9, hf9, gg9, HZ⟩
          · obtain rfl : i = M := by omega
            have HV2 : Hid (b1 = ofB (t + 1) ∧ o1 = ofO (t + 1) ∧ n1 = ofN (t + 1) ∧ e1 = ofE P (t + 1) ∧ T1 = ofT P i (t + 1)) := by
              obtain ⟨v1, v2, v3, v4, v5⟩ := HV.out
              rw [if_pos (by omega)] at v1 v2 v3 v4
              refine ⟨v1, v2, v3, v4, ?_⟩
              rw [v5]; unfold ofT; repeat' split
              all_goals omega
            have HAn : Hid (OfA F (t + 1) (cts qs5)) := HR.out.1
            have hN1 : Nb wr gB i ((t + 1 : Nat) : Int) s5 qs5 (List.replicate i false) := by
              have := N0; rwa [show ((t : Int) + 1) = ((t + 1 : Nat) : Int) by omega] at this
            clear HR HV L0 N0 HCt
            go_wp2
            go_roundg (K - (t + 1))
            case measure => go_light; omega
            case rel => go_light; exact ⟨t + 1, _, _, b1, o1, n1, e1, T1, by omega, rfl, by go_num, rfl, rfl, rfl, rfl, rfl, hN1, hf0, hbel, HV2, HAn⟩
      · obtain rfl : t = K := by omega
        have hlen := N0.len
        have hcl : (cts ps).length = M := by rw [cts_len, hlen]
        obtain ⟨ca, hca⟩ : ∃ c, (cts ps)[0]? = some c := ⟨_, List.getElem?_eq_getElem (by omega)⟩
        obtain ⟨gN, eN, cN⟩ := N0.own.nodHas (by omega)
        obtain ⟨_, _, hr2⟩ := cN ca hca
        have hcf : ca.cf = zeC := HA.out.last (by omega) (by have := HK.out; omega) hca
        rw [hcf] at hr2
        have hr3 : wr.rangeAt gN 2 (#[.int .i64 0, .int .i64 0, .bool false, .int .i64 0, .int .i64 0] : Array Value).toList := hr2
        have q0 := (bx3 N0.box).1
        rw [eN] at q0
        obtain ⟨M1, hM1⟩ : ∃ M1, M1 = M - 1 := ⟨_, rfl⟩
        have iM1 : (M : Int) - 1 = (M1 : Int) := by omega
        obtain ⟨v1, v2, v3, v4, v5⟩ := HC.out
        have hP' := HK.out
        obtain rfl : b = 31 := by rw [v1]; unfold ofB; rw [if_neg (by omega)]; omega
        obtain rfl : o = 1 := by rw [v2]; unfold ofO; rw [if_pos (by omega)]
        obtain rfl : n = 1 := by rw [v3]; unfold ofN; rw [if_pos (by omega)]
        obtain rfl : e = 1 := by rw [v4]; unfold ofE; rw [if_pos (by omega)]
        obtain rfl : T = M1 := by rw [v5, hM1]; unfold ofT; rw [if_pos (by omega)]
        clear v1 v2 v3 v4 v5 hP' hr2 hcf cN eN hca HA HC N0 hM1 hlen hcl
        go_wp2_with (first
          | (with_reducible refine wpList_loadMW rowCf (by simp [Region.wanted, yielded]) _ rfl gN 2 rfl #[.int .i64 0, .int .i64 0, .bool false, .int .i64 0, .int .i64 0] hr3 rfl ?_)
          | (go_at_call 15; (with_reducible refine (awake9_any _).mono ?_); rintro e w9 ⟨rfl, g9⟩))
        go_ret
        exact ⟨rfl, bstep hbel g9⟩

theorem netOff_walk (w : World) (id : Nat) (ext rem : Bool) (dlc : Nat) (a : Option Addr) (n c : Nat) (l : List UInt8) (y : Nat) (hi : id < 4294967296) (hd : dlc < 256) (h : RL bv w a n c l) (hy : y < 256) (m1 : n ≤ 9223372036854775807) :
    Calls Tryz.prog 7 #[.agg #[.int .u32 (id : Int), .bool ext, .bool rem, .int .u8 (dlc : Int), .slice a n c], .int .u8 (y : Int)] w fun e w' => e = .returned (.bool true) ∧ Below w.heap.size w w' := by
  obtain rfl : l.length = n := h.len
  exact netOff_any w ⟨id, ext, rem, dlc, l⟩ a c y hi hd h hy
end Go.Proofs.YtkikppdcdfngaaaGreat
