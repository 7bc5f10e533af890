/-
  The walk of the statement NetOmits: for any frame, any number of nodes and any receiver it returns true, and nothing that was there has changed.
-/
import Derived.Test.YtkdflchkhnhfaaaB9q
namespace Go.Proofs.Ytkdflchkhnhfaaa
open Go.RowKit Go.Sort
set_option linter.unusedVariables false

set_option maxRecDepth 100000 in
set_option maxHeartbeats 8000000 in
theorem netOmits_any (w : World) (F : Fr) (a : Option Addr) (c : Nat) (y u : Nat) (hi : F.id < 4294967296) (hd : F.dlc < 256) (h : RL bv w a F.data.length c F.data) (hy : y < 256) (hu : u < 256) :
    Calls Try.prog 3 #[.agg (frV F a c), .int .u8 (y : Int), .int .u8 (u : Int)] w fun e w' => e = .returned (.bool true) ∧ Below w.heap.size w w' := by
  have hz0 := heap_alloc_new w (.cells (frV F a c) 25)
  have g0 : Below w.heap.size w (w.alloc (.cells (frV F a c) 25)) := bnew0 w _
  have h0 := h.below g0
  obtain ⟨m6, hm6⟩ : ∃ m, m = y % 6 := ⟨_, rfl⟩
  have hki : (y : Int) % 6 = (m6 : Int) := by omega
  obtain ⟨M, hM⟩ : ∃ M, M = 3 + m6 := ⟨_, rfl⟩
  have i3 : 3 + (m6 : Int) = (M : Int) := by omega
  have hMb : 3 ≤ M ∧ M ≤ 8 := by omega
  obtain ⟨M1, hM1⟩ : ∃ M1, M1 = M - 1 := ⟨_, rfl⟩
  have iM1 : (M : Int) - 1 = (M1 : Int) := by omega
  have hM1b : 2 ≤ M1 ∧ M1 ≤ 7 := by omega
  obtain ⟨q1, hq1⟩ : ∃ q1, q1 = u % M1 := ⟨_, rfl⟩
  have hqm : (u : Int) % (M1 : Int) = (q1 : Int) := by rw [hq1]; simp
  have hqt : Int.tmod (u : Int) (M1 : Int) = (q1 : Int) := by rw [Int.tmod_eq_emod_of_nonneg (by omega)]; exact hqm
  obtain ⟨q, hq⟩ : ∃ q, q = 1 + q1 := ⟨_, rfl⟩
  have iq : 1 + (q1 : Int) = (q : Int) := by omega
  have hqb : 1 ≤ q ∧ q < M := by have := Nat.mod_lt u (show 0 < M1 by omega); omega
  have hsz : (frV F a c).size = 5 := rfl
  clear hm6 hM hM1 hq1 hq
  cases hr : riF F.id F.ext F.rem F.dlc F.data.length
  · have hW := fun w1 => wire_wrong w1 F.id F.ext F.rem F.dlc a F.data.length c hi hd hr
    go_enter Try.func3, Try.ntmps3
    go_upto_region 4 with (first
      | (with_reducible refine wpList_loadR rowF rfl _ rfl _ rfl hz0 rfl ?_)
      | (go_at_call 4; (with_reducible refine (hW _).mono ?_); rintro e w1 ⟨rfl, g1⟩))
    have hz1 := bx_below hz0 g1
    have gg1 := bstep g0 g1
    have hF := one_frame w1 F a c hi hd (h0.below g1)
    have hGv := given_any _ _ _ _ M _ hF (by omega) (by omega) (by omega)
    have hng : ¬ Good F := fun e => by rw [(good_iff F _ rfl).2 e] at hr; cases hr
    have HNG := hid hng
    have bl1 := bnew0 w1 (.cells (frV F a c) 25)
    clear hng hz0 g0 g1 hW h0 h hki i3 iM1 hM1b hqm hqt iq hr hF
    go_wp2_with (first
      | (with_reducible refine wpList_loadR rowF rfl _ rfl _ rfl hz1 rfl ?_)
      | (go_at_call 5; (with_reducible refine hGv.mono ?_); rintro e w2 ⟨s2, b, rfl, hb, _, g2⟩
         obtain rfl : b = false := by
           cases b with
           | false => rfl
           | true => exact absurd (hb.1 rfl _ (List.mem_singleton.2 rfl)) HNG.out
         have hz2 := heap_alloc_new w2 (.cells ntZ 32)
         have gg3 : Below w.heap.size w ((w2.alloc (.cells ntZ 32)).setRow w2.heap.size (ntA s2 M M 0)) := below_setRow (bnew (bstep (bstep gg1 bl1) g2) _) (bstep (bstep gg1 bl1) g2).size _
         clear hb)
      | (with_reducible refine wpList_storeR rowN rfl _ _ rfl _ _ rfl rfl hz2 rfl rfl (nt_ones _ _ _ _) ?_)
      | (go_at_call 6; (with_reducible refine (awake9_any _).mono ?_); rintro e w4 ⟨rfl, g4⟩))
    go_ret
    exact ⟨rfl, bstep gg3 g4⟩
  · have hg : Good F := (good_iff F _ rfl).1 hr
    obtain ⟨P, hP⟩ : ∃ P, P = (putL (boL F)).length := ⟨_, rfl⟩
    have hPb : P ≤ 150 := by rw [hP]; exact P_top hg
    obtain ⟨N, hN⟩ : ∃ N, N = P + 10 := ⟨_, rfl⟩
    obtain ⟨K, hK⟩ : ∃ K, K = 2 * N + 17 := ⟨_, rfl⟩
    obtain ⟨N2, hN2⟩ : ∃ N2, N2 = 2 * N := ⟨_, rfl⟩
    have i2N : 2 * (N : Int) = (N2 : Int) := by omega
    have iK : (N2 : Int) + 17 = (K : Int) := by omega
    have hW : ∀ w1, RL bv w1 a F.data.length c F.data → Calls Try.prog 4 #[.agg (frV F a c)] w1 fun e w' => ∃ a' c', e = .returned (.tuple #[.slice a' N c', .int .i64 0]) ∧ Below w1.heap.size w1 w' := fun w1 h1 => by
      refine (wire_any w1 F.id F.ext F.rem F.dlc a F.data.length c F.data hi hd h1 hr).mono ?_
      rintro e w2 ⟨a', c', rfl, _, g2⟩
      exact ⟨a', c', by rw [hN, hP], g2⟩
    have HK := hid (And.intro hP (And.intro hN (And.intro hK hN2)))
    have HG := hid hg
    have hNb : N ≤ 160 := by omega
    have hKb : K ≤ 400 := by omega
    have hN2b : N2 ≤ 320 := by omega
    clear hr hg hP hN hK hN2
    go_enter Try.func3, Try.ntmps3
    go_upto_region 4 with (first
      | (with_reducible refine wpList_loadR rowF rfl _ rfl _ rfl hz0 rfl ?_)
      | (go_at_call 4; (with_reducible refine (hW _ h0).mono ?_); rintro e w1 ⟨a1, c1, rfl, g1⟩))
    have hz1 := bx_below hz0 g1
    have gg1 := bstep g0 g1
    have hF := one_frame w1 F a c hi hd (h0.below g1)
    have hGv := given_any _ _ _ _ M _ hF (by omega) (by omega) (by omega)
    have bl1 := bnew0 w1 (.cells (frV F a c) 25)
    clear hz0 g0 g1 hW h0 h hki i3 hqm hqt iq hF iM1
    go_upto_region 9 with (first
      | (with_reducible refine wpList_loadR rowF rfl _ rfl _ rfl hz1 rfl ?_)
      | (go_at_call 5; (with_reducible refine hGv.mono ?_); rintro e w2 ⟨s2, b, rfl, hb, hb2, g2⟩
         obtain rfl : b = true := hb.2 fun p hp => by rw [List.mem_singleton] at hp; subst hp; exact HG.out
         obtain ⟨ps2, k1, k2, o2⟩ := hb2 rfl
         have hz2 := heap_alloc_new w2 (.cells ntZ 32)
         have gg2 := bstep (bstep gg1 bl1) g2
         clear hb hb2)
      | (with_reducible refine wpList_storeR rowN rfl _ _ rfl _ _ rfl rfl hz2 rfl rfl (nt_ones _ _ _ _) ?_))
    have N3 := Nb.new (z := 0) o2 k1 (List.length_replicate ..) ntZ
    have gg3 : Below w.heap.size w ((w2.alloc (.cells ntZ 32)).setRow w2.heap.size (ntA s2 M M 0)) := below_setRow (bnew gg2 _) gg2.size _
    have HA : Hid (∀ j c, (cts ps2)[j]? = some c → OmC F 0 (kd q j) c) := fun j c hj => om_begin (by rw [k2] at hj; exact hj)
    obtain ⟨gB, hgB⟩ : ∃ g, g = w2.heap.size := ⟨_, rfl⟩
    try rw [put_no9]
    change Code.wp _ _ _ _ ((w2.alloc (.cells ntZ 32)).setRow w2.heap.size (ntA s2 M M 0))
    generalize (w2.alloc (.cells ntZ 32)).setRow w2.heap.size (ntA s2 M M 0) = W3 at *
    have lwB : w.heap.size ≤ gB := by have := gg2.size; omega
    rw [← hgB] at N3 ⊢
    clear hgB hz2 gg2 o2 k1 k2 hGv hz1 gg1 bl1 g2 hsz
    go_upto_region 11 with (first
      | (at_make; refine wpList_mk (f := zv) (n := M) tI9 0 rfl rfl _ _ rfl _ _ _ _ rfl rfl rfl rfl (by omega) (by omega) ?_; intro w4 hown hb4 hs4))
    have N4 := N3.below hb4
    have F4 : NtF W3.heap.size s2 ps2 := N3.own.freeHi (Nat.le_refl _)
    have gg4 := bstep gg3 hb4
    have lB := N3.lt
    obtain ⟨gT, hgT⟩ : ∃ g, g = W3.heap.size := ⟨_, rfl⟩
    rw [← hgT] at hown F4 lB hs4 ⊢
    have HT0 : Hid (∀ j, j < M → (List.replicate M (0 : Int))[j]? = some (tkV P q j 0)) := fun j hj => by
      rw [List.getElem?_replicate, if_pos hj]; unfold tkV; rw [if_neg (by omega), if_neg (by omega)]; rfl
    have ls4 : gT < w4.heap.size := by omega
    clear N3 hgT hb4 hs4 gg3
    clear W3
    go_wp2
    go_loopg [14, 62] K (fun gn s14 idx wr => ∃ (k : Nat) (s : Na) (ps : List Nd) (tk : List Int), k ≤ K ∧ gn = K - k ∧ idx = .int .i64 (k : Int) ∧ s14 = .int .i64 (seV P k) ∧ Nb wr gB M (k : Int) s ps (List.replicate M false) ∧ NtF gT s ps ∧ OL zv 3 gT wr (some ⟨gT, 0, none⟩) M M tk ∧ gT < wr.heap.size ∧ Below w.heap.size w wr ∧
      Hid (∀ j, j < M → tk[j]? = some (tkV P q j k)) ∧ Hid (∀ j c, (cts ps)[j]? = some c → OmC F k (kd q j) c))
    case atStart => exact ⟨0, s2, ps2, _, by omega, by omega, rfl, rfl, N4, F4, hown, ls4, gg4, HT0, HA⟩
    case round =>
      clear N4 F4 hown ls4 gg4 HT0 HA
      obtain ⟨k, s, ps, tk, hk, rfl, rfl, rfl, N0, F0, hown, lT, hbel, HT, HA⟩ := hrel
      by_cases hlt : k < K
      · obtain ⟨fl, hfl⟩ : ∃ fl : List Int, fl = if k = P + 8 then [(q : Int)] else [] := ⟨_, rfl⟩
        have HF := hid hfl
        have hflg : ∀ x ∈ fl, 0 ≤ x ∧ x < (M : Int) := fun x hx => by
          rw [hfl] at hx
          split at hx
          · rw [List.mem_singleton] at hx; omega
          · cases hx
        clear hfl
        go_upto_if 69 with fail
        go_cut [16] (fun v wx => ∃ (af : Option Addr) (nf cf : Nat), v = .slice af nf cf ∧ nf ≤ 1 ∧ RL zv wx af nf cf fl ∧ Below wr.heap.size wr wx)
        case first =>
          by_cases e8 : k = P + 8
          · have qc : ((k : Int) == (N : Int) - 2) = true := by have := HK.out; simp; omega
            have lit := ol_lit zv 3 0 wr [(q : Int)] #[.int .i64 (q : Int)] 1 rfl rfl (by omega) (by omega)
            have hfl : fl = [(q : Int)] := by rw [HF.out, if_pos e8]
            have HL := hid (And.intro hfl lit)
            clear hfl lit e8 N0 F0 hown HT HA hflg
            go_wp2_with fail
            go_meet
            exact ⟨some ⟨wr.heap.size, 0, none⟩, 1, 1, rfl, by omega, by rw [HL.out.1]; exact HL.out.2.rl, bnew0 _ _⟩
          · have qc : ((k : Int) == (N : Int) - 2) = false := by have := HK.out; simp; omega
            have hfl : fl = [] := by rw [HF.out, if_neg e8]
            have HL := hid hfl
            clear hfl e8 N0 F0 hown HT HA hflg
            go_wp2_with fail
            go_meet
            exact ⟨none, 0, 0, rfl, by omega, by rw [HL.out]; exact RL.nil _ _ _ _, Below.refl _ _⟩
        case rest =>
        obtain ⟨af, nf, cf, rfl, hnf, hfr, gc⟩ := hcut
        have N1 := N0.below gc
        have hown1 := hown.below gc
        have hbel1 := bstep hbel gc
        have lT1 : gT < wc.heap.size := by have := gc.size; omega
        clear N0 hown hbel lT gc
        have hlen := N1.len
        have hcl : (cts ps).length = M := by rw [cts_len, hlen]
        have hok : ∀ p ∈ ps, StepOK p.1 := fun p hp => by
          obtain ⟨j, hj⟩ := List.getElem?_of_mem hp
          exact om_ok HG.out (kd_le q j) (by have := HK.out; omega) (HA.out j _ (cts_at hj))
        have hx : omB F k = (dvL (cts ps) (List.replicate M false)).all id := by
          rw [dvL_up (cts ps) M hcl]
          exact (om_bus HG.out (l := cts ps) (q := q) (by omega) (by have := HK.out; omega) (fun j hj => HA.out j _ (List.getElem?_eq_getElem hj))).symm
        have hst : ∀ j c, (cts ps)[j]? = some c → OmC F (k + 1) (kd q j) (stC c (biN (omB F k) fl j)).1 ∧ ((stC c (biN (omB F k) fl j)).2.1 = 2 ↔ (k = P + 8 ∧ kd q j = 2) ∨ (k = P + 27 + (P + 8) ∧ kd q j ≠ 0)) ∧ ((stC c (biN (omB F k) fl j)).2.1 = 1 ↔ k = P + 27 + (P + 9) ∧ kd q j = 0) := fun j c hj => by
          have := om_step HG.out (kd_le q j) (by have := HK.out; omega) (HA.out j c hj)
          rw [HF.out, HK.out.1, om_bi (by omega)]
          exact this
        obtain ⟨x, hxe⟩ : ∃ x, x = omB F k := ⟨_, rfl⟩
        rw [← hxe] at hx hst
        have hS := netStep_any wc s ps (List.replicate M false) M (k : Int) af nf cf fl N1.r hlen (by simp) (by omega) hok hfr (by omega) hflg (by omega) (by omega) x hx
        have HST := hid (And.intro hst hcl)
        have hb1 := N1.box
        have lB1 := N1.lt
        clear hok hx hst hxe HA hcl hflg HF hfr
        go_upto_region 19 with (first
          | (with_reducible refine wpList_loadR rowN rfl _ rfl _ rfl hb1 rfl ?_)
          | (go_at_call 7; (with_reducible refine hS.mono ?_); rintro e w5 ⟨s5, a5, rfl, qs5, hs5, r1, r2, r3, r4, o5, L5, g5⟩
             have T5 := two9 w5 s5 a5 M ((k : Int) + 1) x
             obtain ⟨tz, tz1, tl1, tn2, tl2, tb⟩ := T5
             have hb6 := bx_below (bx_below hb1 g5) tb)
          | (with_reducible refine wpList_storeR rowN rfl _ _ rfl _ _ rfl rfl tz1 rfl rfl (nt_ones _ _ _ _) ?_)
          | (with_reducible refine wpList_storeR rowLn rfl _ _ rfl _ _ rfl rfl tl1 rfl rfl (ln_ones _ _ _ _ _ _ _ _ _ _) ?_)
          | (with_reducible refine wpList_loadR rowN rfl _ rfl _ rfl tn2 rfl ?_)
          | (with_reducible refine wpList_storeR rowN rfl _ _ rfl _ _ rfl rfl hb6 rfl rfl (nt_ones _ _ _ _) ?_))
        obtain ⟨W6, hW6⟩ : ∃ W6, W6 = (((w5.alloc (.cells ntZ 32)).alloc (.cells lnZ 40)).setRow w5.heap.size (ntA s5 M M ((k : Int) + 1))).setRow (w5.heap.size + 1) (lnV a5 M x) := ⟨_, rfl⟩
        rw [← hW6] at tb tl2 hb6
        have l5 := g5.size
        have N8 : Nb (W6.setRow gB (ntA s5 M M ((k : Int) + 1))) gB M ((k : Int) + 1) s5 qs5 (List.replicate M false) := Nb.put hb6 (o5.below tb) (o5.freeLo lB1) r1 (by simp)
        have F8 : NtF gT s5 qs5 := o5.freeLo lT1
        have L8 : LnO wc.heap.size (W6.setRow gB (ntA s5 M M ((k : Int) + 1))) a5 M (dvL (cts ps) (List.replicate M false)) (smL M x fl) hs5 := (L5.below tb).keptHi fun q hq => setRow_other _ _ _ _ (by omega)
        have hl8 : (W6.setRow gB (ntA s5 M M ((k : Int) + 1))).heap[w5.heap.size + 1]? = some (.cells (lnV a5 M x) 40 (0, 0)) := (setRow_other _ _ _ _ (by omega)).trans tl2
        have hown8 : OL zv 3 gT (W6.setRow gB (ntA s5 M M ((k : Int) + 1))) (some ⟨gT, 0, none⟩) M M tk := ((hown1.below g5).below tb).kept fun q hq => setRow_other _ _ _ _ (by cases hq; omega)
        have g8 : Below w.heap.size w (W6.setRow gB (ntA s5 M M ((k : Int) + 1))) := below_setRow (bstep (bstep hbel1 g5) tb) lwB _
        have lT8 : gT < (W6.setRow gB (ntA s5 M M ((k : Int) + 1))).heap.size := by have := tb.size; rw [size_setRow9]; omega
        rw [← hW6]
        clear hW6 tz tz1 tl1 tn2 tl2 tb hb6 hb1 L5 o5 g5 hS hown1 hbel1 N1
        try rw [put_no9]
        try rw [put_no9]
        change Code.wp _ _ _ _ (W6.setRow gB (ntA s5 M M ((k : Int) + 1)))
        generalize W6.setRow gB (ntA s5 M M ((k : Int) + 1)) = W8 at *
        clear W6
        obtain ⟨gH, eH, lH, _⟩ := L8.hapAt (by omega)
        have q83 := (bx4 hl8).2.2.2
        rw [eH] at q83
        obtain ⟨Bc, hBc⟩ : ∃ B, B = wc.heap.size := ⟨_, rfl⟩
        rw [← hBc] at L8 lH lT1 lB1
        obtain ⟨dl, hdl⟩ : ∃ dl, dl = dvL (cts ps) (List.replicate M false) := ⟨_, rfl⟩
        rw [← hdl] at L8
        clear hdl
        obtain ⟨ql, hql⟩ : ∃ ql, ql = w5.heap.size + 1 := ⟨_, rfl⟩
        rw [← hql] at hl8 q83
        have hhl : hs5.length = M := L8.hap.1
        have HR : Hid ((∀ j c, (cts qs5)[j]? = some c → OmC F (k + 1) (kd q j) c) ∧ (∀ j d, (hs5.map Prod.fst)[j]? = some d → (d.1 = 2 ↔ (k = P + 8 ∧ kd q j = 2) ∨ (k = P + 27 + (P + 8) ∧ kd q j ≠ 0)) ∧ (d.1 = 1 ↔ k = P + 27 + (P + 9) ∧ kd q j = 0))) := by
          obtain ⟨hst, hcl⟩ := HST.out
          refine ⟨fun j c hj => ?_, fun j d hj => ?_⟩
          · obtain ⟨cc, hcc⟩ : ∃ cc, (cts ps)[j]? = some cc := ⟨_, List.getElem?_eq_getElem (by have := (List.getElem?_eq_some_iff.1 hj).1; rw [cts_len] at this; omega)⟩
            have e := r2 j cc hcc
            rw [nx_up, hj] at e
            cases e
            exact (hst j cc hcc).1
          · obtain ⟨cc, hcc⟩ : ∃ cc, (cts ps)[j]? = some cc := ⟨_, List.getElem?_eq_getElem (by have := (List.getElem?_eq_some_iff.1 hj).1; rw [List.length_map] at this; omega)⟩
            have e := r4 j cc hcc
            rw [hp_up, hj] at e
            cases e
            exact (hst j cc hcc).2
        clear r1 r2 r3 r4 HST hlen
        try rw [← hql]
        clear hql hBc
        have i15 : (N2 : Int) + 15 = ((N2 + 15 : Nat) : Int) := by omega
        obtain ⟨K15, hK15⟩ : ∃ K15, K15 = N2 + 15 := ⟨_, rfl⟩
        rw [← hK15] at i15
        have HK15 := hid hK15
        clear hK15
        go_upto_region 22 with fail
        obtain ⟨T0, hT0⟩ : ∃ T0, T0 = seV P k := ⟨_, rfl⟩
        rw [← hT0]
        go_wp2
        go_loopg [14, 85] M (fun gn s14 idx wr2 => ∃ (i : Nat) (tk2 : List Int) (T : Int), i ≤ M ∧ gn = M - i ∧ idx = .int .i64 (i : Int) ∧ s14 = .int .i64 T ∧ Nb wr2 gB M ((k : Int) + 1) s5 qs5 (List.replicate M false) ∧ LnO Bc wr2 a5 M dl (smL M x fl) hs5 ∧ OL zv 3 gT wr2 (some ⟨gT, 0, none⟩) M M tk2 ∧ gT < wr2.heap.size ∧ Below w.heap.size w wr2 ∧
          Hid (∀ j, j < M → tk2[j]? = some (if j < i then tkV P q j (k + 1) else tkV P q j k)) ∧ Hid (T = if 1 ≤ i then seV P (k + 1) else seV P k))
        case atStart => exact ⟨0, tk, T0, by omega, by omega, rfl, rfl, N8, L8, hown8, lT8, g8, hid (fun j hj => by rw [if_neg (by omega)]; exact HT.out j hj), hid (by rw [if_neg (by omega)]; exact hT0)⟩
        case round =>
          clear N8 L8 hown8 lT8 g8 HT hT0 hl8 q83
          obtain ⟨i, tk2, T, hi2, rfl, rfl, rfl, N0, L0, hown, lT, hbel, HT, HTT⟩ := hrel
          by_cases hlt2 : i < M
          · obtain ⟨⟨d, ah, nh⟩, hxi⟩ : ∃ y, hs5[i]? = some y := ⟨hs5[i]'(by omega), by simp⟩
            have hap := L0.hap
            rw [eH] at hap
            have hr6 : wr.rangeAt gH (i * 6) (hapA d ah nh).toList := hap.range enH_k hxi
            obtain ⟨f2, f1⟩ := HR.out.2 i d (by rw [List.getElem?_map, hxi]; rfl)
            obtain ⟨v, hv⟩ : ∃ v, tk2[i]? = some v := ⟨_, HT.out i hlt2⟩
            have hvv : v = tkV P q i k := by have := HT.out i hlt2; rw [if_neg (by omega), hv] at this; exact Option.some.inj this
            have hvb : 0 ≤ v ∧ v ≤ 2 := by rw [hvv]; exact tkV_le _ _ _ _
            have hz9 := heap_alloc_new wr (.cells hap0 44)
            have g9 : Below wr.heap.size wr ((wr.alloc (.cells hap0 44)).setRow wr.heap.size (hapA d ah nh)) := below_setRow (bnew0 wr _) (Nat.le_refl _) _
            have hb9 : ((wr.alloc (.cells hap0 44)).setRow wr.heap.size (hapA d ah nh)).heap[wr.heap.size]? = some (.cells (hapA d ah nh) 44 (0, 0)) := setRow_heap _ _ _ _ _ _ hz9
            have hon := hap_ones d ah nh
            have N9 := N0.below g9
            have L9 := L0.below g9
            have hown9 := hown.below g9
            have lT9 : gT < ((wr.alloc (.cells hap0 44)).setRow wr.heap.size (hapA d ah nh)).heap.size := by have := g9.size; omega
            have gg9 := bstep hbel g9
            go_upto_region 24 with (first
              | (with_reducible refine wpList_loadM rowH rfl _ rfl gH (i * 6) rfl (hapA d ah nh) hr6 rfl ?_)
              | (with_reducible refine wpList_storeR rowH rfl _ _ rfl _ _ rfl rfl hz9 rfl rfl hon ?_))
            try rw [put_no9]
            change Code.wp _ _ _ _ ((wr.alloc (.cells hap0 44)).setRow wr.heap.size (hapA d ah nh))
            generalize (wr.alloc (.cells hap0 44)).setRow wr.heap.size (hapA d ah nh) = W9 at *
            have c0 : W9.cell? ⟨wr.heap.size, 0, none⟩ = some (.int .u8 (d.1 : Int)) := cell_of_row _ _ 0 _ _ _ hb9
            obtain ⟨hcv, hfv⟩ := hown9.cellAt hv
            obtain ⟨h, hh⟩ : ∃ h, h = d.1 := ⟨_, rfl⟩
            rw [← hh] at c0 f1 f2
            have HT2 := hid (om_T HTT.out f1)
            have hl2 : tk2.length = M := hown.len
            have hst := om_tk P q i k
            have HF := hid (And.intro f1 (And.intro f2 (And.intro hvv hst)))
            have HB9 := hid (And.intro hb9 hh)
            clear f1 f2 hvv hst hh hb9 hon hr6 hap hz9 N0 L0 hown hbel hxi HTT
            by_cases h2 : h = 2
            · obtain ⟨F1, F2, F3, F4⟩ := HF.out
              have hcase := F2.1 h2
              have HV : Hid (v + 1 = tkV P q i (k + 1)) := by show _ = _; rw [F4, if_pos hcase, ← F3]
              rw [if_neg (show ¬ h = 1 by omega)] at HT2
              have HTn := hid (om_put hl2 HT.out (v + 1) HV.out hlt2)
              have hown10 := hown9.set (i := i) (v + 1)
              have N10 := N9.cell (q := gT) (by omega) F8 i (zv (v + 1))
              have L10 := L9.keptHi (w1 := W9.setCell ⟨gT, i, none⟩ (zv (v + 1))) fun q hq => heap_setCell_other _ _ _ _ (by show q ≠ gT; omega)
              have lT10 : gT < (W9.setCell ⟨gT, i, none⟩ (zv (v + 1))).heap.size := by simp; omega
              have gg10 : Below w.heap.size w (W9.setCell ⟨gT, i, none⟩ (zv (v + 1))) := gg9.setCell (show w.heap.size ≤ gT by omega) _
              have c0' : (W9.setCell ⟨gT, i, none⟩ (.int .i64 (v + 1))).cell? ⟨wr.heap.size, 0, none⟩ = some (.int .u8 2) := by
                have hb10 := (heap_setCell_other W9 ⟨gT, i, none⟩ wr.heap.size (.int .i64 (v + 1)) (show wr.heap.size ≠ gT by omega)).trans HB9.out.1
                refine (cell_of_row _ _ 0 _ _ _ hb10).trans ?_
                show some (Value.int .u8 (d.1 : Int)) = _
                rw [← HB9.out.2, h2]; rfl
              by_cases e8 : k = P + 8
              · have qa : ((k : Int) != (N : Int) - 2) = false := by have := HK.out; simp; omega
                subst h2
                clear HF F1 F2 F3 F4 hcase HT HV e8 N9 L9 hown9 gg9
                go_wp2_with fail
                go_roundg (M - (i + 1))
                case measure => go_light; omega
                case rel => go_light; exact ⟨i + 1, _, T, by omega, rfl, by go_num, rfl, N10, L10, hown10, lT10, gg10, HTn, HT2⟩
              · have qa : ((k : Int) != (N : Int) - 2) = true := by have := HK.out; simp; omega
                have qb : ((k : Int) != (K15 : Int)) = false := by have := HK.out; have := HK15.out; simp; omega
                subst h2
                clear HF F1 F2 F3 F4 hcase HT HV e8 N9 L9 hown9 gg9
                go_wp2_with fail
                go_roundg (M - (i + 1))
                case measure => go_light; omega
                case rel => go_light; exact ⟨i + 1, _, T, by omega, rfl, by go_num, rfl, N10, L10, hown10, lT10, gg10, HTn, HT2⟩
            · have qa : ((h : Int) == 2) = false := by simp; omega
              have HTn : Hid (∀ j, j < M → tk2[j]? = some (if j < i + 1 then tkV P q j (k + 1) else tkV P q j k)) := by
                obtain ⟨F1, F2, F3, F4⟩ := HF.out
                exact om_keep HT.out (by rw [F4, if_neg fun e => h2 (F2.2 e)])
              by_cases h1 : h = 1
              · rw [if_pos h1] at HT2
                have qb : ((h : Int) == 1) = true := by simp; omega
                clear HF HT h2 h1
                go_wp2_with fail
                go_roundg (M - (i + 1))
                case measure => go_light; omega
                case rel => go_light; exact ⟨i + 1, _, (k : Int), by omega, rfl, by go_num, rfl, N9, L9, hown9, lT9, gg9, HTn, HT2⟩
              · rw [if_neg h1] at HT2
                have qb : ((h : Int) == 1) = false := by simp; omega
                clear HF HT h2 h1
                go_wp2_with fail
                go_roundg (M - (i + 1))
                case measure => go_light; omega
                case rel => go_light; exact ⟨i + 1, _, T, by omega, rfl, by go_num, rfl, N9, L9, hown9, lT9, gg9, HTn, HT2⟩
          · obtain rfl : i = M := by omega
            have HTn : Hid (∀ j, j < i → tk2[j]? = some (tkV P q j (k + 1))) := fun j hj => by have := HT.out j hj; rwa [if_pos hj] at this
            obtain rfl : T = seV P (k + 1) := by have := HTT.out; rwa [if_pos (by omega)] at this
            have HAn : Hid (∀ j c, (cts qs5)[j]? = some c → OmC F (k + 1) (kd q j) c) := HR.out.1
            have hN1 : Nb wr gB i ((k + 1 : Nat) : Int) s5 qs5 (List.replicate i false) := by
              have := N0; rwa [show ((k : Int) + 1) = ((k + 1 : Nat) : Int) by omega] at this
            clear HR HT HTT L0 N0
            obtain ⟨T9, hT9⟩ : ∃ T9, T9 = seV P (k + 1) := ⟨_, rfl⟩
            rw [← hT9]
            have HT9 := hid hT9
            clear hT9
            go_wp2
            go_roundg (K - (k + 1))
            case measure => go_light; omega
            case rel => go_light; exact ⟨k + 1, _, _, _, by omega, rfl, by go_num, by rw [HT9.out], hN1, F8, hown, lT, hbel, HTn, HAn⟩
      · obtain rfl : k = K := by omega
        have hP' := HK.out
        have hE : ∀ i, tkV P q i k = (kd q i : Int) := fun i => by
          unfold tkV
          have h2 := kd_le q i
          generalize kd q i = t at *
          repeat' split
          all_goals omega
        obtain ⟨K16, hK16⟩ : ∃ K16, K16 = N2 + 16 := ⟨_, rfl⟩
        have i16 : (N2 : Int) + 16 = (K16 : Int) := by omega
        have hse : seV P k = (K16 : Int) := by unfold seV; rw [if_pos (by omega)]; omega
        rw [hse]
        have hKb2 : K16 ≤ 400 := by omega
        obtain ⟨gN, eN, _, cN⟩ := N0.own.nodAt (by rw [N0.len]; omega)
        have hlen := N0.len
        obtain ⟨⟨ca, hca⟩, cb, hcb⟩ : (∃ c, (cts ps)[0]? = some c) ∧ ∃ c, (cts ps)[q]? = some c := ⟨⟨_, List.getElem?_eq_getElem (by rw [cts_len]; omega)⟩, _, List.getElem?_eq_getElem (by rw [cts_len]; omega)⟩
        have p0 := (cN 0 _ hca).2.1
        have p1 := (cN q _ hcb).2.2
        have hend : ∀ j c, (cts ps)[j]? = some c → c.cf = if kd q j = 0 then cfT 7 else if kd q j = 1 then cfR 8 else zeC := fun j c hj => by
          refine om_end (F := F) (k := kd q j) ?_
          have := HA.out j c hj
          rwa [show k = (putL (boL F)).length + 27 + ((putL (boL F)).length + 10) by omega] at this
        rw [hend 0 ca hca, if_pos (kd_zero.2 rfl)] at p0
        rw [hend q cb hcb, if_neg (by rw [kd_zero]; omega), if_pos (by unfold kd; rw [if_neg (by omega), if_pos rfl])] at p1
        have p0' : wr.cell? ⟨gN, 2, none⟩ = some (.int .i64 7) := by rw [← show 0 * 26 + 2 = 2 from rfl]; exact p0
        have p1' : wr.cell? ⟨gN, q * 26 + 3, none⟩ = some (.int .i64 8) := p1
        have q0 := (bx3 N0.box).1
        rw [eN] at q0
        have HE := hid (And.intro hE HT.out)
        clear hP' hE HT HA hend p0 p1 hca hcb cN eN hse hK16 F0 N0 hlen
        go_wp2
        go_loopg [125] M (fun gn idx wx => ∃ (i : Nat), i ≤ M ∧ gn = M - i ∧ idx = .int .i64 (i : Int) ∧ wx = wr)
        case atStart => exact ⟨0, by omega, by omega, rfl, rfl⟩
        case round =>
          obtain ⟨i, hi2, rfl, rfl, rfl⟩ := hrel
          by_cases hlt2 : i < M
          · obtain ⟨v, hv⟩ : ∃ v, tk[i]? = some v := ⟨_, HE.out.2 i hlt2⟩
            have hvv : v = (kd q i : Int) := by have := HE.out.2 i hlt2; rw [hv] at this; rw [Option.some.inj this, HE.out.1]
            obtain ⟨hcv, hfv⟩ := hown.cellAt hv
            by_cases e0 : i = 0
            · have q1 : ((i : Int) == 0) = true := by simp; omega
              rw [hvv, kd_zero.2 e0] at hcv
              clear hvv hv hfv e0
              go_wp2
              go_roundg (M - (i + 1))
              case measure => go_light; omega
              case rel => go_light; exact ⟨i + 1, by omega, rfl, by go_num, rfl⟩
            · have q1 : ((i : Int) == 0) = false := by simp; omega
              by_cases e1 : i = q
              · have q2 : ((i : Int) == (q : Int)) = true := by simp; omega
                rw [hvv, show kd q i = 1 by unfold kd; rw [if_neg e0, if_pos e1]] at hcv
                clear hvv hv hfv e0 e1
                go_wp2
                go_roundg (M - (i + 1))
                case measure => go_light; omega
                case rel => go_light; exact ⟨i + 1, by omega, rfl, by go_num, rfl⟩
              · have q2 : ((i : Int) == (q : Int)) = false := by simp; omega
                rw [hvv, show kd q i = 2 by unfold kd; rw [if_neg e0, if_neg e1]] at hcv
                clear hvv hv hfv e0 e1
                go_wp2
                go_roundg (M - (i + 1))
                case measure => go_light; omega
                case rel => go_light; exact ⟨i + 1, by omega, rfl, by go_num, rfl⟩
          · obtain rfl : i = M := by omega
            clear HE hown
            go_wp2_with (first
              | (go_at_call 6; (with_reducible refine (awake9_any _).mono ?_); rintro e w9 ⟨rfl, g9⟩))
            go_ret
            exact ⟨rfl, bstep hbel g9⟩

theorem netOmits_walk (w : World) (id : Nat) (ext rem : Bool) (dlc : Nat) (a : Option Addr) (n c : Nat) (l : List UInt8) (y u : Nat) (hi : id < 4294967296) (hd : dlc < 256) (h : RL bv w a n c l) (hy : y < 256) (hu : u < 256) (m1 : n ≤ 9223372036854775807) :
    Calls Try.prog 3 #[.agg #[.int .u32 (id : Int), .bool ext, .bool rem, .int .u8 (dlc : Int), .slice a n c], .int .u8 (y : Int), .int .u8 (u : Int)] w fun e w' => e = .returned (.bool true) ∧ Below w.heap.size w w' := by
  obtain rfl : l.length = n := h.len
  exact netOmits_any w ⟨id, ext, rem, dlc, l⟩ a c y u hi hd h hy hu
end Go.Proofs.Ytkdflchkhnhfaaa
