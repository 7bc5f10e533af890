/-
  The walk of the statement NetCrashed: for any frames, number and flips it returns true, and nothing that was there has changed.
-/
import Derived.Test.YtkdflchkhnhfaaaGreatB9x
import Derived.WalkMore
import Derived.Laws.Small
namespace Go.Proofs.YtkdflchkhnhfaaaGreat
open Go.RowKit Go.Sort
set_option linter.unusedVariables false
set_option linter.unusedSimpArgs false

set_option maxRecDepth 100000 in
set_option maxHeartbeats 16000000 in
theorem netCrashed_walk (w : World) (a0 : Option Addr) (n0 c0' : Nat) (fs : List Ff) (y1 : Nat) (a2 : Option Addr) (n2 c2 : Nat) (fl : List UInt8) (hf : FrR w a0 n0 c0' fs) (h1 : y1 ≤ 255) (hfl : RL bv w a2 n2 c2 fl) (hd : ∀ p ∈ fs, p.1.data.length ≤ 9223372036854775807) (m0 : n0 ≤ 9223372036854775807) (m2 : n2 ≤ 9223372036854775807) :
    Calls Tryz.prog 4 #[.slice a0 n0 c0', .int .u8 (y1 : Int), .slice a2 n2 c2] w fun e w' => e = .returned (.bool true) ∧ Below w.heap.size w w' := by
  obtain ⟨r3, e3, hr3⟩ : ∃ r3 : Nat, (y1 : Int) % 3 = (r3 : Int) ∧ r3 < 3 := ⟨y1 % 3, by omega, by omega⟩
  obtain ⟨k, ek, hk⟩ : ∃ k : Nat, (1 : Int) + (r3 : Int) = (k : Int) ∧ 1 ≤ k ∧ k ≤ 3 := ⟨1 + r3, by omega, by omega⟩
  have hA : Calls Tryz.prog 7 #[.slice a0 n0 c0', .int .i64 5] w (ApR w fs 5) := apart9_any w a0 n0 c0' fs hf 5 (by omega) m0
  have HF := hid hf
  have HFL := hid hfl
  clear hf hfl hd h1
  go_enter Tryz.func4, Tryz.ntmps4
  go_upto_region 2 with (go_at_call 7; (with_reducible refine hA.mono ?_); rintro e w1 ⟨a5, c5, gs, rfl, O1, A1, hg8, g1⟩)
  obtain ⟨n5, hn5⟩ : ∃ n5, gs.length = n5 := ⟨_, rfl⟩
  rw [hn5] at O1 hg8 ⊢
  have HGL := hid hn5
  have HAP := hid A1
  obtain ⟨M, hm0⟩ : ∃ M : Nat, M = max n5 2 := ⟨_, rfl⟩
  have hmx : ∀ ts t w', (Builtin.max_ ts t #[.int .i64 (n5 : Int), .int .i64 2]).run Tryz.prog w' = .ok (.int .i64 (M : Int)) w' := fun ts t w' => by
    rw [run_max_int2]; congr 2; split <;> omega
  have hMb : 2 ≤ M ∧ M ≤ 5 ∧ n5 ≤ M := by omega
  obtain ⟨N, hN⟩ : ∃ N : Nat, N = k + M := ⟨_, rfl⟩
  have eN : (M : Int) + (k : Int) = (N : Int) := by omega
  have hNb : 3 ≤ N ∧ N ≤ 8 := by omega
  have hFr : FrR w1 a5 n5 c5 gs := ⟨O1.rk enF_k, fun p hp => (HF.out.dat p (A1.sub p hp)).below g1, fun p hp => HF.out.id p (A1.sub p hp), fun p hp => HF.out.dl p (A1.sub p hp)⟩
  have hGv := given_any w1 a5 c5 n5 M gs hFr hMb.1 (by omega) hMb.2.2
  have hNw := fun w' => new_any w' N (by omega) (by omega)
  have HN := hid hN
  clear hn5 A1 hA hm0 hFr hN
  go_upto_region 5 with (first
    | (go_at_call 8; (with_reducible refine hGv.mono ?_); rintro e w2 ⟨s2, b, rfl, hb, hb2, g2⟩
       obtain rfl : b = true := hb.2 fun p hp => HAP.out.good p hp
       obtain ⟨ps2, k1, k2, o2⟩ := hb2 rfl
       have hz2 := heap_alloc_new w2 (.cells ntZ 27)
       have gg2 := bstep g1 g2
       clear hb hb2)
    | (with_reducible refine wpList_storeR rowN rfl _ _ rfl _ _ rfl rfl hz2 rfl rfl (nt_ones _ _ _ _) ?_))
  have N3 := Nb.new (z := 0) o2 k1 (List.length_replicate ..) ntZ
  have gg3 : Below w.heap.size w ((w2.alloc (.cells ntZ 27)).setRow w2.heap.size (ntA s2 M M 0)) := below_setRow (bnew gg2 _) gg2.size _
  have HCA : Hid (cts ps2 = gvL M (gs.map Prod.fst)) := hid k2
  have O3 := ((O1.below g2).alloc (.cells ntZ 27)).kept (w' := (w2.alloc (.cells ntZ 27)).setRow w2.heap.size (ntA s2 M M 0)) fun q hq => setRow_other _ _ _ _ (by have := ((O1.below g2).ltB hq).1; dsimp only at this; omega)
  obtain ⟨gA, hgA⟩ : ∃ g, g = w2.heap.size := ⟨_, rfl⟩
  try rw [put_no9]
  try rw [put_no9]
  change Code.wp _ _ _ _ ((w2.alloc (.cells ntZ 27)).setRow w2.heap.size (ntA s2 M M 0))
  generalize (w2.alloc (.cells ntZ 27)).setRow w2.heap.size (ntA s2 M M 0) = W3 at *
  have lwA : w.heap.size ≤ gA := by have := gg2.size; omega
  rw [← hgA] at N3 ⊢
  clear hgA hz2 gg2 o2 k1 k2 hGv g2 O1 g1 e3 ek hmx
  have lA3 := N3.lt
  go_upto_region 6 with (first
    | (go_at_call 15; (with_reducible refine (hNw _).mono ?_); rintro e w4 ⟨s4, rfl, o4, g4⟩
       have hz4 := heap_alloc_new w4 (.cells ntZ 27))
    | (with_reducible refine wpList_storeR rowN rfl _ _ rfl _ _ rfl rfl hz4 rfl rfl (nt_ones _ _ _ _) ?_))
  have N4 := N3.below g4
  have gB0 := N4.lt
  have NB := Nb.new (z := 0) o4 (by unfold zeP; rw [List.length_replicate]) (List.length_replicate ..) ntZ
  have g5 : Below w4.heap.size w4 ((w4.alloc (.cells ntZ 27)).setRow w4.heap.size (ntA s4 N N 0)) := below_setRow (bnew0 w4 _) (Nat.le_refl _) _
  have N5 : Nb2 ((w4.alloc (.cells ntZ 27)).setRow w4.heap.size (ntA s4 N N 0)) gA M 0 s2 ps2 (List.replicate M false) w4.heap.size N 0 s4 (zeP N) (crK 0 (N - 0)) :=
    ⟨N4.below g5, NB, N4.own.freeHi (Nat.le_refl _), o4.freeLo (by omega), by omega⟩
  have gg5 : Below w.heap.size w ((w4.alloc (.cells ntZ 27)).setRow w4.heap.size (ntA s4 N N 0)) := bstep (bstep gg3 g4) g5
  have O5 := (O3.below g4).below g5
  have HCB : Hid (cts (zeP N) = List.replicate N c0) := hid (cts_ze N)
  have lB5 : w.heap.size ≤ w4.heap.size := by have := gg3.size; have := g4.size; omega
  have hgn : ∀ q, a5 = some q → q.block < w4.heap.size := fun q hq => Nat.lt_of_lt_of_le (O3.ltB hq).1 g4.size
  obtain ⟨gB, hgB⟩ : ∃ g, g = w4.heap.size := ⟨_, rfl⟩
  try rw [put_no9]
  try rw [put_no9]
  change Code.wp _ _ _ _ ((w4.alloc (.cells ntZ 27)).setRow w4.heap.size (ntA s4 N N 0))
  generalize (w4.alloc (.cells ntZ 27)).setRow w4.heap.size (ntA s4 N N 0) = W5 at *
  rw [← hgB] at N5 lB5 hgn ⊢
  clear hgB hz4 o4 g4 g5 NB N4 N3 gg3 O3 hNw gB0 lA3
  clear W3
  generalize zeP N = pz at *
  by_cases h400 : 400 < n2
  · have hdec : decide ((400 : Int) < (n2 : Int)) = true := decide_eq_true (by omega)
    clear h400 N5 O5 HCA HCB
    go_wp2_with (go_at_call 14; (with_reducible refine (awake9_any _).mono ?_); rintro e w9 ⟨rfl, g9⟩)
    go_ret
    exact ⟨rfl, bstep gg5 g9⟩
  · have hdec : decide ((400 : Int) < (n2 : Int)) = false := decide_eq_false (by omega)
    have h400 : n2 ≤ 400 := by omega
    go_wp2_with fail
    clear hdec
    go_loopg [73] k (fun gn s73 wr => ∃ (i : Nat) (sB : Na) (pB : List Nd), i ≤ k ∧ gn = k - i ∧ s73 = .int .i64 (i : Int) ∧ Nb2 wr gA M 0 s2 ps2 (List.replicate M false) gB N 0 sB pB (crK i (N - i)) ∧ Hid (cts pB = List.replicate N c0) ∧ OK enF 5 34 w.heap.size wr a5 n5 c5 gs ∧ Below w.heap.size w wr)
    case atStart => exact ⟨0, s4, pz, by omega, by omega, rfl, N5, HCB, O5, gg5⟩
    case round =>
      clear N5 HCB O5 gg5
      obtain ⟨i, sB, pB, hi, rfl, rfl, N0, HCB, O0, gg0⟩ := hrel
      by_cases hlt : i < k
      · as_aux_lemma =>
          have hsh : ∀ p ∈ pB, Shr p.1 := shr_of (by rw [HCB.out]; exact shr_zero)
          have hbB := N0.b.box
          have hC := netCrash_any wr sB pB (crK i (N - i)) N 0 i N0.b.r N0.b.len (by rw [crK_len]; omega) (by omega) hsh (by omega)
          have lA := N0.a.lt
          have lB := N0.b.lt
          clear hsh
          go_upto_region 12 with (first
            | (with_reducible refine wpList_loadR rowN rfl _ rfl _ rfl hbB rfl ?_)
            | (go_at_call 16; (with_reducible refine hC.mono ?_); rintro e w4 ⟨s5, rfl, q5, k1, k2, o5, g5⟩
               have hb5 := bx_below hbB g5)
            | (with_reducible refine wpList_storeR rowN rfl _ _ rfl _ _ rfl rfl hb5 rfl rfl (nt_ones _ _ _ _) ?_))
          rw [crK_setN (by omega)] at o5
          have N6 := N0.putB g5 o5 lA lB k1 (by rw [crK_len]; omega) 0
          have O6 := (O0.below g5).kept (w' := w4.setRow gB (ntA s5 N N 0)) fun q hq => setRow_other _ _ _ _ (by have := hgn _ hq; dsimp only at this; omega)
          have gg6 : Below w.heap.size w (w4.setRow gB (ntA s5 N N 0)) := below_setRow (bstep gg0 g5) lB5 _
          have HC6 : Hid (cts q5 = List.replicate N c0) := hid (k2.trans HCB.out)
          try rw [put_no9]
          try rw [put_no9]
          change Code.wp _ _ _ _ (w4.setRow gB (ntA s5 N N 0))
          generalize w4.setRow gB (ntA s5 N N 0) = V at *
          clear hbB hC hb5 o5 k1 k2 g5 N0 O0 gg0 HCB lA lB
          clear w4
          have hb6 := N6.b.box
          have hG := netGive_down V s5 q5 (crK (i + 1) (N - (i + 1))) N 0 i #[.int .u32 0, .bool false, .bool false, .int .u8 0, .slice none 0 0] N6.b.r (by rw [crK_len]; omega) (by omega) (by omega) (crK_lo (Nat.lt_succ_self _))
          go_wp2_with (first
            | (with_reducible refine wpList_loadR rowN rfl _ rfl _ rfl hb6 rfl ?_)
            | (go_at_call 17; (with_reducible refine hG.mono ?_); rintro e w7 ⟨rfl, g7⟩
               have hz7 := heap_alloc_new w7 (.cells ntZ 27))
            | (with_reducible refine wpList_storeR rowN rfl _ _ rfl _ _ rfl rfl hz7 rfl rfl (nt_ones _ _ _ _) ?_))
          have g8 : Below w7.heap.size w7 ((w7.alloc (.cells ntZ 27)).setRow w7.heap.size (ntA s5 N N 0)) := below_setRow (bnew0 w7 _) (Nat.le_refl _) _
          go_roundg (k - (i + 1))
          case measure => omega
          case rel => exact ⟨i + 1, s5, q5, by omega, rfl, by go_num, (N6.below g7).below g8, HC6, (O6.below g7).below g8, bstep (bstep gg6 g7) g8⟩
      · obtain rfl : k = i := by omega
        have hNk : N - k = M := by have := HN.out; omega
        rw [hNk] at N0
        have HCB2 : Hid (cts pB = List.replicate k c0 ++ gvL M ((gs.map Prod.fst).take 0)) := hid (by
          rw [HCB.out, HN.out, List.take_zero]; exact cr_none k M)
        clear HCB hlt hi
        go_wp2_with fail
        go_loopg [98] n5 (fun gn s98 wr => ∃ (i : Nat) (sB : Na) (pB : List Nd), i ≤ n5 ∧ gn = n5 - i ∧ s98 = .int .i64 (i : Int) ∧ Nb2 wr gA M 0 s2 ps2 (List.replicate M false) gB N 0 sB pB (crK k M) ∧ Hid (cts pB = List.replicate k c0 ++ gvL M ((gs.map Prod.fst).take i)) ∧ OK enF 5 34 w.heap.size wr a5 n5 c5 gs ∧ Below w.heap.size w wr)
        case atStart => exact ⟨0, sB, pB, by omega, by omega, rfl, N0, HCB2, O0, gg0⟩
        case round =>
          clear N0 HCB2 O0 gg0
          clear sB pB
          obtain ⟨i, sB, pB, hi, rfl, rfl, N0, HCB, O0, gg0⟩ := hrel
          by_cases hlt : i < n5
          · as_aux_lemma =>
              obtain ⟨p, hp⟩ : ∃ p, gs[i]? = some p := ⟨_, List.getElem?_eq_getElem (by rw [HGL.out]; exact hlt)⟩
              have hpm : p ∈ gs := List.mem_of_getElem? hp
              have hpg := HAP.out.good p hpm
              have hpd := HF.out.dat p (HAP.out.sub p hpm)
              obtain ⟨gb, off, rfl, hgb, hrg⟩ := (O0.rk enF_k).range hp
              have hpf : (gs.map Prod.fst)[i]? = some p.1 := by rw [List.getElem?_map, hp]; rfl
              have HPF := hid hpf
              have b2 := heap_alloc_new wr (.cells frZ9 34)
              have k2 : Below wr.heap.size wr ((wr.alloc (.cells frZ9 34)).setRow wr.heap.size (frV p.1 p.2.1 p.2.2)) := below_setRow (bnew0 wr _) (Nat.le_refl _) _
              have b3 : ((wr.alloc (.cells frZ9 34)).setRow wr.heap.size (frV p.1 p.2.1 p.2.2)).heap[wr.heap.size]? = some (.cells (frV p.1 p.2.1 p.2.2) 34 (0, 0)) := setRow_heap _ _ _ _ _ _ b2
              have HPG := hid hpg
              clear hp hpm hpf hpg
              go_upto_region 19 with (first
                | (with_reducible refine wpList_loadM rowF rfl _ rfl _ _ rfl (frV p.1 p.2.1 p.2.2) hrg rfl ?_)
                | (with_reducible refine wpList_storeR rowF rfl _ _ rfl _ _ rfl rfl b2 rfl rfl (fr_ones _ _ _) ?_))
              have N1 := N0.below k2
              have O2 := O0.below k2
              have gg1 := bstep gg0 k2
              try rw [put_no9]
              try rw [put_no9]
              change Code.wp _ _ _ _ ((wr.alloc (.cells frZ9 34)).setRow wr.heap.size (frV p.1 p.2.1 p.2.2))
              generalize (wr.alloc (.cells frZ9 34)).setRow wr.heap.size (frV p.1 p.2.1 p.2.2) = V at *
              generalize wr.heap.size = fb at *
              obtain ⟨ik, hik⟩ : ∃ ik : Nat, ik = i + k := ⟨_, rfl⟩
              have eik : (i : Int) + (k : Int) = (ik : Int) := by omega
              have hikN : ik < N := by have := HN.out; omega
              obtain ⟨⟨cc, sl⟩, hx⟩ : ∃ q, pB[ik]? = some q := ⟨_, List.getElem?_eq_getElem (by rw [N1.b.len]; exact hikN)⟩
              have hcc : cc = c0 := by
                have h1 := cts_at hx
                rw [HCB.out, hik, List.getElem?_append_right (by simp), List.length_replicate, Nat.add_sub_cancel] at h1
                rcases gvL_at (n := M) (fs := gs.map Prod.fst) (k := i) (by omega) with h2 | h2
                · rw [h2] at h1; cases h1; rfl
                · rw [List.length_map, HGL.out] at h2; omega
              subst hcc
              have hgd : ∀ F ∈ (gs.map Prod.fst).take i, Good F := fun F hF => by
                obtain ⟨q, hq, rfl⟩ := List.mem_map.1 (List.mem_of_mem_take hF)
                exact HAP.out.good q hq
              have hshr : ∀ p ∈ pB, Shr p.1 := shr_of (by rw [HCB.out]; exact shr_cr hgd)
              have hG := netGive_any V sB pB (crK k M) N 0 ik c0 sl p.1 p.2.1 p.2.2 N1.b.r N1.b.len (by rw [crK_len, HN.out]) (by omega) hshr hikN hx (by rw [hik]; exact crK_hi (by omega)) HPG.out (hpd.below gg1) rfl
              have HCS : Hid ((cts pB).set ik { c0 with has := true, give := p.1 } = List.replicate k c0 ++ gvL M ((gs.map Prod.fst).take (i + 1))) := hid (by
                rw [HCB.out, hik]; exact cr_given (by omega) HPF.out)
              have hbB := N1.b.box
              have lA := N1.a.lt
              have lB := N1.b.lt
              have HIK := hid hik
              clear hx hik N0 O0 gg0 b2 k2 hrg hpd HCB hgd hshr
              go_wp2_with (first
                | (with_reducible refine wpList_loadR rowN rfl _ rfl _ rfl hbB rfl ?_)
                | (with_reducible refine wpList_loadR rowF rfl _ rfl _ rfl b3 rfl ?_)
                | (go_at_call 17; (with_reducible refine hG.mono ?_); rintro e w5 ⟨s5, rfl, q5, k1, k2, o5, g5⟩
                   have hb5 := bx_below hbB g5)
                | (with_reducible refine wpList_storeR rowN rfl _ _ rfl _ _ rfl rfl hb5 rfl rfl (nt_ones _ _ _ _) ?_))
              have N6 := N1.putB g5 o5 lA lB k1 (by rw [crK_len, HN.out]) 0
              have O6 := (O2.below g5).kept (w' := w5.setRow gB (ntA s5 N N 0)) fun q hq => setRow_other _ _ _ _ (by have := hgn _ hq; dsimp only at this; omega)
              have gg6 : Below w.heap.size w (w5.setRow gB (ntA s5 N N 0)) := below_setRow (bstep gg1 g5) lB5 _
              have HC6 : Hid (cts q5 = List.replicate k c0 ++ gvL M ((gs.map Prod.fst).take (i + 1))) := hid (k2.trans HCS.out)
              go_roundg (n5 - (i + 1))
              case measure => omega
              case rel => exact ⟨i + 1, s5, q5, by omega, rfl, by go_num, N6, HC6, O6, gg6⟩
          · obtain rfl : n5 = i := by omega
            have hCR : CrP k (cts ps2) (cts pB) := by
              unfold CrP
              rw [HCB.out, HCA.out, List.take_of_length_le (by rw [List.length_map, HGL.out]; exact Nat.le_refl _)]
            have HCR := hid hCR
            have HNW : Hid (NwI 0 (cts ps2)) := hid (by
              rw [HCA.out]
              exact NwI.start fun F hF => by
                obtain ⟨q, hq, rfl⟩ := List.mem_map.1 hF
                exact HAP.out.good q hq)
            obtain ⟨M2, eM2, hM2⟩ : ∃ M2 : Nat, (2 : Int) * (M : Int) = (M2 : Int) ∧ M2 = 2 * M := ⟨2 * M, by omega, rfl⟩
            have HM2 := hid hM2
            have hM2b : M2 ≤ 10 := by omega
            clear hCR HCB HCA O0 hlt hi hM2
            go_wp2_with fail
            go_loopg [117] n2 (fun gn s117 wr => ∃ (t : Nat) (sA : Na) (pA : List Nd) (sB : Na) (pB : List Nd), t ≤ n2 ∧ gn = n2 - t ∧ s117 = .int .i64 (t : Int) ∧ Nb2 wr gA M (t : Int) sA pA (List.replicate M false) gB N (t : Int) sB pB (crK k M) ∧ Hid (CrP k (cts pA) (cts pB)) ∧ Hid (NwI t (cts pA)) ∧ Below w.heap.size w wr)
            case atStart => exact ⟨0, s2, ps2, sB, pB, by omega, by omega, rfl, N0, HCR, HNW, gg0⟩
            case round =>
              clear N0 HCR HNW gg0
              clear sB pB
              obtain ⟨t, sA, pA, sB, pB, ht, rfl, rfl, N0, HCR, HNW, gg0⟩ := hrel
              by_cases hlt : t < n2
              · obtain ⟨b9, o9, v, rfl, hv, hc9⟩ := (HFL.out.below gg0).at hlt
                obtain ⟨u, hu⟩ : ∃ u : Nat, u = v.toNat := ⟨_, rfl⟩
                have hu8 : u < 256 := by rw [hu]; exact v.toNat_lt
                have hc10 : wr.cell? ⟨b9, o9 + t, none⟩ = some (.int .u8 (u : Int)) := by rw [hc9, hu]; rfl
                clear hv hu hc9
                clear v
                obtain ⟨flx, hflx⟩ : ∃ flx : List Int, flx = if u < M2 ∧ u % 2 = 0 then [((u / 2 : Nat) : Int)] else [] := ⟨_, rfl⟩
                have HX := hid hflx
                clear hflx
                obtain ⟨q, hq⟩ : ∃ q : Nat, q = u / 2 := ⟨_, rfl⟩
                have eq1 : Int.tdiv (u : Int) 2 = (q : Int) := by rw [hq, Int.tdiv_eq_ediv_of_nonneg (by omega)]; omega
                obtain ⟨r2, er2, hr2⟩ : ∃ r2 : Nat, (u : Int) % 2 = (r2 : Int) ∧ r2 = u % 2 := ⟨u % 2, by omega, rfl⟩
                obtain ⟨qk, eqk, hqk⟩ : ∃ qk : Nat, (q : Int) + (k : Int) = (qk : Int) ∧ qk = q + k := ⟨q + k, by omega, rfl⟩
                have HQ := hid (And.intro hq (And.intro hr2 hqk))
                have hqb : q ≤ 127 ∧ r2 ≤ 1 ∧ qk ≤ 200 := by omega
                clear hq hr2 hqk
                obtain ⟨bb, hbb⟩ : ∃ bb : Bool, bb = (decide (u < M2) && decide (u % 2 = 0)) := ⟨_, rfl⟩
                have HBB := hid hbb
                clear hbb
                go_upto_region 27 with fail
                go_cut [130] (fun s130 wx => s130 = .bool bb ∧ wx = wr)
                case first =>
                  as_aux_lemma =>
                    clear N0 HCR HNW gg0
                    by_cases e1 : u < M2
                    · have q1 : decide ((u : Int) < (M2 : Int)) = true := decide_eq_true (by omega)
                      by_cases e2 : r2 = 0
                      · have q2 : ((r2 : Int) == 0) = true := by simp; omega
                        have HXb : Hid (bb = true) := hid (by rw [HBB.out, decide_eq_true e1, decide_eq_true (by rw [← HQ.out.2.1]; exact e2)]; rfl)
                        clear e2
                        have e1' : (u : Int) < (M2 : Int) := by omega
                        go_wp2_with fail
                        go_meet
                        exact ⟨by rw [HXb.out], rfl⟩
                      · have q2 : ((r2 : Int) == 0) = false := by simp; omega
                        have HXb : Hid (bb = false) := hid (by rw [HBB.out, decide_eq_false (show ¬ u % 2 = 0 by rw [← HQ.out.2.1]; exact e2), Bool.and_false])
                        clear e2
                        have e1' : (u : Int) < (M2 : Int) := by omega
                        go_wp2_with fail
                        go_meet
                        exact ⟨by rw [HXb.out], rfl⟩
                    · have q1 : decide ((u : Int) < (M2 : Int)) = false := decide_eq_false (by omega)
                      have HXb : Hid (bb = false) := hid (by rw [HBB.out, decide_eq_false e1, Bool.false_and])
                      have e1' : ¬ (u : Int) < (M2 : Int) := by omega
                      go_wp2_with fail
                      go_meet
                      exact ⟨by rw [HXb.out], rfl⟩
                case rest =>
                obtain ⟨rfl, rfl⟩ := hcut
                have hflg : ∀ x ∈ flx, 0 ≤ x ∧ x < (M : Int) := fun x hx => by
                  rw [HX.out] at hx
                  split at hx
                  · rw [List.mem_singleton] at hx; have := HM2.out; omega
                  · cases hx
                have HXB : Hid (flx = if bb = true then [(q : Int)] else []) := hid (by
                  rw [HX.out, HBB.out, HQ.out.1]
                  simp only [Bool.and_eq_true, decide_eq_true_eq])
                clear HX
                go_upto_if 130 with fail
                go_cut [21, 22] (fun s21 s22 wx => ∃ (af : Option Addr) (nf cf : Nat) (ag : Option Addr) (cg : Nat), s21 = .slice af nf cf ∧ s22 = .slice ag nf cg ∧ nf ≤ 1 ∧ RL zv wx af nf cf flx ∧ RL zv wx ag nf cg (flx.map (· + (k : Int))) ∧ Below wc.heap.size wc wx)
                case first =>
                  as_aux_lemma =>
                    clear N0 HCR HNW gg0 hflg HBB
                    cases bb with
                    | true =>
                      have lit1 := ol_lit zv 3 0 wc [(q : Int)] #[.int .i64 (q : Int)] 1 rfl rfl (by omega) (by omega)
                      have lit2 := ol_lit zv 3 0 (wc.alloc (.cells #[.int .i64 (q : Int)] 3)) [(qk : Int)] #[.int .i64 (qk : Int)] 1 rfl rfl (by omega) (by omega)
                      have hfl : flx = [(q : Int)] := HXB.out.trans (if_pos rfl)
                      have hmk : flx.map (· + (k : Int)) = [(qk : Int)] := by rw [hfl, List.map_cons, List.map_nil]; congr 1
                      have HL := hid (And.intro hfl (And.intro hmk (And.intro lit1 lit2)))
                      clear lit1 lit2 hfl hmk HXB
                      go_wp2_with fail
                      go_meet
                      obtain ⟨h1, h2, h3, h4⟩ := HL.out
                      exact ⟨some ⟨wc.heap.size, 0, none⟩, 1, 1, some ⟨wc.heap.size + 1, 0, none⟩, 1, rfl, by simp, Nat.le_refl _, by rw [h1]; exact h3.rl.below (bnew0 _ _), by rw [h2]; simpa using h4.rl, bnew (bnew0 _ _) _⟩
                    | false =>
                      have hfl : flx = [] := HXB.out.trans (if_neg (by simp))
                      have HL := hid hfl
                      clear hfl HXB
                      go_wp2_with fail
                      go_meet
                      exact ⟨none, 0, 0, none, 0, rfl, rfl, by omega, by rw [HL.out]; exact RL.nil _ _ _ _, by rw [HL.out]; exact RL.nil _ _ _ _, Below.refl _ _⟩
                case rest =>
                obtain ⟨af, nf, cf, ag, cg, rfl, rfl, hnf, hr1, hr2, gc⟩ := hcut
                have N1 := N0.below gc
                have gg1 := bstep gg0 gc
                clear N0 gg0 gc
                have hlA := N1.a.len
                have hclA : (cts pA).length = M := by rw [cts_len, hlA]
                have hokA : ∀ p ∈ pA, StepOK p.1 := fun p hp => HNW.out.ok (by omega) _ (List.mem_map_of_mem hp)
                have hokB : ∀ p ∈ pB, StepOK p.1 := fun p hp => by
                  have hm : p.1 ∈ cts pB := List.mem_map_of_mem hp
                  rw [show cts pB = List.replicate k c0 ++ cts pA from HCR.out] at hm
                  rcases List.mem_append.1 hm with h | h
                  · rw [(List.mem_replicate.1 h).2]; exact sm_ok OnC.start sm_start (by omega)
                  · exact HNW.out.ok (by omega) _ h
                obtain ⟨x, hx⟩ : ∃ x, x = (dvL (cts pA) (List.replicate M false)).all id := ⟨_, rfl⟩
                have hxB : x = (dvL (cts pB) (crK k M)).all id := hx.trans (HCR.out.bus hclA).symm
                have hflB : ∀ y ∈ flx.map (· + (k : Int)), 0 ≤ y ∧ y < (N : Int) := fun y hy => by
                  obtain ⟨y', hy', rfl⟩ := List.mem_map.1 hy
                  have := hflg y' hy'
                  have := HN.out
                  omega
                have hSA := netStep_any wc sA pA (List.replicate M false) M (t : Int) af nf cf flx N1.a.r hlA (by simp) (by omega) hokA hr1 (by omega) hflg (by omega) (by omega) x hx
                have hSB := fun (w' : World) (g' : Below wc.heap.size wc w') => netStep_any w' sB pB (crK k M) N (t : Int) ag nf cg (flx.map (· + (k : Int))) (N1.b.r.below g') N1.b.len (by rw [crK_len, HN.out]) (by omega) hokB (hr2.below g') (by omega) hflB (by omega) (by omega) x hxB
                have hbA := N1.a.box
                have hbB := N1.b.box
                have HSB := hid hSB
                clear hokA hokB hx hxB hflB hflg hSB hr1 hr2
                go_upto_region 30 with (first
                  | (with_reducible refine wpList_loadR rowN rfl _ rfl _ rfl hbA rfl ?_)
                  | (go_at_call 11; (with_reducible refine hSA.mono ?_); rintro e w5 ⟨s5, a5', rfl, q5, h5, r1, r2, r3, r4, o5, L5, g5⟩
                     have T5 := two9 w5 s5 a5' M ((t : Int) + 1) x
                     obtain ⟨tz, tz1, tl1, tn2, tl2, tb⟩ := T5)
                  | (with_reducible refine wpList_storeR rowN rfl _ _ rfl _ _ rfl rfl tz1 rfl rfl (nt_ones _ _ _ _) ?_)
                  | (with_reducible refine wpList_storeR rowLn rfl _ _ rfl _ _ rfl rfl tl1 rfl rfl (ln_ones _ _ _ _ _ _ _ _ _ _) ?_))
                have N6 := (N1.below g5).below tb
                have O6 := o5.below tb
                have L6 := L5.below tb
                have g6 := g5.trans (tb.mono g5.size)
                have gg6 := bstep gg1 g6
                have hS6 := HSB.out _ g6
                have hbB6 := bx_below hbB g6
                have lA6 := N1.a.lt
                have lB6 := N1.b.lt
                have hs5 := g5.size
                clear tz tz1 tl1 hSA hbA hbB HSB o5 L5 g5 tb
                try rw [put_no9]
                try rw [put_no9]
                obtain ⟨W6, hW6⟩ : ∃ W6, W6 = (((w5.alloc (.cells ntZ 27)).alloc (.cells lnZ 40)).setRow w5.heap.size (ntA s5 M M ((t : Int) + 1))).setRow (w5.heap.size + 1) (lnV a5' M x) := ⟨_, rfl⟩
                rw [← hW6] at N6 O6 L6 g6 gg6 hS6 hbB6 tn2 tl2
                change Code.wp _ _ _ _ ((((w5.alloc (.cells ntZ 27)).alloc (.cells lnZ 40)).setRow w5.heap.size (ntA s5 M M ((t : Int) + 1))).setRow (w5.heap.size + 1) (lnV a5' M x))
                rw [← hW6]
                clear hW6
                go_upto_region 31 with (first
                  | (with_reducible refine wpList_loadR rowN rfl _ rfl _ rfl hbB6 rfl ?_)
                  | (go_at_call 11; (with_reducible refine hS6.mono ?_); rintro e w7 ⟨s7, a7, rfl, q7, h7, u1, u2, u3, u4, o7, L7, g7⟩
                     have T7 := two9 w7 s7 a7 N ((t : Int) + 1) x
                     obtain ⟨vz, vz1, vl1, vn2, vl2, vb⟩ := T7)
                  | (with_reducible refine wpList_storeR rowN rfl _ _ rfl _ _ rfl rfl vz1 rfl rfl (nt_ones _ _ _ _) ?_)
                  | (with_reducible refine wpList_storeR rowLn rfl _ _ rfl _ _ rfl rfl vl1 rfl rfl (ln_ones _ _ _ _ _ _ _ _ _ _) ?_))
                have N7 := (N6.below g7).below vb
                have O7A := (O6.below g7).below vb
                have L7A := (L6.below g7).below vb
                have O7B := o7.below vb
                have L7B := L7.below vb
                have z2 := bx_below (bx_below tn2 g7) vb
                have y2 := bx_below (bx_below tl2 g7) vb
                have gg7 := bstep (bstep gg6 g7) vb
                have hs6 := g6.size
                have hs7 := g7.size
                have hl5 : w5.heap.size + 1 < W6.heap.size := bx_lt tl2
                clear vz vz1 vl1 hS6 hbB6 vb g6 g7 o7 L7 N6 O6 L6 tn2 tl2 gg6 N1 gg1
                try rw [put_no9]
                try rw [put_no9]
                obtain ⟨W7, hW7⟩ : ∃ W7, W7 = (((w7.alloc (.cells ntZ 27)).alloc (.cells lnZ 40)).setRow w7.heap.size (ntA s7 N N ((t : Int) + 1))).setRow (w7.heap.size + 1) (lnV a7 N x) := ⟨_, rfl⟩
                rw [← hW7] at N7 O7A L7A O7B L7B z2 y2 gg7 vn2 vl2
                change Code.wp _ _ _ _ ((((w7.alloc (.cells ntZ 27)).alloc (.cells lnZ 40)).setRow w7.heap.size (ntA s7 N N ((t : Int) + 1))).setRow (w7.heap.size + 1) (lnV a7 N x))
                rw [← hW7]
                clear hW7
                generalize w5.heap.size = e5 at *
                generalize w7.heap.size = e7 at *
                have HS : W7.drew.heap[e5]? = some (.cells (ntA s5 M M ((t : Int) + 1)) 27 (0, 0)) ∧ W7.drew.heap[e7]? = some (.cells (ntA s7 N N ((t : Int) + 1)) 27 (0, 0)) := ⟨z2, vn2⟩
                have bA7 : W7.drew.heap[gA]? = _ := N7.a.box
                have bB7 : W7.drew.heap[gB]? = _ := N7.b.box
                have hneAB := N7.ne
                refine Rest.begin (S := fun w' => w'.heap[e5]? = some (.cells (ntA s5 M M ((t : Int) + 1)) 27 (0, 0)) ∧ w'.heap[e7]? = some (.cells (ntA s7 N N ((t : Int) + 1)) 27 (0, 0))) (X := [2, 3]) (by kernel_rfl) ?_
                change Rest _ _ _ _ _ _ _ _ _ W7.drew
                refine Rest.takeS (i := 0) (v := .agg (ntA s5 M M ((t : Int) + 1))) rfl (by kernel_rfl) (by kernel_rfl) (by kernel_rfl) (by kernel_rfl) (fun _ _ _ h => h) HS (yields_loadR rowN (by simp [Region.wanted]) _ rfl e5 (by simp [Act.eval]) _ rfl (fun w' hw => ⟨_, _, hw.1⟩)) ?_
                refine Rest.takeS (i := 1) (v := .agg (ntA s7 N N ((t : Int) + 1))) rfl (by kernel_rfl) (by kernel_rfl) (by kernel_rfl) (by kernel_rfl) (fun _ _ _ h => h) HS (yields_loadR rowN (by simp [Region.wanted]) _ rfl e7 (by simp [Act.eval, Act.put]) _ rfl (fun w' hw => ⟨_, _, hw.2⟩)) ?_
                refine Rest.one (i := 2) (by kernel_rfl) rfl (fun K hK => ?_)
                (with_reducible refine draw_storeR rowN ?zq1gd ?zq1x ?zq1y ?zq1o gA (ntA s5 M M ((t : Int) + 1)) ?zq1hx ?zq1hy bA7 ?zq1n ?zq1old (nt_ones _ _ _ _) ?zq1h)
                case zq1o => exact rfl
                case zq1gd => exact rfl
                case zq1hx => simp [Act.eval, Act.put]
                case zq1hy => simp [Act.eval, Act.put]
                case zq1n => rfl
                case zq1old => rfl
                case zq1h =>
                refine hK _ _ ⟨.inl ⟨(setRow_other _ _ _ _ (by omega)).trans HS.1, (setRow_other _ _ _ _ (by omega)).trans HS.2⟩, ?_⟩; clear hK K
                refine Rest.one (i := 3) (by kernel_rfl) rfl (fun K hK => ?_)
                (with_reducible refine draw_storeR rowN ?zq2gd ?zq2x ?zq2y ?zq2o gB (ntA s7 N N ((t : Int) + 1)) ?zq2hx ?zq2hy ((setRow_other _ _ _ _ (Ne.symm hneAB)).trans bB7) ?zq2n ?zq2old (nt_ones _ _ _ _) ?zq2h)
                case zq2o => exact rfl
                case zq2gd => exact rfl
                case zq2hx => simp [Act.eval, Act.put]
                case zq2hy => simp [Act.eval, Act.put]
                case zq2n => rfl
                case zq2old => rfl
                case zq2h =>
                refine hK _ _ ⟨.inr (thru_of (by kernel_rfl)), Rest.of_any _ _ _ _ (thru_of (by kernel_rfl)) ?_⟩; clear hK K
                refine wpAny_done (by kernel_rfl) ?_ _
                have hd := (Below.refl W7.heap.size W7).drew
                have P1 := N7.putA hd (O7A.below hd) lA6 lB6 r1 (by simp) ((t : Int) + 1)
                have P2 := P1.putB (Below.refl _ _) ((O7B.below hd).setRowF ((O7B.below hd).freeLo (by omega)) (ntA s5 M M ((t : Int) + 1))) (by omega) (by omega) u1 (by rw [crK_len, HN.out]) ((t : Int) + 1)
                have L8A := (L7A.below hd).keptHi (w1 := (W7.drew.setRow gA (ntA s5 M M ((t : Int) + 1))).setRow gB (ntA s7 N N ((t : Int) + 1))) (fun q hq => (setRow_other _ _ _ _ (by omega)).trans (setRow_other _ _ _ _ (by omega)))
                have L8B := (L7B.below hd).keptHi (w1 := (W7.drew.setRow gA (ntA s5 M M ((t : Int) + 1))).setRow gB (ntA s7 N N ((t : Int) + 1))) (fun q hq => (setRow_other _ _ _ _ (by omega)).trans (setRow_other _ _ _ _ (by omega)))
                have yA8 : ((W7.drew.setRow gA (ntA s5 M M ((t : Int) + 1))).setRow gB (ntA s7 N N ((t : Int) + 1))).heap[e5 + 1]? = _ := (setRow_other _ _ _ _ (by omega)).trans ((setRow_other _ _ _ _ (by omega)).trans y2)
                have yB8 : ((W7.drew.setRow gA (ntA s5 M M ((t : Int) + 1))).setRow gB (ntA s7 N N ((t : Int) + 1))).heap[e7 + 1]? = _ := (setRow_other _ _ _ _ (by omega)).trans ((setRow_other _ _ _ _ (by omega)).trans vl2)
                have gg8 : Below w.heap.size w ((W7.drew.setRow gA (ntA s5 M M ((t : Int) + 1))).setRow gB (ntA s7 N N ((t : Int) + 1))) := below_setRow (below_setRow gg7.drew lwA _) lB5 _
                clear HS bA7 bB7 hneAB P1 N7 O7A L7A O7B L7B z2 y2 gg7 vn2 vl2 hd
                simp [Act.put]
                go_upto_region 32 with fail
                generalize (W7.drew.setRow gA (ntA s5 M M ((t : Int) + 1))).setRow gB (ntA s7 N N ((t : Int) + 1)) = W8 at *
                have ht1 : ((t + 1 : Nat) : Int) = (t : Int) + 1 := by omega
                rw [← ht1] at P2
                clear ht1
                have HC9 : Hid (CrP k (cts q5) (cts q7)) := hid (HCR.out.step hclA (by rw [cts_len, r1]) (by rw [cts_len, u1, HN.out]) r2 u2)
                have HNW9 : Hid (NwI (t + 1) (cts q5)) := hid (HNW.out.step _ _ _ (by rw [cts_len, r1, hclA]) r2)
                have HR4 := hid r4
                have HU4 := hid u4
                have HR1 := hid r1
                have HCL := hid hclA
                have HR3 := hid r3
                clear r1 r2 r3 r4 u1 u2 u3 u4 hclA hlA HXB
                clear W7
                have yA9 : W8.heap[e5 + 1]? = some (.cells #[.slice a5'.da M a5'.dc, .bool x, .slice a5'.sa M a5'.sc, .slice a5'.ha M a5'.hc] 40 (0, 0)) := yA8
                have yB9 : W8.heap[e7 + 1]? = some (.cells #[.slice a7.da N a7.dc, .bool x, .slice a7.sa N a7.sc, .slice a7.ha N a7.hc] 40 (0, 0)) := yB8
                clear yA8 yB8
                obtain ⟨ya0, ya1, ya2, ya3⟩ := bx4c yA9
                obtain ⟨yb0, yb1, yb2, yb3⟩ := bx4c yB9
                have hxx : (x != x) = false := by simp
                go_wp2_with fail
                clear ya0 ya1 ya2 ya3 yb0 yb1 yb2 yb3
                go_loopg [180] M (fun gn s180 wr => ∃ i : Nat, i ≤ M ∧ gn = M - i ∧ s180 = .int .i64 (i : Int) ∧ Below W8.heap.size W8 wr)
                case atStart => exact ⟨0, by omega, by omega, rfl, Below.refl _ _⟩
                case round =>
                  obtain ⟨i, hi, rfl, rfl, gk⟩ := hrel
                  by_cases him : i < M
                  · as_aux_lemma =>
                      obtain ⟨⟨dd, hd1, hd2⟩, ⟨ss, hs1, hs2⟩, ⟨hp, hq, hh1, hh2, hh3⟩⟩ := crash_node HCR.out HCL.out HN.out him HR4.out HU4.out
                      obtain ⟨ik, hik⟩ : ∃ ik : Nat, i + k = ik := ⟨_, rfl⟩
                      have eik : (i : Int) + (k : Int) = (ik : Int) := by omega
                      have hikN : ik < N := by have := HN.out; omega
                      have hp5 := List.getElem?_eq_getElem (show i < q5.length by rw [HR1.out]; exact him)
                      obtain ⟨⟨cc, sa⟩, hpq⟩ : ∃ p : Nd, q5[i]? = some p := ⟨_, hp5⟩
                      obtain ⟨sb, hpb⟩ := crash_ctl HC9.out hpq
                      rw [hik] at hd2 hs2 hh2 hpb
                      have hNa := HNW9.out cc (List.mem_of_getElem? (by unfold cts; rw [List.getElem?_map, hpq]; rfl))
                      have LA := L8A.below gk
                      have LB := L8B.below gk
                      have PP := P2.below gk
                      obtain ⟨b1, o1, v1, e1, f1, c1⟩ := LA.dro.rl.at him
                      obtain ⟨b2, o2, v2, e2, f2, c2⟩ := LB.dro.rl.at hikN
                      obtain ⟨b3, o3, v3, e3, f3, c3⟩ := LA.sam.rl.at him
                      obtain ⟨b4, o4, v4, e4, f4, c4⟩ := LB.sam.rl.at hikN
                      rw [hd1] at f1; rw [hd2] at f2; rw [hs1] at f3; rw [hs2] at f4
                      simp only [Option.some.injEq] at f1 f2 f3 f4
                      subst f1 f2 f3 f4
                      obtain ⟨b5, e5', R5⟩ := LA.hapRange (by omega)
                      obtain ⟨b6, e6, R6⟩ := LB.hapRange (by omega)
                      have R5 := range_grown (R5 i hp hh1)
                      have R6 := range_grown (R6 ik hq hh2)
                      obtain ⟨b7, e7', R7⟩ := PP.a.own.nodRange (by rw [HR1.out]; omega)
                      obtain ⟨b8, e8, R8⟩ := PP.b.own.nodRange (by rw [PP.b.len]; omega)
                      have R7 := range_grown (R7 i (cc, sa) hpq)
                      have R8 := range_grown (R8 ik (cc, sb) hpb)
                      have kH := fun d os => Calls.regrown_of (sameHap_true (grow (redrawn wr d) os) hp hq hh3 ((LA.hsl hp (List.mem_of_getElem? hh1)).rl.below (below_regrown _ _ _)) ((LB.hsl hq (List.mem_of_getElem? hh2)).rl.below (below_regrown _ _ _)))
                      have kS := fun d os => Calls.regrown_of (sameCtl_eq (grow (redrawn wr d) os) cc sa sb ((PP.a.r.sl (cc, sa) (List.mem_of_getElem? hpq)).below (below_regrown _ _ _)) ((PP.b.r.sl (cc, sb) (List.mem_of_getElem? hpb)).below (below_regrown _ _ _)) (by have := hNa.2.wl; omega) (by have := hNa.2.tl; omega))
                      obtain ⟨ya0, ya1, ya2, ya3⟩ := bx4c (bx_below yA9 gk)
                      obtain ⟨yb0, yb1, yb2, yb3⟩ := bx4c (bx_below yB9 gk)
                      have na0 : wr.cell? ⟨gA, 0, none⟩ = some (.slice s5.na M s5.nc) := (bx3c (show wr.heap[gA]? = some (.cells #[.slice s5.na M s5.nc, .slice s5.ca M s5.cc, .int .i64 ((t + 1 : Nat) : Int)] 27 (0, 0)) from PP.a.box)).1
                      have nb0 : wr.cell? ⟨gB, 0, none⟩ = some (.slice s7.na N s7.nc) := (bx3c (show wr.heap[gB]? = some (.cells #[.slice s7.na N s7.nc, .slice s7.ca N s7.cc, .int .i64 ((t + 1 : Nat) : Int)] 27 (0, 0)) from PP.b.box)).1
                      rw [e1] at ya0; rw [e3] at ya2; rw [e5'] at ya3; rw [e2] at yb0; rw [e4] at yb2; rw [e6] at yb3; rw [e7'] at na0; rw [e8] at nb0
                      clear e1 e2 e3 e4 e5' e6 e7' e8 LA LB PP hd1 hd2 hs1 hs2 hh1 hh2 hh3 hpq hpb hp5 hNa hik
                      have xa0 := cell_regrown ya0; have xa2 := cell_regrown ya2; have xa3 := cell_regrown ya3
                      have xb0 := cell_regrown yb0; have xb2 := cell_regrown yb2; have xb3 := cell_regrown yb3
                      have xn := cell_regrown na0; have xm := cell_regrown nb0
                      have xc1 := cell_regrown c1; have xc2 := cell_regrown c2; have xc3 := cell_regrown c3; have xc4 := cell_regrown c4
                      clear ya0 ya1 ya2 ya3 yb0 yb1 yb2 yb3 na0 nb0 c1 c2 c3 c4
                      have hdd : (dd != dd) = false := by simp
                      have hss : (ss != ss) = false := by simp
                      have HKEEP := hid (And.intro L8A (And.intro L8B (And.intro P2 (And.intro yA9 yB9))))
                      clear L8A L8B P2 yA9 yB9 gg8
                      go_upto_region 37 with fail
                      refine wp_region_quiet_below (by kernel_rfl) (by kernel_rfl) ?_
                      repeat (first
                        | ((with_reducible refine quiet_loadM rowH ?_ _ rfl b5 (i * 6) rfl (hapA hp.1 hp.2.1 hp.2.2) R5 rfl ?_); (focus (simp [Region.wanted, yielded, Act.put]; done)); (conv => arg 6; dsimp only; rw [put_lit9]; dsimp only [List.set_cons_succ, List.set_cons_zero]))
                        | ((with_reducible refine quiet_loadM rowH ?_ _ rfl b6 (ik * 6) rfl (hapA hq.1 hq.2.1 hq.2.2) R6 rfl ?_); (focus (simp [Region.wanted, yielded, Act.put]; done)); (conv => arg 6; dsimp only; rw [put_lit9]; dsimp only [List.set_cons_succ, List.set_cons_zero]))
                        | ((with_reducible refine quiet_loadM rowC ?_ _ rfl b7 (i * 26) rfl (ctA cc sa) R7 rfl ?_); (focus (simp [Region.wanted, yielded, Act.put]; done)); (conv => arg 6; dsimp only; rw [put_lit9]; dsimp only [List.set_cons_succ, List.set_cons_zero]))
                        | ((with_reducible refine quiet_loadM rowC ?_ _ rfl b8 (ik * 26) rfl (ctA cc sb) R8 rfl ?_); (focus (simp [Region.wanted, yielded, Act.put]; done)); (conv => arg 6; dsimp only; rw [put_lit9]; dsimp only [List.set_cons_succ, List.set_cons_zero]))
                        | (go_big_quiet_step (first | (go_at_call 18; with_reducible exact kH _ _) | (go_at_call 19; with_reducible exact kS _ _))))
                      refine wpQuiet_nil ?_
                      intro w9 hw9
                      have g9 : Below wr.heap.size wr w9 := by obtain ⟨p9, rfl⟩ := hw9; exact below_regrown _ _ _
                      clear hw9 kH kS R5 R6 R7 R8 xa0 xa2 xa3 xb0 xb2 xb3 xn xm xc1 xc2 xc3 xc4 hdd hss
                      go_wp2_with fail
                      go_roundg (M - (i + 1))
                      case measure => omega
                      case rel => exact ⟨i + 1, by omega, rfl, by go_num, bstep gk g9⟩
                  · obtain rfl : M = i := by omega
                    have P9 := P2.below gk
                    have L9 := L8B.below gk
                    have yC := bx_below yB9 gk
                    have gg9 := bstep gg8 gk
                    clear P2 L8A L8B yA9 yB9 gg8 gk him hi
                    go_wp2_with fail
                    obtain ⟨W9, hW9⟩ : ∃ W9, W9 = wr := ⟨_, rfl⟩
                    rw [← hW9] at P9 L9 yC gg9 ⊢
                    clear hW9
                    go_loopg [245] k (fun gn s245 wr => ∃ j : Nat, j ≤ k ∧ gn = k - j ∧ s245 = .int .i64 (j : Int) ∧ Below W9.heap.size W9 wr)
                    case atStart => exact ⟨0, by omega, by omega, rfl, Below.refl _ _⟩
                    case round =>
                      obtain ⟨j, hj, rfl, rfl, gk⟩ := hrel
                      by_cases hjk : j < k
                      · as_aux_lemma =>
                          obtain ⟨f1, f2⟩ := crash_down HCR.out HCL.out hjk HU4.out
                          have hjN : j < N := by have := HN.out; omega
                          have LB := L9.below gk
                          obtain ⟨b2, o2, v2, e2, f3, c2⟩ := LB.dro.rl.at hjN
                          rw [f1] at f3
                          simp only [Option.some.injEq] at f3
                          subst f3
                          obtain ⟨b6, e6, _, R6⟩ := LB.hapAt (by omega)
                          have c6 : wr.cell? ⟨b6, j * 6, none⟩ = some (.int .u8 0) := R6 j noH f2
                          obtain ⟨yb0, yb1, yb2, yb3⟩ := bx4c (bx_below yC gk)
                          rw [e2] at yb0; rw [e6] at yb3
                          have HK := hid (And.intro P9 (And.intro L9 (And.intro yC gg9)))
                          clear P9 L9 yC gg9 f1 f2 e2 e6 LB R6
                          go_wp2_with fail
                          go_roundg (k - (j + 1))
                          case measure => omega
                          case rel => exact ⟨j + 1, by omega, rfl, by go_num, gk⟩
                      · obtain rfl : k = j := by omega
                        have P10 := P9.below gk
                        have gg10 := bstep gg9 gk
                        clear P9 L9 yC gg9 hjk hj
                        go_wp2_with fail
                        go_roundg (n2 - (t + 1))
                        case measure => omega
                        case rel => exact ⟨t + 1, s5, q5, s7, q7, by omega, rfl, by go_num, P10, HC9, HNW9, gg10⟩
              · obtain rfl : n2 = t := by omega
                have hq := HCR.out.quiet (n := M) (by rw [cts_len, N0.a.len])
                have kQA := fun d os => Calls.regrown_of (quiet_any (grow (redrawn wr d) os) sA pA (List.replicate M false) M (n2 : Int) (N0.a.r.below (below_regrown _ _ _)) N0.a.len (by simp) (by omega))
                have kQB := fun d os => Calls.regrown_of (quiet_any (grow (redrawn wr d) os) sB pB (crK k M) N (n2 : Int) (N0.b.r.below (below_regrown _ _ _)) N0.b.len (by rw [crK_len, HN.out]) (by omega))
                have kW := fun d os => Calls.regrown_of (awake9_any (grow (redrawn wr d) os))
                rw [hq] at kQB
                generalize quA (cts pA) (List.replicate M false) = Qv at *
                obtain ⟨xa0, xa1, xa2⟩ := bx3c (show wr.heap[gA]? = some (.cells #[.slice sA.na M sA.nc, .slice sA.ca M sA.cc, .int .i64 (n2 : Int)] 27 (0, 0)) from N0.a.box)
                obtain ⟨xb0, xb1, xb2⟩ := bx3c (show wr.heap[gB]? = some (.cells #[.slice sB.na N sB.nc, .slice sB.ca N sB.cc, .int .i64 (n2 : Int)] 27 (0, 0)) from N0.b.box)
                have za0 := cell_regrown xa0; have za1 := cell_regrown xa1; have za2 := cell_regrown xa2
                have zb0 := cell_regrown xb0; have zb1 := cell_regrown xb1; have zb2 := cell_regrown xb2
                clear xa0 xa1 xa2 xb0 xb1 xb2 hq N0 hlt ht
                unfold ntA at kQA kQB
                have hQQ : (Qv == Qv) = true := by simp
                go_upto_region 47 with fail
                refine wp_region_quiet_below (by kernel_rfl) (by kernel_rfl) ?_
                repeat (go_big_quiet_step (first | (go_at_call 13; with_reducible exact kQA _ _) | (go_at_call 13; with_reducible exact kQB _ _) | (go_at_call 14; with_reducible exact kW _ _)))
                refine wpQuiet_nil ?_
                intro w9 hw9
                have g9 : Below wr.heap.size wr w9 := by obtain ⟨p9, rfl⟩ := hw9; exact below_regrown _ _ _
                clear hw9 kQA kQB kW za0 za1 za2 zb0 zb1 zb2
                go_wp2_with fail
                go_ret
                exact ⟨rfl, bstep gg0 g9⟩
end Go.Proofs.YtkdflchkhnhfaaaGreat
