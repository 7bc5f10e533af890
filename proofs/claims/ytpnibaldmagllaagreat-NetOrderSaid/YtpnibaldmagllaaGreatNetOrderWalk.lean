/-
  The walk of the statement NetOrder: for any number and any frames it returns true, and nothing that was there has changed.
-/
import Derived.Test.YtpnibaldmagllaaGreatB9u
import Derived.WalkMore
import Derived.Laws.Small
namespace Go.Proofs.YtpnibaldmagllaaGreat
open Go.RowKit Go.Sort
set_option linter.unusedVariables false
set_option linter.unusedSimpArgs false


set_option maxRecDepth 100000 in
set_option maxHeartbeats 16000000 in
theorem netOrder_walk (w : World) (y0 : Nat) (a1 : Option Addr) (n1 c1 : Nat) (fs : List Ff) (h0 : y0 ≤ 255) (hf : FrR w a1 n1 c1 fs) (hd : ∀ p ∈ fs, p.1.data.length ≤ 9223372036854775807) (m1 : n1 ≤ 9223372036854775807) :
    Calls Tryz.prog 3 #[.int .u8 (y0 : Int), .slice a1 n1 c1] w fun e w' => e = .returned (.bool true) ∧ Below w.heap.size w w' := by
  obtain ⟨r3, e3, hr3⟩ : ∃ r3 : Nat, (y0 : Int) % 3 = (r3 : Int) ∧ r3 < 3 := ⟨y0 % 3, by omega, by omega⟩
  have hA : Calls Tryz.prog 7 #[.slice a1 n1 c1, .int .i64 8] w (ApR w fs 8) := apart9_any w a1 n1 c1 fs hf 8 (by omega) m1
  have HF := hid hf
  clear hf hd h0
  go_enter Tryz.func3, Tryz.ntmps3
  go_upto_region 2 with (go_at_call 7; (with_reducible refine hA.mono ?_); rintro e w1 ⟨a5, c5, gs, rfl, O1, A1, hg8, g1⟩)
  obtain ⟨n5, hn5⟩ : ∃ n5, gs.length = n5 := ⟨_, rfl⟩
  rw [hn5] at O1 hg8 ⊢
  have HGL := hid hn5
  have HAP := hid A1
  obtain ⟨m0, hm0⟩ : ∃ m0 : Nat, m0 = max n5 2 := ⟨_, rfl⟩
  have hmx : ∀ ts t w', (Builtin.max_ ts t #[.int .i64 (n5 : Int), .int .i64 2]).run Tryz.prog w' = .ok (.int .i64 (m0 : Int)) w' := fun ts t w' => by
    rw [run_max_int2]; congr 2; split <;> omega
  obtain ⟨M, hM⟩ : ∃ M : Nat, M = m0 + r3 := ⟨_, rfl⟩
  have e4 : (m0 : Int) + (r3 : Int) = (M : Int) := by omega
  have hMb : 2 ≤ M ∧ M ≤ 10 ∧ n5 ≤ M := by omega
  have hm0b : m0 ≤ 8 := by omega
  have hFr : FrR w1 a5 n5 c5 gs := ⟨O1.rk enF_k, fun p hp => (HF.out.dat p (A1.sub p hp)).below g1, fun p hp => HF.out.id p (A1.sub p hp), fun p hp => HF.out.dl p (A1.sub p hp)⟩
  have hGv := given_any w1 a5 c5 n5 M gs hFr hMb.1 (by omega) hMb.2.2
  clear hn5 A1 hA hM hm0
  go_upto_region 3 with (first
    | (go_at_call 8; (with_reducible refine hGv.mono ?_); rintro e w2 ⟨s2, b, rfl, hb, hb2, g2⟩
       obtain rfl : b = true := hb.2 fun p hp => HAP.out.good p hp
       obtain ⟨ps2, k1, k2, o2⟩ := hb2 rfl
       have hz2 := heap_alloc_new w2 (.cells ntZ 27)
       have gg2 := bstep g1 g2
       clear hb hb2)
    | (with_reducible refine wpList_storeR rowN rfl _ _ rfl _ _ rfl rfl hz2 rfl rfl (nt_ones _ _ _ _) ?_))
  have N3 := Nb.new (z := 0) o2 k1 (List.length_replicate ..) ntZ
  have gg3 : Below w.heap.size w ((w2.alloc (.cells ntZ 27)).setRow w2.heap.size (ntA s2 M M 0)) := below_setRow (bnew gg2 _) gg2.size _
  have hlg : (gs.map Prod.fst).length ≤ M := by rw [List.length_map, HGL.out]; exact hMb.2.2
  have HNO : Hid (NO (gsO M (gs.map Prod.fst)) (cts ps2)) := by show NO _ _; rw [k2]; exact gsO_no hlg
  have HGU : Hid (GsU (gsO M (gs.map Prod.fst))) := hid (gsO_U HAP.out)
  have HLF : Hid ((gsO M (gs.map Prod.fst)).filterMap id = gs.map Prod.fst) := hid (gsO_left _ _)
  have O3 := ((O1.below g2).alloc (.cells ntZ 27)).kept (w' := (w2.alloc (.cells ntZ 27)).setRow w2.heap.size (ntA s2 M M 0)) fun q hq => setRow_other _ _ _ _ (by have := ((O1.below g2).ltB hq).1; dsimp only at this; omega)
  obtain ⟨gB, hgB⟩ : ∃ g, g = w2.heap.size := ⟨_, rfl⟩
  try rw [put_no9]
  try rw [put_no9]
  change Code.wp _ _ _ _ ((w2.alloc (.cells ntZ 27)).setRow w2.heap.size (ntA s2 M M 0))
  generalize (w2.alloc (.cells ntZ 27)).setRow w2.heap.size (ntA s2 M M 0) = W3 at *
  have lwB : w.heap.size ≤ gB := by have := gg2.size; omega
  rw [← hgB] at N3 ⊢
  clear hgB hz2 gg2 o2 k1 k2 hGv g2 hlg hFr O1 g1 e3 e4 hmx
  generalize gsO M (gs.map Prod.fst) = gx0 at *
  have lB3 := N3.lt
  have hown := ok_lit enF_k 34 (gB + 1) W3 ([] : List Ff) #[] 0 rfl rfl (by omega) (by omega)
  have hsrc := (O3.rk enF_k).below (bnew0 W3 (.cells #[] 34))
  have hba : gB + 1 ≤ (W3.alloc (.cells #[] 34)).heap.size := by rw [heap_size_alloc]; omega
  have F3 : NtF W3.heap.size s2 ps2 := N3.own.freeHi (Nat.le_refl _)
  go_upto_region 6 with (with_reducible refine wpList_appgK0 elF9 enF_k rfl _ _ rfl rfl hown rfl hsrc (by omega) (by omega) hba ?_; intro w7 a7 c7 o7 g7 k7 z7)
  rw [Nat.zero_add, List.nil_append] at o7
  have hnb3 : ∀ q, q < W3.heap.size → NB (some ⟨W3.heap.size, 0, none⟩) q := fun q hq x hx e => by cases hx; dsimp only at e; omega
  have k7' : ∀ q, q < W3.heap.size → w7.heap[q]? = W3.heap[q]? ∧ NB a7 q := fun q hq => ⟨(k7 q (by rw [heap_size_alloc]; omega) (hnb3 q hq)).1.trans (Below.heap_alloc _ _ _ hq), (k7 q (by rw [heap_size_alloc]; omega) (hnb3 q hq)).2⟩
  have gW7 : Below W3.heap.size W3 w7 := ⟨g7.os, g7.tape, g7.output, by rw [heap_size_alloc] at z7; omega, fun q hq => (k7' q hq).1⟩
  have N7 := N3.below gW7
  have gg7 := bstep gg3 gW7
  have F7 : Hid (∀ q, a7 = some q → NtF q.block s2 ps2) := hid fun q hq => N3.own.freeHi (Nat.le_of_not_lt fun hn => (k7' q.block hn).2 q hq rfl)
  clear hown hsrc hba F3 k7 k7' hnb3 g7 z7 gW7 N3 gg3 O3 lB3
  generalize W3.heap.size = e39 at *
  clear W3
  try rw [Nat.zero_add]
  go_wp2_with fail
  go_loopg [8] n5 (fun gn s8 wr => ∃ (K : Nat) (s : Na) (ps : List Nd) (gx : List (Option Fr)) (aL : Option Addr) (nL cL : Nat) (L : List Ff), nL = gn ∧ s8 = .slice aL nL cL ∧ Hid (L.length = nL) ∧ nL ≤ 8 ∧ K + 170 * nL ≤ 1360 ∧ Nb wr gB M (K : Int) s ps (List.replicate M false) ∧ OK enF 5 34 (gB + 1) wr aL nL cL L ∧ Hid (∀ q, aL = some q → NtF q.block s ps) ∧ Hid (NO gx (cts ps)) ∧ Hid (GsU gx) ∧ Hid (gx.filterMap id = L.map Prod.fst) ∧ Hid (∀ p ∈ L, p ∈ gs) ∧ Below w.heap.size w wr)
  case atStart => exact ⟨0, s2, ps2, gx0, a7, n5, c7, gs, rfl, rfl, HGL, hg8, by omega, N7, o7, F7, HNO, HGU, HLF, hid (fun p hp => hp), gg7⟩
  case round =>
    clear N7 o7 F7 gg7 HNO HGU HLF
    obtain ⟨K, s, ps, gx, aL, nL, cL, L, rfl, rfl, HLl, hnL, hK, N0, O0, F0, HNO, HGU, HLF, HLS, gg0⟩ := hrel
    by_cases hn0 : 0 < nL
    · have hdec : decide ((0 : Int) < (nL : Int)) = true := decide_eq_true (by omega)
      obtain ⟨sg, rfl, hsg1, hsg2⟩ := O0.addr hn0
      have HBI : Hid (BestI L 0 0) := hid (BestI.zero (by rw [HLl.out]; exact hn0))
      obtain ⟨wO, rfl⟩ : ∃ wO, wO = wr := ⟨_, rfl⟩
      have HFG : Hid (∀ p ∈ L, Good p.1 ∧ RL bv w p.2.1 p.1.data.length p.2.2 p.1.data) := hid fun p hp => ⟨HAP.out.good p (HLS.out p hp), HF.out.dat p (HAP.out.sub p (HLS.out p hp))⟩
      go_wp2_with fail
      clear hdec
      go_loopg [9, 47] nL (fun gn s9 s47 wr => ∃ (i b : Nat), i ≤ nL ∧ gn = nL - i ∧ s47 = .int .i64 (i : Int) ∧ s9 = .int .i64 (b : Int) ∧ b < nL ∧ Hid (BestI L i b) ∧ Below wO.heap.size wO wr)
      case atStart => exact ⟨0, 0, by omega, by omega, rfl, rfl, hn0, HBI, Below.refl _ _⟩
      case round =>
        clear HBI
        obtain ⟨i, b, hi, rfl, rfl, rfl, hb, HBI, gk⟩ := hrel
        by_cases hlt : i < nL
        · obtain ⟨p, hp⟩ : ∃ p, L[i]? = some p := ⟨_, List.getElem?_eq_getElem (by rw [HLl.out]; exact hlt)⟩
          obtain ⟨q, hq⟩ : ∃ q, L[b]? = some q := ⟨_, List.getElem?_eq_getElem (by rw [HLl.out]; exact hb)⟩
          have hpr := (O0.below gk).range enF_k hp
          have hqr := (O0.below gk).range enF_k hq
          have hpg := HFG.out p (List.mem_of_getElem? hp)
          have hqg := HFG.out q (List.mem_of_getElem? hq)
          have HP := hid hp
          have HQ := hid hq
          obtain ⟨t, ht⟩ : ∃ t, t = decide (kyO p.1 < kyO q.1) := ⟨_, rfl⟩
          have HT := hid ht
          have hB1 := fun w' => before9 w' p.1 q.1 p.2.1 q.2.1 p.2.2 q.2.2 hpg.1 hqg.1
          rw [← ht] at hB1
          clear hp hq ht hpg hqg
          go_upto_region 11 with fail
          go_cut [58] (fun s58 wx => s58 = .bool t ∧ Below wr.heap.size wr wx)
          case first =>
            have qp := fun (k : Nat) (v : Value) (h : (enF p)[k]? = some v) => cell_regrown (w := wr) (a := ⟨sg, i * 5 + k, none⟩) (v := v) (hpr k v h)
            have qq := fun (k : Nat) (v : Value) (h : (enF q)[k]? = some v) => cell_regrown (w := wr) (a := ⟨sg, b * 5 + k, none⟩) (v := v) (hqr k v h)
            have x0 : ∀ d os, (grow (redrawn wr d) os).cell? ⟨sg, i * 5, none⟩ = some (.int .u32 (p.1.id : Int)) := qp 0 _ rfl
            have x1 := qp 1 (.bool p.1.ext) rfl
            have x2 := qp 2 (.bool p.1.rem) rfl
            have x3 := qp 3 (.int .u8 (p.1.dlc : Int)) rfl
            have x4 := qp 4 (.slice p.2.1 p.1.data.length p.2.2) rfl
            have y0 : ∀ d os, (grow (redrawn wr d) os).cell? ⟨sg, b * 5, none⟩ = some (.int .u32 (q.1.id : Int)) := qq 0 _ rfl
            have y1 := qq 1 (.bool q.1.ext) rfl
            have y2 := qq 2 (.bool q.1.rem) rfl
            have y3 := qq 3 (.int .u8 (q.1.dlc : Int)) rfl
            have y4 := qq 4 (.slice q.2.1 q.1.data.length q.2.2) rfl
            have hK := fun d os => Calls.regrown_of (hB1 (grow (redrawn wr d) os))
            clear qp qq hpr hqr hB1 HP HQ HT N0 O0 F0
            refine wp_region_quiet_below (by kernel_rfl) (by kernel_rfl) ?_
            repeat (go_big_quiet_step (first | (go_at_call 9; with_reducible exact hK _ _)))
            refine wpQuiet_nil ?_
            intro w9 hw9
            have gg : Below wr.heap.size wr w9 := by obtain ⟨p9, rfl⟩ := hw9; exact below_regrown _ _ _
            clear hw9
            go_wp2_with fail
            go_meet
            exact ⟨rfl, gg⟩
          case rest =>
          obtain ⟨rfl, gx9⟩ := hcut
          have gk2 := gk.trans (gx9.mono gk.size)
          clear gk gx9 hpr hqr hB1
          cases t with
          | true =>
            have HB2 : Hid (BestI L (i + 1) i) := hid (HBI.out.take HP.out HQ.out (by simpa using HT.out.symm))
            clear HBI HT
            go_wp2_with fail
            go_roundg (nL - (i + 1))
            case measure => omega
            case rel => exact ⟨i + 1, i, by omega, rfl, by go_num, rfl, hlt, HB2, gk2⟩
          | false =>
            have HB2 : Hid (BestI L (i + 1) b) := hid (HBI.out.keep HP.out HQ.out (by simpa using HT.out.symm))
            clear HBI HT
            go_wp2_with fail
            go_roundg (nL - (i + 1))
            case measure => omega
            case rel => exact ⟨i + 1, b, by omega, rfl, by go_num, rfl, hb, HB2, gk2⟩
        · obtain rfl : nL = i := by omega
          obtain ⟨⟨F, fa, fc⟩, hq⟩ : ∃ q, L[b]? = some q := ⟨_, List.getElem?_eq_getElem (by rw [HLl.out]; exact hb)⟩
          obtain ⟨jw, hjw, hjs⟩ := left_at gx b F (by rw [HLF.out, List.getElem?_map, hq]; rfl)
          obtain ⟨hgF, hdF⟩ := HFG.out _ (List.mem_of_getElem? hq)
          dsimp only at hgF hdF
          have hle := HBI.out
          rw [← HLl.out] at hle
          have hno := no_ok HGU.out hjw (hle.all hq HLF.out)
          have HNK := hid hno
          have HJW := hid hjw
          have HJS := hid hjs
          have HQ := hid hq
          have HGF := hid hgF
          have N1 := N0.below gk
          have O1 := O0.below gk
          have gg1 := bstep gg0 gk
          have hdF1 := hdF.below gg1
          have hid4 := good_id hgF
          have hdl4 := good_dlc hgF
          have hln := good_len hgF
          obtain ⟨P, hP⟩ : ∃ P, P = (putL (boL F)).length := ⟨_, rfl⟩
          have hPb : 34 ≤ P ∧ P ≤ 150 := by rw [hP]; exact ⟨P_pos F, P_top hgF⟩
          obtain ⟨N, hN⟩ : ∃ N, N = P + 10 := ⟨_, rfl⟩
          obtain ⟨K3, hK3⟩ : ∃ K3, K3 = N + 3 := ⟨_, rfl⟩
          have iK3 : (N : Int) + 3 = (K3 : Int) := by omega
          have hW : Calls Tryz.prog 10 #[.agg (frV F fa fc)] wr fun e w' => ∃ a' c', e = .returned (.tuple #[.slice a' N c', .int .i64 0]) ∧ Below wr.heap.size wr w' := by
            refine (wire_any wr F.id F.ext F.rem F.dlc fa F.data.length fc F.data hid4 hdl4 hdF1 ((good_iff F _ rfl).2 hgF)).mono ?_
            rintro e w2 ⟨a', c', rfl, _, g2⟩
            exact ⟨a', c', by rw [hN, hP], g2⟩
          have hrF := O1.range enF_k hq
          have HPN := hid (And.intro hP (And.intro hN hK3))
          have hjM : jw < M := by
            have h1 := (List.getElem?_eq_some_iff.1 hjw).1
            have h2 := HNO.out.len
            rw [cts_len, N0.len] at h2
            omega
          have hNb : N ≤ 160 ∧ K3 ≤ 163 := by omega
          have hrF : wr.rangeAt sg (b * 5) (frV F fa fc).toList := hrF
          have HN3 : Hid (NdR F jw 0 gx (cts ps)) := hid HNO.out.begin
          have F1 : Hid (NtF sg s ps) := hid (F0.out ⟨sg, 0, none⟩ rfl)
          clear hno hjw hjs hq hgF hdF hle hid4 hdl4 hln hP hN hK3 HBI N0 O0 gk gg0 F0 hi hlt
          go_upto_region 15 with (first
            | (with_reducible refine wpList_loadM rowF rfl _ rfl sg (b * 5) rfl (frV F fa fc) hrF rfl ?_)
            | (go_at_call 10; (with_reducible refine hW.mono ?_); rintro e w4 ⟨aw, cw, rfl, g4⟩))
          have N4 := N1.below g4
          have O4 := O1.below g4
          have gg4 := bstep gg1 g4
          have hdF4 := hdF1.below g4
          clear N1 O1 gg1 hdF1 hW hrF g4
          go_wp2_with fail
          go_loopg [74] K3 (fun gn s74 wr => ∃ (k z : Nat) (s3 : Na) (ps3 : List Nd), k ≤ K3 ∧ gn = K3 - k ∧ s74 = .int .i64 (k : Int) ∧ z ≤ 2000 ∧ Hid (z = K + k) ∧ Nb wr gB M (z : Int) s3 ps3 (List.replicate M false) ∧ OK enF 5 34 (gB + 1) wr (some ⟨sg, 0, none⟩) nL cL L ∧ Hid (NtF sg s3 ps3) ∧ Hid (NdR F jw k gx (cts ps3)) ∧ Below w.heap.size w wr)
          case atStart => exact ⟨0, K, s, ps, by omega, by omega, rfl, by omega, hid rfl, N4, O4, F1, HN3, gg4⟩
          case round =>
            clear N4 O4 F1 HN3 gg4 hdF4
            obtain ⟨k, z, s3, ps3, hk, rfl, rfl, hz2, HZ, N0, O0, F0, HN3, gg0⟩ := hrel
            by_cases hlt : k < K3
            · have hlen := N0.len
              have hcl : (cts ps3).length = M := by rw [cts_len, hlen]
              have hkP : k < (putL (boL F)).length + 13 := by have := HPN.out; omega
              have hgl : gx.length = M := by rw [← HN3.out.len, hcl]
              have hok : ∀ p ∈ ps3, StepOK p.1 := fun p hp => by
                obtain ⟨j, hj⟩ := List.getElem?_of_mem hp
                exact HN3.out.ok HGF.out HNK.out hkP j _ (cts_at hj)
              have hx : xB F k = (dvL (cts ps3) (List.replicate M false)).all id := by
                rw [dvL_up (cts ps3) M hcl]
                exact (HN3.out.bus HGF.out HNK.out (by rw [hgl]; exact hjM) (by rw [hgl]; exact hMb.1) hkP).symm
              obtain ⟨x, hxe⟩ : ∃ x, x = xB F k := ⟨_, rfl⟩
              have hst : ∀ qs : List Nd, qs.length = M → (∀ j c, (cts ps3)[j]? = some c → (cts qs)[j]? = some (stC c x).1) → NdR F jw (k + 1) gx (cts qs) := fun qs h1 h2 => HN3.out.step HGF.out HNK.out hkP (by rw [cts_len, h1, hcl]) (by rw [← hxe]; exact h2)
              have hhp : ∀ j c, (cts ps3)[j]? = some c → (stC c x).2 = (if j = jw then (if k = P + 9 then (1, F) else noH) else if k = P + 8 then (2, F) else noH) ∨ (j ≠ jw ∧ k < P ∧ (stC c x).2 = (3, zeroFr)) := fun j c hc => by
                rw [hxe, HPN.out.1]
                exact HN3.out.hap HGF.out HNK.out hkP hc
              have hS := netStep_any wr s3 ps3 (List.replicate M false) M (z : Int) none 0 0 [] N0.r hlen (by simp) (by omega) hok (RL.nil _ _ _ _) (by omega) (fun x hx => by cases hx) (by omega) (by omega) x (hxe.trans hx)
              have HST := hid (And.intro hst (And.intro hhp hcl))
              have hb1 := N0.box
              have lB1 := N0.lt
              have lS1 := (O0.ltB rfl).1
              have lS2 := (O0.ltB rfl).2
              clear hok hx hst hhp hxe HN3 hcl hgl hkP
              go_upto_region 22 with (first
                | (with_reducible refine wpList_loadR rowN rfl _ rfl _ rfl hb1 rfl ?_)
                | (go_at_call 11; (with_reducible refine hS.mono ?_); rintro e w5 ⟨s5, a5, rfl, qs5, hs5, r1, r2, r3, r4, o5, L5, g5⟩
                   have T5 := two9 w5 s5 a5 M ((z : Int) + 1) x
                   obtain ⟨tz, tz1, tl1, tn2, tl2, tb⟩ := T5
                   have hb6 := bx_below (bx_below hb1 g5) tb)
                | (with_reducible refine wpList_storeR rowN rfl _ _ rfl _ _ rfl rfl tz1 rfl rfl (nt_ones _ _ _ _) ?_)
                | (with_reducible refine wpList_storeR rowLn rfl _ _ rfl _ _ rfl rfl tl1 rfl rfl (ln_ones _ _ _ _ _ _ _ _ _ _) ?_)
                | (with_reducible refine wpList_loadR rowN rfl _ rfl _ rfl tn2 rfl ?_)
                | (with_reducible refine wpList_storeR rowN rfl _ _ rfl _ _ rfl rfl hb6 rfl rfl (nt_ones _ _ _ _) ?_))
              obtain ⟨W6, hW6⟩ : ∃ W6, W6 = (((w5.alloc (.cells ntZ 27)).alloc (.cells lnZ 40)).setRow w5.heap.size (ntA s5 M M ((z : Int) + 1))).setRow (w5.heap.size + 1) (lnV a5 M x) := ⟨_, rfl⟩
              rw [← hW6] at tb tl2 hb6
              have l5 := g5.size
              have N8 : Nb (W6.setRow gB (ntA s5 M M ((z : Int) + 1))) gB M ((z : Int) + 1) s5 qs5 (List.replicate M false) := Nb.put hb6 (o5.below tb) (o5.freeLo lB1) r1 (by simp)
              have F8 : Hid (NtF sg s5 qs5) := hid (o5.freeLo lS1)
              have L8 : LnO wr.heap.size (W6.setRow gB (ntA s5 M M ((z : Int) + 1))) a5 M (dvL (cts ps3) (List.replicate M false)) (smL M x []) hs5 := (L5.below tb).keptHi fun q hq => setRow_other _ _ _ _ (by omega)
              have hl8 : (W6.setRow gB (ntA s5 M M ((z : Int) + 1))).heap[w5.heap.size + 1]? = some (.cells (lnV a5 M x) 40 (0, 0)) := (setRow_other _ _ _ _ (by omega)).trans tl2
              have O8 : OK enF 5 34 (gB + 1) (W6.setRow gB (ntA s5 M M ((z : Int) + 1))) (some ⟨sg, 0, none⟩) nL cL L := ((O0.below g5).below tb).kept fun q hq => setRow_other _ _ _ _ (by cases hq; omega)
              have g8 : Below w.heap.size w (W6.setRow gB (ntA s5 M M ((z : Int) + 1))) := below_setRow (bstep (bstep gg0 g5) tb) lwB _
              rw [← hW6]
              clear hW6 tz tz1 tl1 tn2 tl2 tb hb6 hb1 L5 o5 g5 hS O0 gg0 N0
              try rw [put_no9]
              try rw [put_no9]
              change Code.wp _ _ _ _ (W6.setRow gB (ntA s5 M M ((z : Int) + 1)))
              generalize W6.setRow gB (ntA s5 M M ((z : Int) + 1)) = W8 at *
              clear W6
              obtain ⟨gH, eH, lH, _⟩ := L8.hapAt (by omega)
              have q83 := (bx4 hl8).2.2.2
              rw [eH] at q83
              obtain ⟨Bc, hBc⟩ : ∃ B, B = wr.heap.size := ⟨_, rfl⟩
              rw [← hBc] at L8 lH lB1 lS1
              obtain ⟨dl, hdl⟩ : ∃ dl, dl = dvL (cts ps3) (List.replicate M false) := ⟨_, rfl⟩
              rw [← hdl] at L8
              clear hdl
              obtain ⟨ql, hql⟩ : ∃ ql, ql = w5.heap.size + 1 := ⟨_, rfl⟩
              rw [← hql] at hl8 q83
              have hhl : hs5.length = M := L8.hap.1
              have HR : Hid (NdR F jw (k + 1) gx (cts qs5) ∧ ∀ j d, (hs5.map Prod.fst)[j]? = some d → d = (if j = jw then (if k = P + 9 then (1, F) else noH) else if k = P + 8 then (2, F) else noH) ∨ (j ≠ jw ∧ k < P ∧ d = (3, zeroFr))) := by
                obtain ⟨hst, hhp, hcl⟩ := HST.out
                refine ⟨hst qs5 r1 fun j c hc => ?_, fun j d hj => ?_⟩
                · have e := r2 j c hc
                  rw [nx_up, bi_nil] at e
                  exact e
                · obtain ⟨cc, hcc⟩ : ∃ cc, (cts ps3)[j]? = some cc := ⟨_, List.getElem?_eq_getElem (by have := (List.getElem?_eq_some_iff.1 hj).1; rw [List.length_map] at this; omega)⟩
                  have e := r4 j cc hcc
                  rw [hp_up, bi_nil, hj] at e
                  cases e
                  exact hhp j cc hcc
              clear r1 r2 r3 r4 HST hlen
              try rw [← hql]
              clear hql hBc
              go_wp2_with fail
              have HS0 : Hid ((0 : Nat) = seO P k jw 0 ∧ (0 : Nat) = toO P k jw 0) := hid ⟨(seO_zero _ _ _).symm, (toO_zero _ _ _).symm⟩
              go_loopg [17, 18, 89] M (fun gn s17 s18 s89 wr => ∃ (i S T : Nat), i ≤ M ∧ gn = M - i ∧ s89 = .int .i64 (i : Int) ∧ s17 = .int .i64 (S : Int) ∧ s18 = .int .i64 (T : Int) ∧ S ≤ 1 ∧ T ≤ 10 ∧ Hid (S = seO P k jw i ∧ T = toO P k jw i) ∧ Nb wr gB M ((z : Int) + 1) s5 qs5 (List.replicate M false) ∧ LnO Bc wr a5 M dl (smL M x []) hs5 ∧ OK enF 5 34 (gB + 1) wr (some ⟨sg, 0, none⟩) nL cL L ∧ Below w.heap.size w wr)
              case atStart => exact ⟨0, 0, 0, by omega, by omega, rfl, rfl, rfl, by omega, by omega, HS0, N8, L8, O8, g8⟩
              case round =>
                clear N8 L8 O8 g8 hl8 q83 HS0
                obtain ⟨i, S, T, hi2, rfl, rfl, rfl, rfl, hS1, hT10, HST, N0, L0, O0, gg0⟩ := hrel
                by_cases hlt2 : i < M
                · obtain ⟨⟨d, ah, nh⟩, hxi⟩ : ∃ y, hs5[i]? = some y := ⟨hs5[i]'(by omega), by simp⟩
                  have hap := L0.hap
                  rw [eH] at hap
                  have hr6 : wr.rangeAt gH (i * 6) (hapA d ah nh).toList := hap.range enH_k hxi
                  have hd := HR.out.2 i d (by rw [List.getElem?_map, hxi]; rfl)
                  have hda := (L0.hsl _ (List.mem_of_getElem? hxi)).rl
                  dsimp only at hda
                  have hz9 := heap_alloc_new wr (.cells hap0 44)
                  have g9 : Below wr.heap.size wr ((wr.alloc (.cells hap0 44)).setRow wr.heap.size (hapA d ah nh)) := below_setRow (bnew0 wr _) (Nat.le_refl _) _
                  have hb9 : ((wr.alloc (.cells hap0 44)).setRow wr.heap.size (hapA d ah nh)).heap[wr.heap.size]? = some (.cells (hapA d ah nh) 44 (0, 0)) := setRow_heap _ _ _ _ _ _ hz9
                  have hon := hap_ones d ah nh
                  have N9 := N0.below g9
                  have L9 := L0.below g9
                  have O9 := O0.below g9
                  have gg9 := bstep gg0 g9
                  have hda9 := hda.below g9
                  have hS2 := seO_step (P := P) (i := k) (jw := jw) (j := i)
                  have hT2 := toO_step (P := P) (i := k) (jw := jw) (j := i)
                  rw [← HST.out.1] at hS2
                  rw [← HST.out.2] at hT2
                  have hTi : T ≤ i := by rw [HST.out.2]; exact toO_le _ _ _ _
                  have hSn : seO P k jw (i + 1) ≤ 1 := seO_le _ _ _ _
                  have hTn : toO P k jw (i + 1) ≤ 10 := by have := toO_le P k jw (i + 1); omega
                  go_upto_region 28 with (first
                    | (with_reducible refine wpList_loadM rowH rfl _ rfl gH (i * 6) rfl (hapA d ah nh) hr6 rfl ?_)
                    | (with_reducible refine wpList_storeR rowH rfl _ _ rfl _ _ rfl rfl hz9 rfl rfl hon ?_))
                  try rw [put_no9]
                  try rw [put_no9]
                  change Code.wp _ _ _ _ ((wr.alloc (.cells hap0 44)).setRow wr.heap.size (hapA d ah nh))
                  generalize (wr.alloc (.cells hap0 44)).setRow wr.heap.size (hapA d ah nh) = W9 at *
                  generalize wr.heap.size = hxb at *
                  have c0 : W9.cell? ⟨hxb, 0, none⟩ = some (.int .u8 (d.1 : Int)) := cell_of_row _ _ 0 _ _ _ hb9
                  have HHD := hid hda9
                  have hcase : (d = (1, F) ∧ i = jw ∧ k = P + 9) ∨ (d = (2, F) ∧ i ≠ jw ∧ k = P + 8) ∨ (d.1 = 0 ∨ d.1 = 3) ∧ ¬ (i = jw ∧ k = P + 9) ∧ ¬ (i ≠ jw ∧ k = P + 8) := by
                    rcases hd with hd | ⟨h1, h2, hd⟩
                    · by_cases hij : i = jw
                      · rw [if_pos hij] at hd
                        by_cases hk9 : k = P + 9
                        · rw [if_pos hk9] at hd; exact .inl ⟨hd, hij, hk9⟩
                        · rw [if_neg hk9] at hd; exact .inr (.inr ⟨.inl (by rw [hd]; rfl), fun e => hk9 e.2, fun e => e.1 hij⟩)
                      · rw [if_neg hij] at hd
                        by_cases hk8 : k = P + 8
                        · rw [if_pos hk8] at hd; exact .inr (.inl ⟨hd, hij, hk8⟩)
                        · rw [if_neg hk8] at hd; exact .inr (.inr ⟨.inl (by rw [hd]; rfl), fun e => hij e.1, fun e => hk8 e.2⟩)
                    · exact .inr (.inr ⟨.inr (by rw [hd]), fun e => h1 e.1, fun e => by omega⟩)
                  clear hd hda hz9 g9 hon hr6 hap hxi N0 L0 O0 gg0 HST hda9
                  rcases hcase with ⟨rfl, hij, hk9⟩ | ⟨rfl, hij, hk8⟩ | ⟨hd, hn1, hn2⟩
                  · rw [if_pos ⟨hij, hk9⟩] at hS2
                    rw [if_neg (fun e => e.1 hij)] at hT2
                    have HST2 : Hid (S + 1 = seO P k jw (i + 1) ∧ T = toO P k jw (i + 1)) := hid ⟨hS2.symm, hT2.symm⟩
                    have hS3 : S + 1 ≤ 1 := by rw [HST2.out.1]; exact hSn
                    have hT3 : T ≤ 10 := by rw [HST2.out.2]; exact hTn
                    clear hS2 hT2 hSn hTn hTi hij hk9
                    have c0 : W9.cell? ⟨hxb, 0, none⟩ = some (.int .u8 1) := c0
                    go_upto_region 36 with fail
                    go_cut [113] (fun s113 wx => s113 = .bool false ∧ Below W9.heap.size W9 wx)
                    case first =>
                      have qp := fun (j : Nat) (v : Value) (h : (hapA (1, F) ah nh)[j]? = some v) => cell_regrown (w := W9) (a := ⟨hxb, j, none⟩) (v := v) (by rw [cell_of_row _ _ j _ _ _ hb9]; exact h)
                      have hqr := O9.range enF_k HQ.out
                      have qq := fun (j : Nat) (v : Value) (h : (enF (F, (fa, fc)))[j]? = some v) => cell_regrown (w := W9) (a := ⟨sg, b * 5 + j, none⟩) (v := v) (hqr j v h)
                      have x1 := qp 1 (.int .u32 (F.id : Int)) rfl
                      have x2 := qp 2 (.bool F.ext) rfl
                      have x3 := qp 3 (.bool F.rem) rfl
                      have x4 := qp 4 (.int .u8 (F.dlc : Int)) rfl
                      have x5 := qp 5 (.slice ah F.data.length nh) rfl
                      have y0 : ∀ d os, (grow (redrawn W9 d) os).cell? ⟨sg, b * 5, none⟩ = some (.int .u32 (F.id : Int)) := qq 0 _ rfl
                      have y1 := qq 1 (.bool F.ext) rfl
                      have y2 := qq 2 (.bool F.rem) rfl
                      have y3 := qq 3 (.int .u8 (F.dlc : Int)) rfl
                      have y4 := qq 4 (.slice fa F.data.length fc) rfl
                      have hdF9 := (HFG.out _ (List.mem_of_getElem? HQ.out)).2.below gg9
                      have hK := fun d os => Calls.regrown_of (same9 (grow (redrawn W9 d) os) F ah fa nh fc (HHD.out.below (below_regrown W9 d os)) (hdF9.below (below_regrown W9 d os)))
                      clear qp qq hqr hb9 hdF9 N9 L9 O9 gg9 c0
                      refine wp_region_quiet_below (by kernel_rfl) (by kernel_rfl) ?_
                      repeat (go_big_quiet_step (first | (go_at_call 12; with_reducible exact hK _ _)))
                      refine wpQuiet_nil ?_
                      intro w9 hw9
                      have gg : Below W9.heap.size W9 w9 := by obtain ⟨p9, rfl⟩ := hw9; exact below_regrown _ _ _
                      clear hw9
                      go_wp2_with fail
                      go_meet
                      exact ⟨rfl, gg⟩
                    case rest =>
                    obtain ⟨rfl, gx9⟩ := hcut
                    go_wp2_with fail
                    go_roundg (M - (i + 1))
                    case measure => go_light; omega
                    case rel => go_light; exact ⟨i + 1, S + 1, T, by omega, rfl, by go_num, by go_num, by go_num, hS3, hT3, HST2, N9.below gx9, L9.below gx9, O9.below gx9, bstep gg9 gx9⟩
                  · rw [if_pos ⟨hij, hk8⟩] at hT2
                    rw [if_neg (fun e => hij e.1)] at hS2
                    have HST2 : Hid (S = seO P k jw (i + 1) ∧ T + 1 = toO P k jw (i + 1)) := hid ⟨hS2.symm, hT2.symm⟩
                    have hS3 : S ≤ 1 := by rw [HST2.out.1]; exact hSn
                    have hT3 : T + 1 ≤ 10 := by rw [HST2.out.2]; exact hTn
                    clear hS2 hT2 hSn hTn hTi hij hk8
                    have c0 : W9.cell? ⟨hxb, 0, none⟩ = some (.int .u8 2) := c0
                    go_upto_region 36 with fail
                    go_cut [113] (fun s113 wx => s113 = .bool false ∧ Below W9.heap.size W9 wx)
                    case first =>
                      have qp := fun (j : Nat) (v : Value) (h : (hapA (2, F) ah nh)[j]? = some v) => cell_regrown (w := W9) (a := ⟨hxb, j, none⟩) (v := v) (by rw [cell_of_row _ _ j _ _ _ hb9]; exact h)
                      have hqr := O9.range enF_k HQ.out
                      have qq := fun (j : Nat) (v : Value) (h : (enF (F, (fa, fc)))[j]? = some v) => cell_regrown (w := W9) (a := ⟨sg, b * 5 + j, none⟩) (v := v) (hqr j v h)
                      have x1 := qp 1 (.int .u32 (F.id : Int)) rfl
                      have x2 := qp 2 (.bool F.ext) rfl
                      have x3 := qp 3 (.bool F.rem) rfl
                      have x4 := qp 4 (.int .u8 (F.dlc : Int)) rfl
                      have x5 := qp 5 (.slice ah F.data.length nh) rfl
                      have y0 : ∀ d os, (grow (redrawn W9 d) os).cell? ⟨sg, b * 5, none⟩ = some (.int .u32 (F.id : Int)) := qq 0 _ rfl
                      have y1 := qq 1 (.bool F.ext) rfl
                      have y2 := qq 2 (.bool F.rem) rfl
                      have y3 := qq 3 (.int .u8 (F.dlc : Int)) rfl
                      have y4 := qq 4 (.slice fa F.data.length fc) rfl
                      have hdF9 := (HFG.out _ (List.mem_of_getElem? HQ.out)).2.below gg9
                      have hK := fun d os => Calls.regrown_of (same9 (grow (redrawn W9 d) os) F ah fa nh fc (HHD.out.below (below_regrown W9 d os)) (hdF9.below (below_regrown W9 d os)))
                      clear qp qq hqr hb9 hdF9 N9 L9 O9 gg9 c0
                      refine wp_region_quiet_below (by kernel_rfl) (by kernel_rfl) ?_
                      repeat (go_big_quiet_step (first | (go_at_call 12; with_reducible exact hK _ _)))
                      refine wpQuiet_nil ?_
                      intro w9 hw9
                      have gg : Below W9.heap.size W9 w9 := by obtain ⟨p9, rfl⟩ := hw9; exact below_regrown _ _ _
                      clear hw9
                      go_wp2_with fail
                      go_meet
                      exact ⟨rfl, gg⟩
                    case rest =>
                    obtain ⟨rfl, gx9⟩ := hcut
                    go_wp2_with fail
                    go_roundg (M - (i + 1))
                    case measure => go_light; omega
                    case rel => go_light; exact ⟨i + 1, S, T + 1, by omega, rfl, by go_num, by go_num, by go_num, hS3, hT3, HST2, N9.below gx9, L9.below gx9, O9.below gx9, bstep gg9 gx9⟩
                  · rw [if_neg hn1] at hS2
                    rw [if_neg hn2] at hT2
                    have HST2 : Hid (S = seO P k jw (i + 1) ∧ T = toO P k jw (i + 1)) := hid ⟨hS2.symm, hT2.symm⟩
                    clear hS2 hT2 hn1 hn2 hSn hTn hb9 hTi
                    generalize d.1 = what at *
                    rcases hd with rfl | rfl
                    · go_wp2_with fail
                      go_roundg (M - (i + 1))
                      case measure => go_light; omega
                      case rel => go_light; exact ⟨i + 1, S, T, by omega, rfl, by go_num, rfl, rfl, hS1, hT10, HST2, N9, L9, O9, gg9⟩
                    · go_wp2_with fail
                      go_roundg (M - (i + 1))
                      case measure => go_light; omega
                      case rel => go_light; exact ⟨i + 1, S, T, by omega, rfl, by go_num, rfl, rfl, hS1, hT10, HST2, N9, L9, O9, gg9⟩
                · obtain rfl : M = i := by omega
                  have HN9 : Hid (NdR F jw (k + 1) gx (cts qs5)) := hid HR.out.1
                  obtain ⟨hSe, hTe⟩ := HST.out
                  unfold seO at hSe
                  unfold toO at hTe
                  rw [if_pos hjM] at hTe
                  have q0 := (bx3 N0.box).1
                  have hzz : Hid (z + 1 = K + (k + 1)) := hid (by rw [HZ.out]; omega)
                  have hz3 : z + 1 ≤ 2000 := by have := HZ.out; omega
                  have N9 : Nb wr gB M ((z + 1 : Nat) : Int) s5 qs5 (List.replicate M false) := by have := N0; rwa [show ((z : Int) + 1) = ((z + 1 : Nat) : Int) by omega] at this
                  have hPN := HPN.out
                  clear HR HST N0 L0 HZ
                  by_cases h9 : k = P + 9
                  · rw [if_pos ⟨h9, hjM⟩] at hSe
                    rw [if_neg (by omega)] at hTe
                    subst hSe hTe
                    have qa : ((k : Int) == (N : Int) - 1) = true := by simp; omega
                    have qb : ((k : Int) == (N : Int) - 2) = false := by simp; omega
                    clear hPN h9
                    go_wp2_with fail
                    go_roundg (K3 - (k + 1))
                    case measure => go_light; omega
                    case rel => go_light; exact ⟨k + 1, z + 1, s5, qs5, by omega, rfl, by go_num, hz3, hzz, N9, O0, F8, HN9, gg0⟩
                  · rw [if_neg (fun e => h9 e.1)] at hSe
                    have qa : ((k : Int) == (N : Int) - 1) = false := by simp; omega
                    by_cases h8 : k = P + 8
                    · rw [if_pos h8] at hTe
                      subst hSe
                      have qb : ((k : Int) == (N : Int) - 2) = true := by simp; omega
                      have qb2 : ((k : Int) != (N : Int) - 2) = false := by simp; omega
                      have qc : ((T : Int) != 0) = true := by simp; omega
                      have qd : ((T : Int) != (M : Int) - 1) = false := by simp; omega
                      clear hPN h9 h8 hTe
                      go_wp2_with fail
                      go_roundg (K3 - (k + 1))
                      case measure => go_light; omega
                      case rel => go_light; exact ⟨k + 1, z + 1, s5, qs5, by omega, rfl, by go_num, hz3, hzz, N9, O0, F8, HN9, gg0⟩
                    · rw [if_neg h8] at hTe
                      subst hSe hTe
                      have qb : ((k : Int) == (N : Int) - 2) = false := by simp; omega
                      clear hPN h9 h8
                      go_wp2_with fail
                      go_roundg (K3 - (k + 1))
                      case measure => go_light; omega
                      case rel => go_light; exact ⟨k + 1, z + 1, s5, qs5, by omega, rfl, by go_num, hz3, hzz, N9, O0, F8, HN9, gg0⟩
            · obtain rfl : K3 = k := by omega
              have hz := HZ.out
              subst hz
              clear HZ hz2
              have hNO : NO (gx.set jw none) (cts ps3) := by
                have := HN3.out
                rw [show K3 = (putL (boL F)).length + 13 by have := HPN.out; omega] at this
                exact this.done HJW.out
              have HNO2 := hid hNO
              have HGU2 : Hid (GsU (gx.set jw none)) := hid (HGU.out.set jw)
              obtain ⟨b1, hb1⟩ : ∃ b1, b1 = b + 1 := ⟨_, rfl⟩
              have ib1 : (b : Int) + 1 = (b1 : Int) := by omega
              have HLF2 : Hid ((gx.set jw none).filterMap id = (L.take b ++ L.drop b1).map Prod.fst) := hid (by
                rw [HJS.out, HLF.out, List.eraseIdx_eq_take_drop_succ, List.map_append, List.map_take, List.map_drop, hb1])
              have HLl2 : Hid ((L.take b ++ L.drop b1).length = nL - 1) := hid (by rw [List.length_append, List.length_take, List.length_drop, HLl.out]; omega)
              have HLS2 : Hid (∀ p ∈ L.take b ++ L.drop b1, p ∈ gs) := hid fun p hp => HLS.out p ((List.mem_append.1 hp).elim List.mem_of_mem_take List.mem_of_mem_drop)
              have cL1 := O0.cap
              have hcT := cutTo_own (P := Tryz.prog) (g := sg) elF9 .i64 cL1 (show b ≤ nL by omega)
              obtain ⟨aF, hcF, hRF⟩ := cutFrom_eq elF9 (O0.rk enF_k) .i64 b1 (by omega)
              have hd5 : Below wr.heap.size wr wr.drew := (Below.refl _ _).drew
              have HS : Below wr.heap.size wr wr.drew := hd5
              have lS := (O0.ltB rfl).2
              have hown : OK enF 5 34 (gB + 1) wr.drew (some ⟨sg, 0, none⟩) b cL (L.take b) := (O0.takeB enF_k (by omega)).below hd5
              have hsrc : RK enF 5 wr.drew aF (nL - b1) (cL - b1) (L.drop b1) := hRF.below hd5
              have hbs : gB + 1 ≤ wr.drew.heap.size := by have := N0.lt; show gB + 1 ≤ wr.heap.size; omega
              have HB1 := hid hb1
              have hb1l : 0 < b1 ∧ b1 ≤ nL ∧ b + (nL - b1) = nL - 1 := by omega
              clear hNO HN3 hRF hb1
              go_upto_region 42 with fail
              refine Rest.begin (S := fun w' => Below wr.heap.size wr w') (X := [7]) (by kernel_rfl) ?_
              change Rest _ _ _ _ _ _ _ _ _ wr.drew
              refine Rest.take (i := 0) (v := .slice (some ⟨sg, 0, none⟩) nL cL) rfl (by kernel_rfl) (by kernel_rfl) (by kernel_rfl) (by kernel_rfl) (fun _ _ _ h => h) (.inl HS) (Or.inl ⟨by simp [Region.wanted], ?_⟩) ?_
              · intro w; go_simp
              refine Rest.take (i := 1) (v := .int .i64 (b : Int)) rfl (by kernel_rfl) (by kernel_rfl) (by kernel_rfl) (by kernel_rfl) (fun _ _ _ h => h) (.inl HS) (Or.inl ⟨by simp [Region.wanted], ?_⟩) ?_
              · intro w; go_simp
              refine Rest.take (i := 3) (v := .slice (some ⟨sg, 0, none⟩) nL cL) rfl (by kernel_rfl) (by kernel_rfl) (by kernel_rfl) (by kernel_rfl) (fun _ _ _ h => h) (.inl HS) (Or.inl ⟨by simp [Region.wanted], ?_⟩) ?_
              · intro w; go_simp
              refine Rest.take (i := 4) (v := .int .i64 (b : Int)) rfl (by kernel_rfl) (by kernel_rfl) (by kernel_rfl) (by kernel_rfl) (fun _ _ _ h => h) (.inl HS) (Or.inl ⟨by simp [Region.wanted], ?_⟩) ?_
              · intro w; go_simp
              refine Rest.take (i := 5) (v := .int .i64 (b1 : Int)) rfl (by kernel_rfl) (by kernel_rfl) (by kernel_rfl) (by kernel_rfl) (fun _ _ _ h => h) (.inl HS) (Or.inl ⟨by simp [Region.wanted], ?_⟩) ?_
              · intro w; go_simp; exact IntWalk.i64_in _ (by omega)
              refine Rest.takeS (i := 2) (v := .slice (some ⟨sg, 0, none⟩) b cL) rfl (by kernel_rfl) (by kernel_rfl) (by kernel_rfl) (by kernel_rfl) (fun _ _ _ h => h) HS (.inl ⟨by simp [Region.wanted], ?_⟩) ?_
              · intro w' hw; have hx := hcT w'; go_simp
              refine Rest.takeS (i := 6) (v := .slice aF (nL - b1) (cL - b1)) rfl (by kernel_rfl) (by kernel_rfl) (by kernel_rfl) (by kernel_rfl) (fun _ _ _ h => h) HS (.inl ⟨by simp [Region.wanted], ?_⟩) ?_
              · intro w' hw; have hx := hcF w'; go_simp
              refine Rest.one (i := 7) (by kernel_rfl) rfl (fun Kx hK => ?_)
              with_reducible refine step_appgKk elF9 enF_k ?sg1 (.tmp 156) (.tmp 160) ?so1 ?ss1 hown ?sx1 hsrc ?sl1 ?sb1 hbs ?sk1
              case sg1 => rfl
              case so1 => rfl
              case ss1 => simp [Act.eval, Act.put]
              case sx1 => simp [Act.eval, Act.put]
              case sl1 => omega
              case sb1 => omega
              case sk1 =>
              rintro w7 a7 c7 o7 g7 k7 z7
              refine hK _ _ ⟨.inr (thru_of (by kernel_rfl)), Rest.of_any _ _ _ _ (thru_of (by kernel_rfl)) ?_⟩; clear hK Kx
              rw [hb1l.2.2] at o7 ⊢
              have Nn : Nb w7 gB M ((K + K3 : Nat) : Int) s3 ps3 (List.replicate M false) := N0.keptF F0.out (by omega) fun q hq hne => (k7 q hq (fun x hx e => by cases hx; exact hne e.symm)).1
              have Fn : Hid (∀ q, a7 = some q → NtF q.block s3 ps3) := hid fun q hq => by
                by_cases e : q.block = sg
                · rw [e]; exact F0.out
                · by_cases hlt : q.block < wr.heap.size
                  · exact absurd rfl ((k7 q.block hlt (fun x hx e2 => by cases hx; exact e e2.symm)).2 q hq)
                  · exact N0.own.freeHi (by omega)
              have ggn : Below w.heap.size w w7 := gg0.trans ((hd5.mono gg0.size).trans (g7.mono (by omega)))
              clear HS hd5 hown hsrc hbs g7 k7 z7 hcT hcF N0 F0 gg0 O0
              refine wpAny_take (i := 8) (v := .slice a7 (nL - 1) c7) rfl (by kernel_rfl) (by kernel_rfl) (by kernel_rfl) (fun _ _ _ h => h) (Or.inl ⟨by simp [Region.wanted], ?_⟩) ?_
              · intro w; go_simp
              refine wpAny_done (by kernel_rfl) ?_ _
              go_wp2
              go_roundg (nL - 1)
              case measure => omega
              case rel => exact ⟨K + K3, s3, ps3, gx.set jw none, a7, nL - 1, c7, L.take b ++ L.drop b1, rfl, rfl, HLl2, by omega, by omega, Nn, o7, Fn, HNO2, HGU2, HLF2, HLS2, ggn⟩
    · obtain rfl : nL = 0 := by omega
      have hL0 : L = [] := List.eq_nil_of_length_eq_zero HLl.out
      have HQ0 := hid (HNO.out.quiet (by rw [HLF.out, hL0]; rfl))
      have q0 := (bx3 N0.box).1
      obtain ⟨gN, eN, _, _⟩ := N0.own.nod.addr (by rw [N0.len]; omega)
      rw [eN] at q0
      obtain ⟨wO, rfl⟩ : ∃ wO, wO = wr := ⟨_, rfl⟩
      clear hL0 HNO HGU HLF HLS F0 O0 hn0 HLl
      go_wp2_with fail
      go_loopg [165] M (fun gn s165 wr => ∃ (i : Nat), i ≤ M ∧ gn = M - i ∧ s165 = .int .i64 (i : Int) ∧ Below wO.heap.size wO wr)
      case atStart => exact ⟨0, by omega, by omega, rfl, Below.refl _ _⟩
      case round =>
        obtain ⟨i, hi, rfl, rfl, gk⟩ := hrel
        clear q0
        by_cases hlt : i < M
        · obtain ⟨p, hp⟩ : ∃ p, ps[i]? = some p := ⟨_, List.getElem?_eq_getElem (by rw [N0.len]; exact hlt)⟩
          obtain ⟨e1, e2, _⟩ := HQ0.out i p.1 (cts_at hp)
          have hnod := (N0.below gk).own.nod
          rw [eN] at hnod
          have hr6 : wr.rangeAt gN (i * 26) (ctA p.1 p.2).toList := hnod.range enC_k hp
          have hz9 := heap_alloc_new wr (.cells ctZ 52)
          have g9 : Below wr.heap.size wr ((wr.alloc (.cells ctZ 52)).setRow wr.heap.size (ctA p.1 p.2)) := below_setRow (bnew0 wr _) (Nat.le_refl _) _
          have hb9 : ((wr.alloc (.cells ctZ 52)).setRow wr.heap.size (ctA p.1 p.2)).heap[wr.heap.size]? = some (.cells (ctA p.1 p.2) 52 (0, 0)) := setRow_heap _ _ _ _ _ _ hz9
          have hon := ct_ones p.1 p.2
          clear hp hnod
          go_upto_region 46 with (first
            | (with_reducible refine wpList_loadM rowC rfl _ rfl gN (i * 26) rfl (ctA p.1 p.2) hr6 rfl ?_)
            | (with_reducible refine wpList_storeR rowC rfl _ _ rfl _ _ rfl rfl hz9 rfl rfl hon ?_))
          have gk9 := gk.trans (g9.mono gk.size)
          try rw [put_no9]
          try rw [put_no9]
          change Code.wp _ _ _ _ ((wr.alloc (.cells ctZ 52)).setRow wr.heap.size (ctA p.1 p.2))
          generalize (wr.alloc (.cells ctZ 52)).setRow wr.heap.size (ctA p.1 p.2) = W9 at *
          generalize wr.heap.size = xb at *
          have hcell := fun (j : Nat) (v : Value) (h : (ctA p.1 p.2)[j]? = some v) => (cell_of_row W9 xb j _ _ _ hb9).trans h
          have c0 : W9.cell? ⟨xb, 0, none⟩ = some (.int .u8 0) := hcell 0 _ (by show some (Value.int .u8 (p.1.ph : Int)) = _; rw [e1]; rfl)
          have hr3 : W9.rangeAt xb 2 [.int .i64 0, .int .i64 0, .bool false, .int .i64 0, .int .i64 0] := fun j v hv => by
            match j with
            | 0 => cases hv; exact hcell 2 _ (by show some (Value.int .i64 p.1.cf.t) = _; rw [e2]; rfl)
            | 1 => cases hv; exact hcell 3 _ (by show some (Value.int .i64 p.1.cf.r) = _; rw [e2]; rfl)
            | 2 => cases hv; exact hcell 4 _ (by show some (Value.bool p.1.cf.o) = _; rw [e2]; rfl)
            | 3 => cases hv; exact hcell 5 _ (by show some (Value.int .i64 p.1.cf.n) = _; rw [e2]; rfl)
            | 4 => cases hv; exact hcell 6 _ (by show some (Value.int .i64 p.1.cf.m) = _; rw [e2]; rfl)
            | j + 5 => cases hv
          clear hcell hb9 hz9 g9 hon hr6 gk e1 e2
          go_wp2_with (with_reducible refine wpList_loadM rowCf9 rfl _ rfl xb 2 rfl #[.int .i64 0, .int .i64 0, .bool false, .int .i64 0, .int .i64 0] hr3 rfl ?_)
          go_roundg (M - (i + 1))
          case measure => go_light; omega
          case rel => go_light; exact ⟨i + 1, by omega, rfl, by go_num, gk9⟩
        · obtain rfl : M = i := by omega
          have N1 := N0.below gk
          have hb1 := N1.box
          have gg1 := bstep gg0 gk
          have hQu := quiet_any wr s ps (List.replicate M false) M (K : Int) N1.r N1.len (by simp) (by omega)
          have hqa : quA (cts ps) (List.replicate M false) = true := quA_true.2 fun j c x hc hx => by
            obtain ⟨e1, _, e3⟩ := HQ0.out j c hc
            rw [List.getElem?_replicate] at hx
            split at hx
            · cases hx
              unfold quN
              rw [e1, e3]; decide
            · cases hx
          rw [hqa] at hQu
          clear HQ0 hqa N0 N1 gk gg0
          go_wp2_with (first
            | (with_reducible refine wpList_loadR rowN rfl _ rfl _ rfl hb1 rfl ?_)
            | (go_at_call 13; (with_reducible refine hQu.mono ?_); rintro e w4 ⟨rfl, g4⟩)
            | (go_at_call 14; (with_reducible refine (awake9_any _).mono ?_); rintro e w5 ⟨rfl, g5⟩))
          go_ret
          exact ⟨rfl, bstep (bstep gg1 g4) g5⟩
end Go.Proofs.YtpnibaldmagllaaGreat
