/-
  The walk of the statement NetOwn (under way).
-/
import Derived.Test.YtgpmhmdofefdcaaGreatB9zc
import Derived.WalkMore
import Derived.Laws.Small
namespace Go.Proofs.YtgpmhmdofefdcaaGreat
open Go.RowKit Go.Sort
set_option linter.unusedVariables false
set_option linter.unusedSimpArgs false

set_option maxRecDepth 100000 in
set_option maxHeartbeats 16000000 in
theorem netOwn_walk (w : World) (a0 : Option Addr) (n0 c0' : Nat) (fs : List Ff) (y1 : Nat) (nd : Int) (id : Nat) (ext rem : Bool) (dlc : Nat) (a2 : Option Addr) (n2 c2 : Nat) (fl : List UInt8) (hf : FrR w a0 n0 c0' fs) (h1 : y1 ≤ 255) (hnd : -9223372036854775808 ≤ nd ∧ nd ≤ 9223372036854775807)
    (hi : id < 4294967296) (hdl : dlc < 256) (hfl : RL bv w a2 n2 c2 fl) (hd : ∀ p ∈ fs, p.1.data.length ≤ 9223372036854775807) (m0 : n0 ≤ 9223372036854775807) (m2 : n2 ≤ 9223372036854775807) :
    Calls Tryz.prog 3 #[.slice a0 n0 c0', .int .u8 (y1 : Int), .int .i64 nd, .agg #[.int .u32 (id : Int), .bool ext, .bool rem, .int .u8 (dlc : Int), .slice a2 n2 c2]] w fun e w' => e = .returned (.bool true) ∧ Below w.heap.size w w' := by
  obtain ⟨K, eK, hK⟩ : ∃ K : Nat, (y1 : Int) % 101 = (K : Int) ∧ K ≤ 100 := ⟨y1 % 101, by omega, by omega⟩
  obtain ⟨W0, hW0, b7, gg0⟩ : ∃ w0, Hid (w.alloc (.cells #[.int .u32 (id : Int), .bool ext, .bool rem, .int .u8 (dlc : Int), .slice a2 n2 c2] 26) = w0) ∧ w0.heap[w.heap.size]? = some (.cells #[.int .u32 (id : Int), .bool ext, .bool rem, .int .u8 (dlc : Int), .slice a2 n2 c2] 26 (0, 0)) ∧ Below w.heap.size w w0 := ⟨_, rfl, heap_alloc_new w _, bnew0 w _⟩
  have hf0 : FrR W0 a0 n0 c0' fs := ⟨hf.row.below gg0, fun p hp => (hf.dat p hp).below gg0, hf.id, hf.dl⟩
  have hA : Calls Tryz.prog 5 #[.slice a0 n0 c0', .int .i64 4] W0 (ApR W0 fs 4) := apart9_any W0 a0 n0 c0' fs hf0 4 (by omega) m0
  have HF := hid hf0
  have HFL := hid hfl
  clear hf hfl hd h1 hf0
  go_enter Tryz.func3, Tryz.ntmps3
  go_upto_region 1 with fail
  rw [hW0.out]
  clear hW0
  go_upto_region 2 with (go_at_call 5; (with_reducible refine hA.mono ?_); rintro e w1 ⟨a5, c5, gs, rfl, O1, A1, hg8, g1⟩)
  obtain ⟨n5, hn5⟩ : ∃ n5, gs.length = n5 := ⟨_, rfl⟩
  rw [hn5] at O1 hg8 ⊢
  have HGL := hid hn5
  have HAP := hid A1
  obtain ⟨M, hm0⟩ : ∃ M : Nat, M = max n5 2 := ⟨_, rfl⟩
  have hmx : ∀ ts t w', (Builtin.max_ ts t #[.int .i64 (n5 : Int), .int .i64 2]).run Tryz.prog w' = .ok (.int .i64 (M : Int)) w' := fun ts t w' => by
    rw [run_max_int2]; congr 2; split <;> omega
  have hMb : 2 ≤ M ∧ M ≤ 4 ∧ n5 ≤ M := by omega
  have hFr : FrR w1 a5 n5 c5 gs := ⟨O1.rk enF_k, fun p hp => (HF.out.dat p (A1.sub p hp)).below g1, fun p hp => HF.out.id p (A1.sub p hp), fun p hp => HF.out.dl p (A1.sub p hp)⟩
  have hGv := given_any w1 a5 c5 n5 M gs hFr hMb.1 (by omega) hMb.2.2
  replace b7 := bx_below b7 g1
  have gg1 := bstep gg0 g1
  clear hn5 A1 hA hm0 hFr g1 gg0
  go_upto_region 3 with (first
    | (go_at_call 6; (with_reducible refine hGv.mono ?_); rintro e w2 ⟨s2, b, rfl, hb, hb2, g2⟩
       obtain rfl : b = true := hb.2 fun p hp => HAP.out.good p hp
       obtain ⟨ps2, k1, k2, o2⟩ := hb2 rfl
       have hz2 := heap_alloc_new w2 (.cells ntZ 31)
       have gg2 := bstep gg1 g2
       clear hb hb2)
    | (with_reducible refine wpList_storeR rowN rfl _ _ rfl _ _ rfl rfl hz2 rfl rfl (nt_ones _ _ _ _) ?_))
  have N3 := Nb.new (z := 0) o2 k1 (List.length_replicate ..) ntZ
  have gg3 : Below w.heap.size w ((w2.alloc (.cells ntZ 31)).setRow w2.heap.size (ntA s2 M M 0)) := below_setRow (bnew gg2 _) gg2.size _
  have HNW : Hid (NwI 0 (cts ps2)) := hid (by
    rw [k2]
    exact NwI.start fun F hF => by
      obtain ⟨q, hq, rfl⟩ := List.mem_map.1 hF
      exact HAP.out.good q hq)
  have lb7 := bx_lt b7
  have b8 : ((w2.alloc (.cells ntZ 31)).setRow w2.heap.size (ntA s2 M M 0)).heap[w.heap.size]? = _ := (setRow_other _ _ _ _ (by have := g2.size; omega)).trans (bx_alloc _ (bx_below b7 g2))
  have lA : w.heap.size < w2.heap.size := by have := g2.size; omega
  obtain ⟨gA, hgA⟩ : ∃ g, g = w2.heap.size := ⟨_, rfl⟩
  try rw [put_no9]
  try rw [put_no9]
  change Code.wp _ _ _ _ ((w2.alloc (.cells ntZ 31)).setRow w2.heap.size (ntA s2 M M 0))
  generalize (w2.alloc (.cells ntZ 31)).setRow w2.heap.size (ntA s2 M M 0) = W3 at *
  rw [← hgA] at N3 lA ⊢
  clear hgA hz2 gg2 o2 k1 k2 hGv g2 O1 hmx b7 lb7 gg1 HGL HAP HF
  go_wp2_with fail
  rw [eK]
  replace eK := hid eK
  go_loopg [43] K (fun gn s43 wr => ∃ (t : Nat) (sA : Na) (pA : List Nd), t ≤ K ∧ gn = K - t ∧ s43 = .int .u8 (t : Int) ∧ Nb wr gA M (t : Int) sA pA (List.replicate M false) ∧ Hid (NwI t (cts pA)) ∧ wr.heap[w.heap.size]? = some (.cells #[.int .u32 (id : Int), .bool ext, .bool rem, .int .u8 (dlc : Int), .slice a2 n2 c2] 26 (0, 0)) ∧ Below w.heap.size w wr)
  case atStart => exact ⟨0, s2, ps2, by omega, by omega, rfl, N3, HNW, b8, gg3⟩
  case round =>
    clear N3 HNW b8 gg3
    obtain ⟨t, sA, pA, ht, rfl, rfl, N0, HNW, b8, gg0⟩ := hrel
    by_cases hlt : t < K
    · as_aux_lemma =>
        have hlA := N0.len
        have hclA : (cts pA).length = M := by rw [cts_len, hlA]
        have hokA : ∀ p ∈ pA, StepOK p.1 := fun p hp => HNW.out.ok (by omega) _ (List.mem_map_of_mem hp)
        obtain ⟨x, hx⟩ : ∃ x, x = (dvL (cts pA) (List.replicate M false)).all (fun b => b) := ⟨_, rfl⟩
        have hSA := netStep_any wr sA pA (List.replicate M false) M (t : Int) none 0 0 [] N0.r hlA (by simp) (by omega) hokA (RL.nil _ _ _ _) (by omega) (fun _ h => (by cases h)) (by omega) (by omega) x hx
        have hbA := N0.box
        have lA0 := N0.lt
        clear hx hokA
        go_upto_region 8 with (first
          | (with_reducible refine wpList_loadR rowN rfl _ rfl _ rfl hbA rfl ?_)
          | (go_at_call 7; (with_reducible refine hSA.mono ?_); rintro e w5 ⟨s5, a5', rfl, q5, h5, r1, r2, r3, r4, o5, L5, g5⟩
             have hbA5 := bx_below hbA g5)
          | (with_reducible refine wpList_storeR rowN rfl _ _ rfl _ _ rfl rfl hbA5 rfl rfl (nt_ones _ _ _ _) ?_))
        have N6 := Nb.put (z := (t : Int) + 1) hbA5 o5 (o5.freeLo lA0) r1 (by simp)
        have gg6 : Below w.heap.size w (w5.setRow gA (ntA s5 M M ((t : Int) + 1))) := below_setRow (bstep gg0 g5) (by omega) _
        have b9 : (w5.setRow gA (ntA s5 M M ((t : Int) + 1))).heap[w.heap.size]? = _ := (setRow_other _ _ _ _ (by omega)).trans (bx_below b8 g5)
        have HNW9 : Hid (NwI (t + 1) (cts q5)) := hid (HNW.out.step _ _ _ (by rw [cts_len, r1, hclA]) r2)
        clear hSA hbA hbA5 o5 L5 r1 r2 r3 r4 hclA hlA N0 b8 gg0 HNW
        go_wp2_with fail
        go_roundg (K - (t + 1))
        case measure => omega
        case rel => exact ⟨t + 1, s5, q5, by omega, rfl, by go_num, by simpa using N6, HNW9, b9, gg6⟩
    · obtain rfl : K = t := by omega
      clear hlt ht
      have hlA := N0.len
      have hbA := N0.box
      have hown := ok_lit enC_k 54 wr.heap.size wr ([] : List Nd) #[] 0 rfl rfl (by omega) (Nat.le_refl _)
      have hsrc := N0.r.nod.below (bnew0 wr (.cells #[] 54))
      have hba : wr.heap.size ≤ (wr.alloc (.cells #[] 54)).heap.size := by rw [heap_size_alloc]; omega
      obtain ⟨ya0, ya1, ya2⟩ := bx3c (show (wr.alloc (.cells #[] 54)).heap[gA]? = some (.cells #[.slice sA.na M sA.nc, .slice sA.ca M sA.cc, .int .i64 (K : Int)] 31 (0, 0)) from bx_alloc _ hbA)
      rw [hlA] at hsrc
      go_upto_region 10 with (with_reducible refine wpList_appgL0 elC enC_k rfl _ _ rfl rfl hown rfl hsrc (by omega) (by omega) hba ?_; intro w7 a7 c7 o7 g7 k7 z7)
      rw [Nat.zero_add, List.nil_append] at o7
      clear ya0 ya1 ya2 hown hsrc hba
      have hnb3 : ∀ q, q < wr.heap.size → NB (some ⟨wr.heap.size, 0, none⟩) q := fun q hq x hx e => by cases hx; dsimp only at e; omega
      have k7' : ∀ q, q < wr.heap.size → w7.heap[q]? = wr.heap[q]? ∧ NB a7 q := fun q hq => ⟨(k7 q (by rw [heap_size_alloc]; omega) (hnb3 q hq)).1.trans (Below.heap_alloc _ _ _ hq), (k7 q (by rw [heap_size_alloc]; omega) (hnb3 q hq)).2⟩
      have gW7 : Below wr.heap.size wr w7 := ⟨g7.os, g7.tape, g7.output, by rw [heap_size_alloc] at z7; omega, fun q hq => (k7' q hq).1⟩
      have N7 := N0.below gW7
      have gg7 := bstep gg0 gW7
      have b7 := bx_below b8 gW7
      have lAr := N0.lt
      have HNB : Hid (∀ q, q < wr.heap.size → NB a7 q) := hid fun q hq => (k7' q hq).2
      clear hnb3 k7' gW7 N0 gg0 b8 hbA k7 z7 g7
      obtain ⟨ya0, ya1, ya2⟩ := bx3c (show w7.heap[gA]? = some (.cells #[.slice sA.na M sA.nc, .slice sA.ca M sA.cc, .int .i64 (K : Int)] 31 (0, 0)) from N7.box)
      have hAm := among9_any w7 nd hnd M (by omega) (by omega)
      go_upto_region 11 with (go_at_call 8; (with_reducible refine hAm.mono ?_); rintro e w8 ⟨⟨k, hk, rfl⟩, g8⟩)
      have N8 := N7.below g8
      have gg8 := bstep gg7 g8
      have b8 := bx_below b7 g8
      have o8 := o7.below g8
      clear hAm ya0 ya1 ya2 N7 gg7 b7 o7 g8
      have hbA := N8.box
      have hclA : (cts pA).length = M := by rw [cts_len, hlA]
      have hokA : ∀ p ∈ pA, StepOK p.1 := fun p hp => HNW.out.ok (by omega) _ (List.mem_map_of_mem hp)
      have hshA : ∀ p ∈ pA, Shr p.1 := fun p hp => ⟨(hokA p hp).dl, (hokA p hp).wl, (hokA p hp).tl⟩
      have lit1 := ol_lit zv 3 0 w8 [(0 : Int)] #[.int .i64 0] 1 rfl rfl (by omega) (by omega)
      obtain ⟨x, hx⟩ : ∃ x, x = (dvL (cts pA) (List.replicate M false)).all (fun b => b) := ⟨_, rfl⟩
      have hSA := netStep_any (w8.alloc (.cells #[.int .i64 0] 3)) sA pA (List.replicate M false) M (K : Int) (some ⟨w8.heap.size, 0, none⟩) 1 1 [0] (N8.r.below (bnew0 _ _)) hlA (by simp) (by omega) hokA lit1.rl (by omega) (fun y hy => by rw [List.mem_singleton] at hy; omega) (by omega) (by omega) x hx
      have hbA1 : (w8.alloc (.cells #[.int .i64 0] 3)).heap[gA]? = some (.cells (ntA sA M M (K : Int)) 31 (0, 0)) := bx_alloc _ hbA
      clear hx hokA lit1
      go_upto_region 12 with (first
        | (with_reducible refine wpList_loadR rowN rfl _ rfl _ rfl hbA rfl ?_)
        | (go_at_call 7; (with_reducible refine hSA.mono ?_); rintro e w9 ⟨s9, a9, rfl, q9, h9, r1, r2, r3, r4, o9, L9, g9⟩
           have T9 := two9 w9 s9 a9 M ((K : Int) + 1) x
           obtain ⟨tz, tz1, tl1, tn2, tl2, tb⟩ := T9)
        | (with_reducible refine wpList_storeR rowN rfl _ _ rfl _ _ rfl rfl tz1 rfl rfl (nt_ones _ _ _ _) ?_)
        | (with_reducible refine wpList_storeR rowLn rfl _ _ rfl _ _ rfl rfl tl1 rfl rfl (ln_ones _ _ _ _ _ _ _ _ _ _) ?_))
      have g9' : Below w8.heap.size w8 w9 := bstep (bnew0 w8 _) g9
      have N9 := (N8.below g9').below tb
      have O9 := o9.below tb
      have f9 := o9.freeHi (Nat.le_refl _)
      have gA9 : Below w8.heap.size w8 _ := g9'.trans (tb.mono g9'.size)
      have gg9 := bstep gg8 gA9
      have b9 := bx_below b8 gA9
      have K9 := o8.below gA9
      have hs9 := g9'.size
      have lA8 := N8.lt
      have hB8 : w8.heap.size ≤ (w8.alloc (.cells #[.int .i64 0] 3)).heap.size := by rw [heap_size_alloc]; omega
      clear tz tz1 tl1 hSA hbA hbA1 o9 L9 g9 g9' tb r3 r4 h9
      obtain ⟨gS, hgS⟩ : ∃ g, g = w9.heap.size := ⟨_, rfl⟩
      try rw [put_no9]
      try rw [put_no9]
      obtain ⟨W9, hW9⟩ : ∃ W9, W9 = (((w9.alloc (.cells ntZ 31)).alloc (.cells lnZ 36)).setRow w9.heap.size (ntA s9 M M ((K : Int) + 1))).setRow (w9.heap.size + 1) (lnV a9 M x) := ⟨_, rfl⟩
      rw [← hW9] at N9 O9 gA9 gg9 b9 K9 tn2 tl2
      change Code.wp _ _ _ _ ((((w9.alloc (.cells ntZ 31)).alloc (.cells lnZ 36)).setRow w9.heap.size (ntA s9 M M ((K : Int) + 1))).setRow (w9.heap.size + 1) (lnV a9 M x))
      rw [← hW9]
      rw [← hgS] at tn2 tl2 hs9 f9 ⊢
      clear hW9 hgS
      have hbA := N9.box
      have hC := netCrash_any W9 sA pA (List.replicate M false) M (K : Int) k N9.r hlA (by simp) (by omega) hshA hk
      have lS9 : gS < W9.heap.size := bx_lt tn2
      go_upto_region 13 with (first
        | (with_reducible refine wpList_loadR rowN rfl _ rfl _ rfl hbA rfl ?_)
        | (go_at_call 9; (with_reducible refine hC.mono ?_); rintro e w10 ⟨s10, rfl, q10, k1, k2, o10, g10⟩
           have hz10 := heap_alloc_new w10 (.cells ntZ 31))
        | (with_reducible refine wpList_storeR rowN rfl _ _ rfl _ _ rfl rfl hz10 rfl rfl (nt_ones _ _ _ _) ?_))
      have WA := WnL.nil.app (x := (s9, (K : Int) + 1)) ((Wn.of O9 r1 (by simp) (Nat.le_refl W9.heap.size)).mono hB8 (Nat.le_refl _)) (Nat.le_refl _) gA9.size
      have NS : Nb W9 gS M ((K : Int) + 1) s9 q9 (List.replicate M false) := ⟨tn2, O9.mono (Nat.zero_le _), f9, r1, by simp⟩
      have f10 := o10.freeHi (Nat.le_refl _)
      have hb11 : ∀ (cs : Array Value), (((w10.alloc (.cells ntZ 31)).setRow w10.heap.size cs).heap[w10.heap.size]? = some (.cells cs 31 (0, 0))) := fun cs => setRow_heap _ _ _ _ _ _ hz10
      have gk : Below W9.heap.size W9 ((w10.alloc (.cells ntZ 31)).setRow w10.heap.size (ntA s10 M M (K : Int))) := below_setRow (bnew g10 _) g10.size _
      have gl : Below w10.heap.size w10 ((w10.alloc (.cells ntZ 31)).setRow w10.heap.size (ntA s10 M M (K : Int))) := below_setRow (bnew0 _ _) (Nat.le_refl _) _
      have NC : Nb ((w10.alloc (.cells ntZ 31)).setRow w10.heap.size (ntA s10 M M (K : Int))) w10.heap.size M (K : Int) s10 q10 ((List.replicate M false).set k true) := ⟨hb11 _, (o10.mono (Nat.zero_le _)).below gl, f10, k1, by simp⟩
      have O11 := o10.below gl
      have N11 := N9.below gk
      have NS11 := NS.below gk
      have b11 := bx_below b9 gk
      have G11 := gA9.trans (gk.mono gA9.size)
      have WB := (WA.below gk).app (x := (s10, (K : Int))) (Wn.of O11 k1 (by simp) (Nat.le_refl ((w10.alloc (.cells ntZ 31)).setRow w10.heap.size (ntA s10 M M (K : Int))).heap.size)) gA9.size gk.size
      rw [List.nil_append] at WB
      have hsz10 := g10.size
      obtain ⟨gC, hgC⟩ : ∃ g, g = w10.heap.size := ⟨_, rfl⟩
      try rw [put_no9]
      try rw [put_no9]
      obtain ⟨W11, hW11⟩ : ∃ W11, W11 = (w10.alloc (.cells ntZ 31)).setRow w10.heap.size (ntA s10 M M (K : Int)) := ⟨_, rfl⟩
      rw [← hW11] at NC O11 N11 NS11 b11 G11 WB
      change Code.wp _ _ _ _ ((w10.alloc (.cells ntZ 31)).setRow w10.heap.size (ntA s10 M M (K : Int)))
      rw [← hW11, ← hgC]
      rw [← hgC] at NC hsz10
      clear hW11 hgC hb11 gk gl f9 f10 N9 NS O9 K9 b9 gg9 tn2 tl2 hC hz10 g10 o10 hbA WA O11 gA9
      have hbS : W11.heap[gS]? = some (.cells #[.slice s9.na M s9.nc, .slice s9.ca M s9.cc, .int .i64 ((K : Int) + 1)] 31 (0, 0)) := NS11.box
      have hbC : W11.heap[gC]? = some (.cells #[.slice s10.na M s10.nc, .slice s10.ca M s10.cc, .int .i64 (K : Int)] 31 (0, 0)) := NC.box
      go_upto_region 16 with (first
        | (with_reducible refine wpList_loadR rowN rfl _ rfl _ rfl hbS rfl ?_)
        | (with_reducible refine wpList_loadR rowN rfl _ rfl _ rfl hbC rfl ?_))
      have H12 : Oth w8 (W11.alloc (.cells #[.slice s9.na M s9.nc, .slice s9.ca M s9.cc, .int .i64 ((K : Int) + 1), .slice s10.na M s10.nc, .slice s10.ca M s10.cc, .int .i64 (K : Int)] 31)) M (some ⟨W11.heap.size, 0, none⟩) 2 2 [(s9, (K : Int) + 1), (s10, (K : Int))] :=
        ⟨ok_lit (enN_k M) _ _ W11 _ _ 2 rfl rfl (by omega) G11.size, (WB.below (bnew0 W11 _)).mono (bnew0 W11 _).size, fun y hy p hp q hq => by cases hq; have := (WB.each y hy).lt hp; dsimp only; omega, bnew G11 _⟩
      clear WB G11 NC N11 NS11 b11 hbS hbC
      generalize (W11.alloc (.cells #[.slice s9.na M s9.nc, .slice s9.ca M s9.cc, .int .i64 ((K : Int) + 1), .slice s10.na M s10.nc, .slice s10.ca M s10.cc, .int .i64 (K : Int)] 31)) = W12 at *
      generalize [(s9, (K : Int) + 1), (s10, (K : Int))] = xs0 at *
      obtain ⟨aL, haL⟩ : ∃ a : Option Addr, a = some ⟨W11.heap.size, 0, none⟩ := ⟨_, rfl⟩
      rw [← haL] at H12 ⊢
      clear haL
      obtain ⟨cK, sK, hcK⟩ : ∃ c s, pA[k]? = some (c, s) := ⟨_, _, List.getElem?_eq_getElem (show k < pA.length by omega)⟩
      have hlen : fl.length = n2 := HFL.out.len
      have N12 := N8.below H12.bel
      have gg12 := bstep gg8 H12.bel
      have b12 := bx_below b8 H12.bel
      have hGv := netGive_all W12 sA pA (List.replicate M false) M (K : Int) k cK sK { id := id, ext := ext, rem := rem, dlc := dlc, data := fl } a2 c2 N12.r hlA (by simp) (by omega) hshA hk hcK (by simp [hk]) hi hdl (by simpa only [hlen] using HFL.out.below gg12)
      simp only [frV, hlen] at hGv
      have hbA := N12.box
      have hlen' := hid hlen
      clear hlen
      go_upto_region 17 with (first
        | (with_reducible refine wpList_loadR rowN rfl _ rfl _ rfl hbA rfl ?_)
        | (with_reducible refine wpList_loadR rowF rfl _ rfl _ rfl b12 rfl ?_)
        | (go_at_call 10; (with_reducible refine hGv.mono ?_); rintro e w13 ⟨s13, er, rfl, hq13, g13⟩
           have hz13 := heap_alloc_new w13 (.cells ntZ 31))
        | (with_reducible refine wpList_storeR rowN rfl _ _ rfl _ _ rfl rfl hz13 rfl rfl (nt_ones _ _ _ _) ?_))
      have g14 : Below W12.heap.size W12 ((w13.alloc (.cells ntZ 31)).setRow w13.heap.size (ntA s13 M M (K : Int))) := below_setRow (bnew g13 _) g13.size _
      have k14 : Below w13.heap.size w13 ((w13.alloc (.cells ntZ 31)).setRow w13.heap.size (ntA s13 M M (K : Int))) := below_setRow (bnew0 w13 _) (Nat.le_refl _) _
      have hb14 : ((w13.alloc (.cells ntZ 31)).setRow w13.heap.size (ntA s13 M M (K : Int))).heap[w13.heap.size]? = some (.cells #[.slice s13.na M s13.nc, .slice s13.ca M s13.cc, .int .i64 (K : Int)] 31 (0, 0)) := setRow_heap _ _ _ _ _ _ hz13
      have hs13 := g13.size
      obtain ⟨gD, hgD⟩ : ∃ g, g = w13.heap.size := ⟨_, rfl⟩
      try rw [put_no9]
      try rw [put_no9]
      obtain ⟨W14, hW14⟩ : ∃ W14, W14 = (w13.alloc (.cells ntZ 31)).setRow w13.heap.size (ntA s13 M M (K : Int)) := ⟨_, rfl⟩
      rw [← hW14] at g14 k14 hb14
      change Code.wp _ _ _ _ ((w13.alloc (.cells ntZ 31)).setRow w13.heap.size (ntA s13 M M (K : Int)))
      rw [← hW14, ← hgD]
      rw [← hgD] at hb14 hs13
      replace hgD := hid hgD
      clear hW14 hz13 hGv hbA N12 b12 gg12 g13
      go_upto_if 91 with fail
      go_cut [19] (fun s19 wx => ∃ (aO : Option Addr) (nO cO : Nat) (xs : List (Na × Int)), s19 = .slice aO nO cO ∧ 2 ≤ nO ∧ nO ≤ 3 ∧ Oth w8 wx M aO nO cO xs)
      case first =>
        by_cases h0 : er = 0
        · subst h0
          obtain ⟨qs, hql, o13⟩ := hq13 rfl
          have hWn := (Wn.of o13 hql (by simp) (Nat.le_refl _)).below (k14.trans ((bnew0 W14 (.cells #[.slice s13.na M s13.nc, .slice s13.ca M s13.cc, .int .i64 (K : Int)] 31)).mono k14.size))
          have g15 := g14.trans ((bnew0 W14 (.cells #[.slice s13.na M s13.nc, .slice s13.ca M s13.cc, .int .i64 (K : Int)] 31)).mono g14.size)
          have h15 := H12.below g15
          have hsrc : RK (enN M) 3 (W14.alloc (.cells #[.slice s13.na M s13.nc, .slice s13.ca M s13.cc, .int .i64 (K : Int)] 31)) (some ⟨W14.heap.size, 0, none⟩) 1 1 [(s13, (K : Int))] := (ok_lit (enN_k M) 31 0 W14 [(s13, (K : Int))] _ 1 rfl rfl (by omega) (Nat.zero_le _)).rk (enN_k M)
          have hown := h15.own
          have hba := h15.bel.size
          have hk15 := k14.size
          go_wp2_with (first
            | (with_reducible refine wpList_loadR rowN rfl _ rfl _ rfl hb14 rfl ?_)
            | (with_reducible refine wpList_appgK0 elN (enN_k M) rfl _ _ rfl rfl hown rfl hsrc (by omega) (by omega) hba ?_; intro w16 a16 c16 o16 g16 q16 z16))
          go_meet
          exact ⟨_, _, _, _, rfl, by omega, by omega, H12.app hWn (by rw [heap_size_alloc]; have := hgD.out; omega) (by rw [← hgD.out]; exact hs13) g15 o16 g16 q16 z16⟩
        · have q0 : (er == 0) = false := by simp [h0]
          have h0' := hid h0
          clear h0
          go_wp2_with fail
          go_meet
          exact ⟨aL, 2, 2, xs0, rfl, by omega, by omega, H12.below g14⟩
      case rest =>
      obtain ⟨aO, nO, cO, xs, rfl, hO2, hO3, HO⟩ := hcut
      clear hq13 hb14 k14 hs13 g14 H12
      have N17 := N8.below HO.bel
      have hDr := netDrop_all wc sA pA (List.replicate M false) M (K : Int) k cK sK N17.r hlA (by simp) (by omega) hshA hk hcK (by simp [hk])
      have hbA := N17.box
      clear hgD
      go_upto_region 20 with (first
        | (with_reducible refine wpList_loadR rowN rfl _ rfl _ rfl hbA rfl ?_)
        | (go_at_call 11; (with_reducible refine hDr.mono ?_); rintro e w13 ⟨s13, dd, rfl, hq13, g13⟩
           have hz13 := heap_alloc_new w13 (.cells ntZ 31))
        | (with_reducible refine wpList_storeR rowN rfl _ _ rfl _ _ rfl rfl hz13 rfl rfl (nt_ones _ _ _ _) ?_))
      have g14 : Below wc.heap.size wc ((w13.alloc (.cells ntZ 31)).setRow w13.heap.size (ntA s13 M M (K : Int))) := below_setRow (bnew g13 _) g13.size _
      have k14 : Below w13.heap.size w13 ((w13.alloc (.cells ntZ 31)).setRow w13.heap.size (ntA s13 M M (K : Int))) := below_setRow (bnew0 w13 _) (Nat.le_refl _) _
      have hb14 : ((w13.alloc (.cells ntZ 31)).setRow w13.heap.size (ntA s13 M M (K : Int))).heap[w13.heap.size]? = some (.cells #[.slice s13.na M s13.nc, .slice s13.ca M s13.cc, .int .i64 (K : Int)] 31 (0, 0)) := setRow_heap _ _ _ _ _ _ hz13
      have hs13 := g13.size
      obtain ⟨gE, hgE⟩ : ∃ g, g = w13.heap.size := ⟨_, rfl⟩
      try rw [put_no9]
      try rw [put_no9]
      obtain ⟨W14, hW14⟩ : ∃ W14, W14 = (w13.alloc (.cells ntZ 31)).setRow w13.heap.size (ntA s13 M M (K : Int)) := ⟨_, rfl⟩
      rw [← hW14] at g14 k14 hb14
      change Code.wp _ _ _ _ ((w13.alloc (.cells ntZ 31)).setRow w13.heap.size (ntA s13 M M (K : Int)))
      rw [← hW14, ← hgE]
      rw [← hgE] at hb14 hs13
      replace hgE := hid hgE
      clear hW14 hz13 hDr hbA N17 g13
      go_upto_if 102 with fail
      go_cut [19] (fun s19 wx => ∃ (aP : Option Addr) (nP cP : Nat) (ys : List (Na × Int)), s19 = .slice aP nP cP ∧ 2 ≤ nP ∧ nP ≤ 4 ∧ Oth w8 wx M aP nP cP ys)
      case first =>
        cases dd with
        | true =>
          obtain ⟨qs, hql, o13⟩ := hq13 rfl
          have hWn := (Wn.of o13 hql (by simp) (Nat.le_refl _)).below (k14.trans ((bnew0 W14 (.cells #[.slice s13.na M s13.nc, .slice s13.ca M s13.cc, .int .i64 (K : Int)] 31)).mono k14.size))
          have g15 := g14.trans ((bnew0 W14 (.cells #[.slice s13.na M s13.nc, .slice s13.ca M s13.cc, .int .i64 (K : Int)] 31)).mono g14.size)
          have h15 := HO.below g15
          have hsrc : RK (enN M) 3 (W14.alloc (.cells #[.slice s13.na M s13.nc, .slice s13.ca M s13.cc, .int .i64 (K : Int)] 31)) (some ⟨W14.heap.size, 0, none⟩) 1 1 [(s13, (K : Int))] := (ok_lit (enN_k M) 31 0 W14 [(s13, (K : Int))] _ 1 rfl rfl (by omega) (Nat.zero_le _)).rk (enN_k M)
          have hown := h15.own
          have hba := h15.bel.size
          have hk15 := k14.size
          clear hq13
          go_wp2_with (first
            | (with_reducible refine wpList_loadR rowN rfl _ rfl _ rfl hb14 rfl ?_)
            | (with_reducible refine wpList_appgK0 elN (enN_k M) rfl _ _ rfl rfl hown rfl hsrc (by omega) (by omega) hba ?_; intro w16 a16 c16 o16 g16 q16 z16))
          go_meet
          exact ⟨_, _, _, _, rfl, by omega, by omega, HO.app hWn (by rw [heap_size_alloc]; have := hgE.out; omega) (by rw [← hgE.out]; exact hs13) g15 o16 g16 q16 z16⟩
        | false =>
          clear hq13
          go_wp2_with fail
          go_meet
          exact ⟨aO, nO, cO, xs, rfl, by omega, by omega, HO.below g14⟩
      case rest =>
      obtain ⟨aP, nP, cP, ys, rfl, hP2, hP4, HP⟩ := hcut
      clear hq13 hb14 k14 hs13 g14 HO hgE
      have hlP := HP.own.len
      clear hP2
      go_wp2_with fail
      go_loopg [109] nP (fun gn s109 wx => ∃ i : Nat, i ≤ nP ∧ gn = nP - i ∧ s109 = .int .i64 (i : Int) ∧ Oth w8 wx M aP nP cP ys)
      case atStart => exact ⟨0, by omega, by omega, rfl, HP⟩
      case round =>
        clear HP
        obtain ⟨i, hi9, rfl, rfl, HO⟩ := hrel
        by_cases hlt : i < nP
        · have i1 : (i : Int) < (nP : Int) := by omega
          obtain ⟨⟨sx, zx⟩, hx⟩ : ∃ p, ys[i]? = some p := ⟨_, List.getElem?_eq_getElem (by omega)⟩
          obtain ⟨gP, hgP, _, _⟩ := HO.own.addr (by omega)
          have hown := HO.own
          rw [hgP] at hown
          have hrg := hown.range (enN_k M) hx
          subst hgP
          have hz := heap_alloc_new wr (.cells ntZ 31)
          go_upto_region 25 with (first
            | (with_reducible refine wpList_loadM rowN rfl _ rfl _ _ rfl (ntA sx M M zx) hrg rfl ?_)
            | (with_reducible refine wpList_storeR rowN rfl _ _ rfl _ _ rfl rfl hz rfl rfl (nt_ones _ _ _ _) ?_))
          have hbx : ((wr.alloc (.cells ntZ 31)).setRow wr.heap.size (ntA sx M M zx)).heap[wr.heap.size]? = some (.cells (ntA sx M M zx) 31 (0, 0)) := setRow_heap _ _ _ _ _ _ hz
          have HO1 := HO.below (show Below wr.heap.size wr ((wr.alloc (.cells ntZ 31)).setRow wr.heap.size (ntA sx M M zx)) from below_setRow (bnew0 wr _) (Nat.le_refl _) _)
          obtain ⟨kx, hkx⟩ : ∃ kx, kx = wr.heap.size := ⟨_, rfl⟩
          have hlow : Hid (∀ p, Lies sx p → p.block < kx) := hid fun p hp => by rw [hkx]; exact (HO.wl.each _ (List.mem_of_getElem? hx)).lt hp
          have HX := hid hx
          try rw [put_no9]
          change Code.wp _ _ _ _ ((wr.alloc (.cells ntZ 31)).setRow wr.heap.size (ntA sx M M zx))
          generalize (wr.alloc (.cells ntZ 31)).setRow wr.heap.size (ntA sx M M zx) = w20 at *
          rw [← hkx] at hbx ⊢
          clear HO hown hrg hkx hx hz
          obtain ⟨q0, q1, q2⟩ := bx3c (show w20.heap[kx]? = some (.cells #[.slice sx.na M sx.nc, .slice sx.ca M sx.cc, .int .i64 zx] 31 (0, 0)) from hbx)
          have HQ : Hid (Oth w8 w20 M (some ⟨gP, 0, none⟩) nP cP ys ∧ w20.heap[kx]? = some (.cells (ntA sx M M zx) 31 (0, 0))) := hid ⟨HO1, hbx⟩
          clear HO1 hbx
          go_wp2_with fail
          go_loopg [116] M (fun gn s116 wx => ∃ j : Nat, j ≤ M ∧ gn = M - j ∧ s116 = .int .i64 (j : Int) ∧ Hid (Oth w8 wx M (some ⟨gP, 0, none⟩) nP cP ys ∧ wx.heap[kx]? = some (.cells (ntA sx M M zx) 31 (0, 0))))
          case atStart => exact ⟨0, by omega, by omega, rfl, HQ⟩
          case round =>
            clear HQ q0 q1 q2
            obtain ⟨j, hj9, rfl, rfl, HQ⟩ := hrel
            by_cases hlj : j < M
            · have i2 : (j : Int) < (M : Int) := by omega
              obtain ⟨HO, bxx⟩ := HQ.out
              have Wx := HO.wl.each _ (List.mem_of_getElem? HX.out)
              obtain ⟨ps, hnod⟩ := Wx.nod
              obtain ⟨cr, hcl, hcra⟩ := Wx.cra
              obtain ⟨gn, hna, _, _⟩ := hnod.addr (by omega)
              obtain ⟨gc, hca⟩ : ∃ gc, sx.ca = some ⟨gc, 0, none⟩ := by
                rcases hcra.ex with ⟨_, h2, _⟩ | ⟨gc, cur, h1, _⟩
                · omega
                · exact ⟨gc, h1⟩
              have hnk : kx ≠ gn := by have := hlow.out _ (.inl hna); dsimp only at this; omega
              have hnc : gc ≠ gn := fun e => Wx.ap _ _ hna hca (by simpa using e.symm)
              obtain ⟨q0, q1, q2⟩ := bx3c (show wr.heap[kx]? = some (.cells #[.slice sx.na M sx.nc, .slice sx.ca M sx.cc, .int .i64 zx] 31 (0, 0)) from bxx)
              obtain ⟨b0, hb0⟩ : ∃ b, cr[j]? = some b := ⟨_, List.getElem?_eq_getElem (by omega)⟩
              dsimp only at hnod hcra
              rw [hna] at hnod q0
              rw [hca] at q1 hcra
              have KQ := hid (And.intro HO (And.intro hna (And.intro hca (And.intro bxx (And.intro hcra hb0)))))
              clear HO bxx Wx hcra hcl hb0 HQ hna hca q1
              go_upto_region 29 with (with_reducible refine wpList_putM enC_k rowC rfl _ _ rfl hnod j hlj offN offA offA_en rfl rfl offA_ones ?_; intro w5 o5 y5 z5)
              obtain ⟨HO, hna, hca, bxx, hcra, hb0⟩ := KQ.out
              have HO5 := HO.nodes HX.out hna o5 y5 z5
              have bx5 : w5.heap[kx]? = some (.cells (ntA sx M M zx) 31 (0, 0)) := (y5.same z5 kx hnk).trans bxx
              have hcr5 : OL .bool 4 w8.heap.size w5 (some ⟨gc, 0, none⟩) M sx.cc cr := hcra.kept fun q hq => y5.same z5 q (fun e => by cases hq; exact hnc e)
              obtain ⟨c3, f3⟩ := hcr5.cellAt hb0
              obtain ⟨_, q1, _⟩ := bx3c (show w5.heap[kx]? = some (.cells #[.slice sx.na M sx.nc, .slice sx.ca M sx.cc, .int .i64 zx] 31 (0, 0)) from bx5)
              rw [hca] at q1
              have HO6 := hid (HO5.crs (j := j) HX.out hca true)
              have bx6 : (w5.setCell ⟨gc, j, none⟩ (.bool true)).heap[kx]? = some (.cells (ntA sx M M zx) 31 (0, 0)) := (Below.heap_setCell _ _ _ _ (fun e => by have := hlow.out _ (.inr hca); dsimp only at this e; omega)).trans bx5
              have BX6 := hid bx6
              clear HO hna hca bxx hcra hb0 KQ HO5 bx5 hcr5 bx6 q0 q2 o5 y5 z5 hnod
              go_wp2_with fail
              go_roundg (M - (j + 1))
              case measure => omega
              case rel => exact ⟨j + 1, by omega, rfl, by go_num, hid ⟨HO6.out, BX6.out⟩⟩
            · have hjM : j = M := by omega
              have i2 : ¬ (j : Int) < (M : Int) := by omega
              go_wp2_with fail
              go_roundg (nP - (i + 1))
              case measure => omega
              case rel => exact ⟨i + 1, by omega, rfl, by go_num, HQ.out.1⟩
        · obtain rfl : nP = i := by omega
          clear hlt hi9
          have GB := HO.bel
          clear HO hlP
          obtain ⟨ya0, ya1, ya2⟩ := bx3c (show wr.heap[gA]? = some (.cells #[.slice sA.na M sA.nc, .slice sA.ca M sA.cc, .int .i64 (K : Int)] 31 (0, 0)) from (N8.below GB).box)
          obtain ⟨bN, eN, _⟩ := N8.own.nodRange (by omega)
          obtain ⟨g7, e7, _, _⟩ := o8.addr (by omega)
          subst e7
          rw [eN] at ya0
          go_wp2_with fail
          go_loopg [133] M (fun gn s133 wx => ∃ j : Nat, j ≤ M ∧ gn = M - j ∧ s133 = .int .i64 (j : Int) ∧ Below w8.heap.size w8 wx)
          case atStart => exact ⟨0, by omega, by omega, rfl, GB⟩
          case round =>
            clear GB ya0 ya1 ya2
            obtain ⟨j, hj9, rfl, rfl, GB⟩ := hrel
            by_cases hlt : j < M
            · have i2 : (j : Int) < (M : Int) := by omega
              obtain ⟨⟨cc, sa⟩, hpq⟩ : ∃ p, pA[j]? = some p := ⟨_, List.getElem?_eq_getElem (by omega)⟩
              have hsh := hshA (cc, sa) (List.mem_of_getElem? hpq)
              obtain ⟨b7, e7', R7⟩ := (N8.below GB).own.nodRange (by omega)
              obtain rfl : b7 = bN := by rw [eN] at e7'; simpa using e7'.symm
              have R7 := R7 j (cc, sa) hpq
              have hz := heap_alloc_new wr (.cells ctZ 54)
              go_upto_region 35 with (first
                | (with_reducible refine wpList_loadM rowC rfl _ rfl b7 (j * 26) rfl (ctA cc sa) R7 rfl ?_)
                | (with_reducible refine wpList_storeR rowC rfl _ _ rfl _ _ rfl rfl hz rfl rfl (ct_ones _ _) ?_))
              have hbx : ((wr.alloc (.cells ctZ 54)).setRow wr.heap.size (ctA cc sa)).heap[wr.heap.size]? = some (.cells (ctA cc sa) 54 (0, 0)) := setRow_heap _ _ _ _ _ _ hz
              have GB2 := bstep GB (show Below wr.heap.size wr ((wr.alloc (.cells ctZ 54)).setRow wr.heap.size (ctA cc sa)) from below_setRow (bnew0 wr _) (Nat.le_refl _) _)
              obtain ⟨kx, hkx⟩ : ∃ kx, kx = wr.heap.size := ⟨_, rfl⟩
              try rw [put_no9]
              change Code.wp _ _ _ _ ((wr.alloc (.cells ctZ 54)).setRow wr.heap.size (ctA cc sa))
              generalize (wr.alloc (.cells ctZ 54)).setRow wr.heap.size (ctA cc sa) = w30 at *
              rw [← hkx] at hbx ⊢
              clear hkx hz R7 GB
              have N10 := N8.below GB2
              have R7 : ∀ w', (∃ p : Regrown, w' = grow (redrawn w30 p.d) p.os) → w'.rangeAt kx 0 (ctA cc sa).toList := range_grown (range_box hbx)
              have R8 : ∀ w', (∃ p : Regrown, w' = grow (redrawn w30 p.d) p.os) → w'.rangeAt g7 (j * 26) (ctA cc sa).toList := range_grown ((o8.below GB2).range enC_k hpq)
              have hsl := N10.r.sl (cc, sa) (List.mem_of_getElem? hpq)
              have kS := fun d os => Calls.regrown_of (sameCtl_eq (grow (redrawn w30 d) os) cc sa sa (hsl.below (below_regrown _ _ _)) (hsl.below (below_regrown _ _ _)) hsh.2.1 hsh.2.2)
              obtain ⟨ya0, ya1, ya2⟩ := bx3c (show w30.heap[gA]? = some (.cells #[.slice sA.na M sA.nc, .slice sA.ca M sA.cc, .int .i64 (K : Int)] 31 (0, 0)) from N10.box)
              obtain ⟨b1, o1, v1, e1, f1, c1⟩ := N10.own.cra.rl.at (show j < (List.replicate M false).length by rw [List.length_replicate]; exact hlt)
              rw [List.getElem?_replicate, if_pos hlt] at f1
              simp only [Option.some.injEq] at f1
              subst f1
              rw [e1] at ya1
              have xa1 := cell_regrown ya1
              have xc1 := cell_regrown c1
              clear ya0 ya1 ya2 c1 e1 N10 hbx hsl hsh hpq
              refine wp_region_quiet_below (by kernel_rfl) (by kernel_rfl) ?_
              repeat (first
                | ((with_reducible refine quiet_loadM rowC ?_ _ rfl kx 0 rfl (ctA cc sa) R7 rfl ?_); (focus (simp [Region.wanted, yielded, Act.put]; done)); (conv => arg 6; dsimp only; rw [put_lit9]; dsimp only [List.set_cons_succ, List.set_cons_zero]))
                | ((with_reducible refine quiet_loadM rowC ?_ _ rfl g7 (j * 26) rfl (ctA cc sa) R8 rfl ?_); (focus (simp [Region.wanted, yielded, Act.put]; done)); (conv => arg 6; dsimp only; rw [put_lit9]; dsimp only [List.set_cons_succ, List.set_cons_zero]))
                | (go_big_quiet_step (first | (go_at_call 12; with_reducible exact kS _ _))))
              refine wpQuiet_nil ?_
              intro w9 hw9
              have g9 : Below w30.heap.size w30 w9 := by obtain ⟨p9, rfl⟩ := hw9; exact below_regrown _ _ _
              clear hw9 kS R7 R8 xa1 xc1
              go_wp2_with fail
              go_roundg (M - (j + 1))
              case measure => omega
              case rel => exact ⟨j + 1, by omega, rfl, by go_num, bstep GB2 g9⟩
            · obtain rfl : M = j := by omega
              clear hlt hj9
              have gg20 := bstep gg8 GB
              clear GB N8 o8 b8 gg8 HNB
              go_wp2_with (go_at_call 13; (with_reducible refine (awake9_any _).mono ?_); rintro e w21 ⟨rfl, g21⟩)
              go_ret
              exact ⟨rfl, bstep gg20 g21⟩
end Go.Proofs.YtgpmhmdofefdcaaGreat
