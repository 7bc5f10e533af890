/-
  LcanParts, walked: what happens in two parts comes to what it comes to at once; what is handed in stays. Written by gen_lcanparts.py.
-/
import Derived.Test.YtihafoeimpjdaaaZ3
import Derived.Deep.DeepCutAuto
namespace Go.Proofs.Ytihafoeimpjdaaa
open Go.RowKit Go.Sort Go.Maps
set_option linter.unusedVariables false
set_option linter.unusedSimpArgs false

theorem ruL_le : ∀ (l : List Ev) (s : Lb), (ruL s l).2.1 ≤ l.length
  | [], s => Nat.le_refl _
  | m :: l, s => by
    rcases Option.eq_none_or_eq_some (stL s m) with e | ⟨t, e⟩
    · rw [ruL_none _ e]; exact Nat.zero_le _
    · rw [ruL_some _ e, List.length_cons]; exact Nat.succ_le_succ (ruL_le l t)

set_option maxRecDepth 100000 in
set_option maxHeartbeats 16000000 in
theorem lcanParts_walk (w : World) (y : Nat) (a : Option Addr) (n c : Nat) (ms : List Ma) (z : Nat) (hy : y ≤ 255) (h : MysR w a n c ms) (hz : z ≤ 255) (hn : n ≤ 9223372036854775807) :
    Calls Try.prog 5 #[.int .u8 (y : Int), .slice a n c, .int .u8 (z : Int)] w fun e w' => e = .returned (.bool true) ∧ Below w.heap.size w w' := by
  obtain ⟨r, hr⟩ : ∃ r, r = y % 31 := ⟨_, rfl⟩
  have hr31 : r < 31 := by omega
  have hr1 : (y : Int) % 31 = (r : Int) := by omega
  have hln := h.row.len
  have kN := new16_lit w (2 + (r : Int)) (2 + r) (by omega) (by omega) (by omega)
  have HY := hid h
  clear h hr
  go_enter Try.func5, Try.ntmps5
  go_upto_region 2 with (first
    | (go_at_call 6; with_reducible refine kN.mono ?_; rintro e w1 ⟨g1, c1, h1, s1, rfl, o1, l1, b1⟩))
  have hS := BxL.new o1 l1
  have gS := bnew0 w1 (.cells (lcV g1 h1.length c1 s1) 25)
  obtain ⟨kS, hkS⟩ : ∃ kS, kS = w1.heap.size := ⟨_, rfl⟩
  rw [← hkS] at hS
  rw [← hkS]
  have B2 := bstep b1 gS
  generalize w1.alloc (.cells (lcV g1 h1.length c1 s1) 25) = w2 at *
  have HS1 := hid hS
  clear o1 l1 b1 gS hkS kN hS
  by_cases h60 : (60 : Int) < (n : Int)
  · have d1 : decide ((n : Int) > 60) = true := decide_eq_true h60
    go_wp2_with (go_at_call 7; with_reducible refine (awake16_any _).mono ?_; rintro e w3 ⟨rfl, b3⟩)
    go_ret
    exact ⟨rfl, bstep B2 b3⟩
  · have hn60 : n ≤ 60 := by omega
    have d1 : decide ((n : Int) > 60) = false := decide_eq_false h60
    clear h60
    obtain ⟨k, hk⟩ : ∃ k, k = z % (n + 1) := ⟨_, rfl⟩
    have hkn : k ≤ n := by have := Nat.mod_lt z (show 0 < n + 1 by omega); omega
    have hkm : (z : Int) % ((n : Int) + 1) = (k : Int) := by rw [hk]; exact_mod_cast rfl
    have hkt : Int.tmod (z : Int) ((n : Int) + 1) = (k : Int) := by rw [Int.tmod_eq_emod_of_nonneg (by omega), hkm]
    have hne : ¬ ((n : Int) + 1 = 0) := by omega
    clear hk
    obtain ⟨aA, hcA, rA⟩ := cutTo_eq elMay HY.out.row .i64 k hkn
    obtain ⟨aB, hcB, rB⟩ := cutFrom_eq elMay HY.out.row .i64 k hkn
    obtain ⟨D, hD⟩ : ∃ D, D = n - k := ⟨_, rfl⟩
    obtain ⟨cD, hcD⟩ : ∃ cD, cD = c - k := ⟨_, rfl⟩
    rw [← hD, ← hcD] at hcB rB
    have mA : ∀ m ∈ ms.take k, MaR w m := fun m hm => HY.out.each m (List.mem_of_mem_take hm)
    have mB : ∀ m ∈ ms.drop k, MaR w m := fun m hm => HY.out.each m (List.mem_of_mem_drop hm)
    have K0 : LbK (newL (2 + r)) := newL_K (by omega) (by omega)
    have lA := rA.len
    have lB := rB.len
    have eW : ms.map Ma.ev = (ms.take k).map Ma.ev ++ (ms.drop k).map Ma.ev := by rw [← List.map_append, List.take_append_drop]
    have happ := ruL_append ((ms.take k).map Ma.ev) ((ms.drop k).map Ma.ev) (newL (2 + r))
    rw [← eW] at happ
    obtain ⟨kA1, kA2, kA3⟩ := ruL_K ((ms.take k).map Ma.ev) (newL (2 + r)) K0 (evs_ok _)
    have hall := ruL_all ((ms.take k).map Ma.ev) (newL (2 + r))
    obtain ⟨tA, nA, okA, hrA⟩ : ∃ tA nA okA, ruL (newL (2 + r)) ((ms.take k).map Ma.ev) = (tA, nA, okA) := ⟨_, _, _, rfl⟩
    rw [hrA] at happ kA1 kA2 kA3 hall
    have tA2 : 2 ≤ tA.ns.length := by have := kA1.n2; exact this
    have sA : tA.sil ≤ k := by have h1 : tA.sil ≤ 0 + ((ms.take k).map Ma.ev).length := kA2; rw [List.length_map, lA] at h1; omega
    have HA2 := hid tA2
    have HAs := hid sA
    have HAK := hid (show LbK tA from kA1)
    have HrA := hid hrA
    have HY2 := hid rA
    have HY3 := hid rB
    have HmA := hid mA
    have HmB := hid mB
    have HlA := hid lA
    have HlB := hid lB
    have HD := hid hD
    have HK0 := hid K0
    clear rA rB mA mB lA lB kA1 kA2 kA3 tA2 sA hrA eW hD hcD K0
    go_upto_region 5 with (fail)
    have z2 := B2.size
    cases okA
    · replace happ : ruL (newL (2 + r)) (ms.map Ma.ev) = (tA, nA, false) := happ
      have KW : Hid (∀ w', Below w2.heap.size w2 w' → Calls Try.prog 11 #[.agg (lcV g1 h1.length c1 s1), .slice a n c] w' (RunE w' (nA : Int) 160 tA)) := hid fun w' b => by
        have B0 : Below w.heap.size w w' := bstep B2 b
        exact run16_bx (HS1.out.below b).own.read HS1.out.lb HK0.out (HY.out.row.below B0) (fun m hm => (HY.out.each m hm).below B0) (by rw [hln]; show 0 + n ≤ _; omega) happ rfl rfl
      clear happ hall

      have kW := KW.out w2 (Below.refl _ _)
      have bS := HS1.out.box
      go_upto_region 6 with (first
        | (with_reducible refine wpList_loadR rowLc rfl _ rfl kS rfl bS rfl ?_)
        | (go_at_call 11; (with_reducible refine kW.mono ?_); rintro e w3 ⟨g3, c3, h3, s3, rfl, o3, l3, b3⟩))
      have hW := BxL.new o3 l3
      have gW := bnew0 w3 (.cells (lcV g3 h3.length c3 s3) 25)
      obtain ⟨kW', hkW'⟩ : ∃ kW', kW' = w3.heap.size := ⟨_, rfl⟩
      rw [← hkW'] at hW
      rw [← hkW']
      have S4 := hid ((HS1.out.below b3).below gW)
      have B4 := bstep (bstep B2 b3) gW
      have b24 := bstep b3 gW
      clear o3 l3 b3 gW hkW' kW bS
      generalize w3.alloc (.cells (lcV g3 h3.length c3 s3) 25) = w4 at *
      have HW4 := hid hW
      clear hW
      have hld : ∀ w', Below w4.heap.size w4 w' → w'.heap[kS]? = some (.cells (lcV g1 h1.length c1 s1) 25 (0, 0)) := fun w' k => bx_below S4.out.box k
      have KA : Hid (∀ w', Below w4.heap.size w4 w' → Calls Try.prog 11 #[.agg (lcV g1 h1.length c1 s1), .slice aA k c] w' (RunE w' (nA : Int) 160 tA)) := hid fun w' b => by
        have B0 : Below w.heap.size w w' := bstep B4 b
        exact run16_bx (S4.out.below b).own.read S4.out.lb HK0.out (HY2.out.below B0) (fun m hm => (HmA.out m hm).below B0) (by rw [HlA.out]; show 0 + k ≤ _; omega) HrA.out rfl rfl
      go_cut [13, 14, 15] (fun x1 x2 x3 wx => ∃ (kX g9 c9 : Nat) (h9 : List Hol) (s9 : Nat), x1 = .pointer (some ⟨kX, 0, none⟩) ∧ x2 = .int .i64 (nA : Int) ∧ x3 = .int .i64 160 ∧ DrX w4 wx kX g9 c9 h9 s9 tA)
      case first =>
        have HS : Below w4.heap.size w4 w4.drew := (Below.refl _ _).drew
        refine Rest.begin (S := fun w' => Below w4.heap.size w4 w') (X := [4]) (by kernel_rfl) ?_
        change Rest _ _ _ _ _ _ _ _ _ w4.drew
        refine Rest.takeS (i := 0) (v := .agg (lcV g1 h1.length c1 s1)) rfl (by kernel_rfl) (by kernel_rfl) (by kernel_rfl) (by kernel_rfl) (fun _ _ _ h => h) HS (yields_loadR rowLc (by simp [Region.wanted]) _ rfl kS (by simp [Act.eval]) _ rfl (fun w' hw => ⟨_, _, hld w' hw⟩)) ?_
        refine Rest.take (i := 1) (v := .slice a n c) rfl (by kernel_rfl) (by kernel_rfl) (by kernel_rfl) (by kernel_rfl) (fun _ _ _ h => h) (.inl HS) (Or.inl ⟨by simp [Region.wanted], ?_⟩) ?_
        · intro w; go_simp
        refine Rest.take (i := 2) (v := .int .i64 (k : Int)) rfl (by kernel_rfl) (by kernel_rfl) (by kernel_rfl) (by kernel_rfl) (fun _ _ _ h => h) (.inl HS) (Or.inl ⟨by simp [Region.wanted], ?_⟩) ?_
        · intro w; go_simp
        refine Rest.take (i := 3) (v := .slice aA k c) rfl (by kernel_rfl) (by kernel_rfl) (by kernel_rfl) (by kernel_rfl) (fun _ _ _ h => h) (.inl HS) (Or.inl ⟨by simp [Region.wanted], ?_⟩) ?_
        · intro w; go_simp
        refine Rest.two (i := 4) (j := 9) (by kernel_rfl) rfl rfl (fun K hK => ?_) (fun K hK => ?_)
        · refine draw_callF 11 (by kernel_rfl) (by simp [Region.wanted]) _ _ _ rfl (by simp [Act.eval, Act.put]) #[.agg (lcV g1 h1.length c1 s1), .slice aA k c] (by simp [Act.eval, Act.put]) _ (KA.out _ HS) ?_
          rintro q w1 ⟨g9, c9, h9, s9, rfl, o9, l9, b9⟩
          refine ⟨_, rfl, ?_⟩
          have bb := HS.trans (b9.mono HS.size)
          have oo := o9.mono HS.size
          refine hK _ _ ⟨.inr (thru_of (by kernel_rfl)), Rest.of_any _ _ _ _ (thru_of (by kernel_rfl)) ?_⟩; clear hK K HS
          refine wpAny_take (i := 5) (v := .tuple #[.agg (lcV g9 h9.length c9 s9), .int .i64 (nA : Int), .int .i64 160]) rfl (by kernel_rfl) (by kernel_rfl) (by kernel_rfl) (fun _ _ _ h => h) (Or.inl ⟨by simp [Region.wanted], ?_⟩) ?_
          · intro w; go_simp
          refine wpAny_take (i := 6) (v := .agg (lcV g9 h9.length c9 s9)) rfl (by kernel_rfl) (by kernel_rfl) (by kernel_rfl) (fun _ _ _ h => h) (Or.inl ⟨by simp [Region.wanted], ?_⟩) ?_
          · intro w; go_simp
          refine wpAny_take (i := 7) (v := .int .i64 (nA : Int)) rfl (by kernel_rfl) (by kernel_rfl) (by kernel_rfl) (fun _ _ _ h => h) (Or.inl ⟨by simp [Region.wanted], ?_⟩) ?_
          · intro w; go_simp
          refine wpAny_take (i := 8) (v := .int .i64 160) rfl (by kernel_rfl) (by kernel_rfl) (by kernel_rfl) (fun _ _ _ h => h) (Or.inl ⟨by simp [Region.wanted], ?_⟩) ?_
          · intro w; go_simp
          refine wpAny_ready (rs := [9]) (by kernel_rfl) (by simp) ?_
          refine AllReady.cons rfl (fun K hK => ?_) AllReady.nil
          refine draw_allocL rfl rfl ?_
          intro w2 kX bX gX lX mX
          refine hK _ _ ?_; clear hK K
          refine wpAny_ready (rs := [10]) (by kernel_rfl) (by simp) ?_
          refine AllReady.cons rfl (fun K hK => ?_) AllReady.nil
          (with_reducible refine draw_storeR rowLc ?z1gd ?z1x ?z1y ?z1o kX (lcV g9 h9.length c9 s9) ?z1hx ?z1hy bX ?z1n ?z1old (by kernel_rfl) ?z1h)
          case z1o => exact rfl
          case z1gd => exact rfl
          case z1hx => simp [Act.eval, Act.put]
          case z1hy => simp [Act.eval, Act.put]
          case z1n => rfl
          case z1old => rfl
          case z1h =>
          have DR := DrX.first bb oo (Nat.le_refl _) l9 gX bX lX (by have := hs_len l9; have := HA2.out; omega)
          refine hK _ _ ?_; clear hK K
          refine wpAny_take (i := 11) (v := .int .i64 (nA : Int)) rfl (by kernel_rfl) (by kernel_rfl) (by kernel_rfl) (fun _ _ _ h => h) (Or.inl ⟨by simp [Region.wanted], ?_⟩) ?_
          · intro w; go_simp
          refine wpAny_take (i := 12) (v := .int .i64 160) rfl (by kernel_rfl) (by kernel_rfl) (by kernel_rfl) (fun _ _ _ h => h) (Or.inl ⟨by simp [Region.wanted], ?_⟩) ?_
          · intro w; go_simp
          refine wpAny_done (by kernel_rfl) ?_ _
          simp [Act.put]
          go_wp2
          go_meet
          exact ⟨kX, g9, c9, h9, s9, rfl, rfl, rfl, DR⟩
        · refine draw_allocL rfl rfl ?_
          intro w2 kX bX gX lX mX
          replace lX : w4.heap.size ≤ kX := Nat.le_trans HS.size lX
          replace HS := HS.trans (gX.mono HS.size)
          refine hK _ _ ⟨.inl HS, ?_⟩; clear hK K gX
          refine Rest.one (i := 4) (by kernel_rfl) rfl (fun K hK => ?_)
          refine draw_callF 11 (by kernel_rfl) (by simp [Region.wanted]) _ _ _ rfl (by simp [Act.eval, Act.put]) #[.agg (lcV g1 h1.length c1 s1), .slice aA k c] (by simp [Act.eval, Act.put]) _ (KA.out _ HS) ?_
          rintro q w1 ⟨g9, c9, h9, s9, rfl, o9, l9, b9⟩
          refine ⟨_, rfl, ?_⟩
          have bb := HS.trans (b9.mono HS.size)
          replace bX := bx_below bX b9
          refine hK _ _ ⟨.inr (thru_of (by kernel_rfl)), Rest.of_any _ _ _ _ (thru_of (by kernel_rfl)) ?_⟩; clear hK K HS
          refine wpAny_take (i := 5) (v := .tuple #[.agg (lcV g9 h9.length c9 s9), .int .i64 (nA : Int), .int .i64 160]) rfl (by kernel_rfl) (by kernel_rfl) (by kernel_rfl) (fun _ _ _ h => h) (Or.inl ⟨by simp [Region.wanted], ?_⟩) ?_
          · intro w; go_simp
          refine wpAny_take (i := 6) (v := .agg (lcV g9 h9.length c9 s9)) rfl (by kernel_rfl) (by kernel_rfl) (by kernel_rfl) (fun _ _ _ h => h) (Or.inl ⟨by simp [Region.wanted], ?_⟩) ?_
          · intro w; go_simp
          refine wpAny_take (i := 7) (v := .int .i64 (nA : Int)) rfl (by kernel_rfl) (by kernel_rfl) (by kernel_rfl) (fun _ _ _ h => h) (Or.inl ⟨by simp [Region.wanted], ?_⟩) ?_
          · intro w; go_simp
          refine wpAny_take (i := 8) (v := .int .i64 160) rfl (by kernel_rfl) (by kernel_rfl) (by kernel_rfl) (fun _ _ _ h => h) (Or.inl ⟨by simp [Region.wanted], ?_⟩) ?_
          · intro w; go_simp
          refine wpAny_ready (rs := [10]) (by kernel_rfl) (by simp) ?_
          refine AllReady.cons rfl (fun K hK => ?_) AllReady.nil
          (with_reducible refine draw_storeR rowLc ?z2gd ?z2x ?z2y ?z2o kX (lcV g9 h9.length c9 s9) ?z2hx ?z2hy bX ?z2n ?z2old (by kernel_rfl) ?z2h)
          case z2o => exact rfl
          case z2gd => exact rfl
          case z2hx => simp [Act.eval, Act.put]
          case z2hy => simp [Act.eval, Act.put]
          case z2n => rfl
          case z2old => rfl
          case z2h =>
          have DR := DrX.second bb o9 l9 bX mX lX (by have := hs_len l9; have := HA2.out; omega)
          refine hK _ _ ?_; clear hK K
          refine wpAny_take (i := 11) (v := .int .i64 (nA : Int)) rfl (by kernel_rfl) (by kernel_rfl) (by kernel_rfl) (fun _ _ _ h => h) (Or.inl ⟨by simp [Region.wanted], ?_⟩) ?_
          · intro w; go_simp
          refine wpAny_take (i := 12) (v := .int .i64 160) rfl (by kernel_rfl) (by kernel_rfl) (by kernel_rfl) (fun _ _ _ h => h) (Or.inl ⟨by simp [Region.wanted], ?_⟩) ?_
          · intro w; go_simp
          refine wpAny_done (by kernel_rfl) ?_ _
          simp [Act.put]
          go_wp2
          go_meet
          exact ⟨kX, g9, c9, h9, s9, rfl, rfl, rfl, DR⟩
      case rest =>
      obtain ⟨kA, gA, cA, hA, sA, rfl, rfl, rfl, dA⟩ := hcut
      have W6 := HW4.out.below dA.bel
      have B6 := bstep B4 dA.bel
      have bW := W6.box
      have bA := dA.bx.box
      have kE := sameLcan_ex W6.own.read dA.bx.own.read (W6.lb.trans dA.bx.lb.symm) (W6.lb.symm ▸ HAK.out)
      have e0 : ((nA : Int) == (nA : Int)) = true := by simp
      clear dA W6 KA hld B4 b24 KW
      go_wp2_with (first
        | (with_reducible refine wpList_loadW rowLc (by simp [Region.wanted, yielded, Act.put]) _ rfl kW' rfl bW rfl ?_)
        | (with_reducible refine wpList_loadW rowLc (by simp [Region.wanted, yielded, Act.put]) _ rfl kA rfl bA rfl ?_)
        | (go_at_call 10; with_reducible refine kE.mono ?_; rintro e w8 ⟨rfl, b8⟩)
        | (go_at_call 7; with_reducible refine (awake16_any _).mono ?_; rintro e w9 ⟨rfl, b9⟩))
      go_ret
      exact ⟨rfl, bstep (bstep B6 b8) b9⟩
    · have hnk : k = nA := by
        have h1 : nA = ((ms.take k).map Ma.ev).length := hall rfl
        rw [List.length_map, HlA.out] at h1; exact h1.symm
      subst hnk
      obtain ⟨tB, nB, okB, hrB⟩ : ∃ tB nB okB, ruL tA ((ms.drop k).map Ma.ev) = (tB, nB, okB) := ⟨_, _, _, rfl⟩
      obtain ⟨kB1, kB2, kB3⟩ := ruL_K ((ms.drop k).map Ma.ev) tA HAK.out (evs_ok _)
      have hBl := ruL_le ((ms.drop k).map Ma.ev) tA
      rw [hrB] at kB1 kB2 kB3 hBl
      have hnB : nB ≤ 60 := by
        have h1 : nB ≤ ((ms.drop k).map Ma.ev).length := hBl
        rw [List.length_map, HlB.out, HD.out] at h1; omega
      have hk60 : k ≤ 60 := by omega
      clear hBl
      replace happ : ruL (newL (2 + r)) (ms.map Ma.ev) = (tB, k + nB, okB) := by rw [happ]; show ((ruL tA _).1, k + (ruL tA _).2.1, (ruL tA _).2.2) = _; rw [hrB]
      have HBK := hid (show LbK tB from kB1)
      have HB2 := hid (show 2 ≤ tB.ns.length from kB1.n2)
      have HrB := hid hrB
      obtain ⟨NW, hNW⟩ : ∃ NW, NW = k + nB := ⟨_, rfl⟩
      obtain ⟨Eb, hEb⟩ : ∃ Eb, ruE okB = Eb := ⟨_, rfl⟩
      have hNI : (k : Int) + (nB : Int) = (NW : Int) := by omega
      have hNW60 : NW ≤ 120 := by omega
      rw [← hNW] at happ
      have HEb := hid hEb
      have e1 : (Eb != Eb) = false := by simp
      have e2 : ((NW : Int) != (NW : Int)) = false := by simp
      have e3 : ((k : Int) != (k : Int)) = false := by simp
      have KW : Hid (∀ w', Below w2.heap.size w2 w' → Calls Try.prog 11 #[.agg (lcV g1 h1.length c1 s1), .slice a n c] w' (RunE w' (NW : Int) Eb tB)) := hid fun w' b => by
        have B0 : Below w.heap.size w w' := bstep B2 b
        exact run16_bx (HS1.out.below b).own.read HS1.out.lb HK0.out (HY.out.row.below B0) (fun m hm => (HY.out.each m hm).below B0) (by rw [hln]; show 0 + n ≤ _; omega) happ rfl hEb
      clear happ hall hrB kB1 kB2 kB3 hNW hEb
      have kW := KW.out w2 (Below.refl _ _)
      have bS := HS1.out.box
      go_upto_region 6 with (first
        | (with_reducible refine wpList_loadR rowLc rfl _ rfl kS rfl bS rfl ?_)
        | (go_at_call 11; (with_reducible refine kW.mono ?_); rintro e w3 ⟨g3, c3, h3, s3, rfl, o3, l3, b3⟩))
      have hW := BxL.new o3 l3
      have gW := bnew0 w3 (.cells (lcV g3 h3.length c3 s3) 25)
      obtain ⟨kW', hkW'⟩ : ∃ kW', kW' = w3.heap.size := ⟨_, rfl⟩
      rw [← hkW'] at hW
      rw [← hkW']
      have S4 := hid ((HS1.out.below b3).below gW)
      have B4 := bstep (bstep B2 b3) gW
      have b24 := bstep b3 gW
      clear o3 l3 b3 gW hkW' kW bS
      generalize w3.alloc (.cells (lcV g3 h3.length c3 s3) 25) = w4 at *
      have HW4 := hid hW
      clear hW
      have hld : ∀ w', Below w4.heap.size w4 w' → w'.heap[kS]? = some (.cells (lcV g1 h1.length c1 s1) 25 (0, 0)) := fun w' k => bx_below S4.out.box k
      have KA : Hid (∀ w', Below w4.heap.size w4 w' → Calls Try.prog 11 #[.agg (lcV g1 h1.length c1 s1), .slice aA k c] w' (RunE w' (k : Int) 0 tA)) := hid fun w' b => by
        have B0 : Below w.heap.size w w' := bstep B4 b
        exact run16_bx (S4.out.below b).own.read S4.out.lb HK0.out (HY2.out.below B0) (fun m hm => (HmA.out m hm).below B0) (by rw [HlA.out]; show 0 + k ≤ _; omega) HrA.out rfl rfl
      go_cut [13, 14, 15] (fun x1 x2 x3 wx => ∃ (kX g9 c9 : Nat) (h9 : List Hol) (s9 : Nat), x1 = .pointer (some ⟨kX, 0, none⟩) ∧ x2 = .int .i64 (k : Int) ∧ x3 = .int .i64 0 ∧ DrX w4 wx kX g9 c9 h9 s9 tA)
      case first =>
        have HS : Below w4.heap.size w4 w4.drew := (Below.refl _ _).drew
        refine Rest.begin (S := fun w' => Below w4.heap.size w4 w') (X := [4]) (by kernel_rfl) ?_
        change Rest _ _ _ _ _ _ _ _ _ w4.drew
        refine Rest.takeS (i := 0) (v := .agg (lcV g1 h1.length c1 s1)) rfl (by kernel_rfl) (by kernel_rfl) (by kernel_rfl) (by kernel_rfl) (fun _ _ _ h => h) HS (yields_loadR rowLc (by simp [Region.wanted]) _ rfl kS (by simp [Act.eval]) _ rfl (fun w' hw => ⟨_, _, hld w' hw⟩)) ?_
        refine Rest.take (i := 1) (v := .slice a n c) rfl (by kernel_rfl) (by kernel_rfl) (by kernel_rfl) (by kernel_rfl) (fun _ _ _ h => h) (.inl HS) (Or.inl ⟨by simp [Region.wanted], ?_⟩) ?_
        · intro w; go_simp
        refine Rest.take (i := 2) (v := .int .i64 (k : Int)) rfl (by kernel_rfl) (by kernel_rfl) (by kernel_rfl) (by kernel_rfl) (fun _ _ _ h => h) (.inl HS) (Or.inl ⟨by simp [Region.wanted], ?_⟩) ?_
        · intro w; go_simp
        refine Rest.take (i := 3) (v := .slice aA k c) rfl (by kernel_rfl) (by kernel_rfl) (by kernel_rfl) (by kernel_rfl) (fun _ _ _ h => h) (.inl HS) (Or.inl ⟨by simp [Region.wanted], ?_⟩) ?_
        · intro w; go_simp
        refine Rest.two (i := 4) (j := 9) (by kernel_rfl) rfl rfl (fun K hK => ?_) (fun K hK => ?_)
        · refine draw_callF 11 (by kernel_rfl) (by simp [Region.wanted]) _ _ _ rfl (by simp [Act.eval, Act.put]) #[.agg (lcV g1 h1.length c1 s1), .slice aA k c] (by simp [Act.eval, Act.put]) _ (KA.out _ HS) ?_
          rintro q w1 ⟨g9, c9, h9, s9, rfl, o9, l9, b9⟩
          refine ⟨_, rfl, ?_⟩
          have bb := HS.trans (b9.mono HS.size)
          have oo := o9.mono HS.size
          refine hK _ _ ⟨.inr (thru_of (by kernel_rfl)), Rest.of_any _ _ _ _ (thru_of (by kernel_rfl)) ?_⟩; clear hK K HS
          refine wpAny_take (i := 5) (v := .tuple #[.agg (lcV g9 h9.length c9 s9), .int .i64 (k : Int), .int .i64 0]) rfl (by kernel_rfl) (by kernel_rfl) (by kernel_rfl) (fun _ _ _ h => h) (Or.inl ⟨by simp [Region.wanted], ?_⟩) ?_
          · intro w; go_simp
          refine wpAny_take (i := 6) (v := .agg (lcV g9 h9.length c9 s9)) rfl (by kernel_rfl) (by kernel_rfl) (by kernel_rfl) (fun _ _ _ h => h) (Or.inl ⟨by simp [Region.wanted], ?_⟩) ?_
          · intro w; go_simp
          refine wpAny_take (i := 7) (v := .int .i64 (k : Int)) rfl (by kernel_rfl) (by kernel_rfl) (by kernel_rfl) (fun _ _ _ h => h) (Or.inl ⟨by simp [Region.wanted], ?_⟩) ?_
          · intro w; go_simp
          refine wpAny_take (i := 8) (v := .int .i64 0) rfl (by kernel_rfl) (by kernel_rfl) (by kernel_rfl) (fun _ _ _ h => h) (Or.inl ⟨by simp [Region.wanted], ?_⟩) ?_
          · intro w; go_simp
          refine wpAny_ready (rs := [9]) (by kernel_rfl) (by simp) ?_
          refine AllReady.cons rfl (fun K hK => ?_) AllReady.nil
          refine draw_allocL rfl rfl ?_
          intro w2 kX bX gX lX mX
          refine hK _ _ ?_; clear hK K
          refine wpAny_ready (rs := [10]) (by kernel_rfl) (by simp) ?_
          refine AllReady.cons rfl (fun K hK => ?_) AllReady.nil
          (with_reducible refine draw_storeR rowLc ?z3gd ?z3x ?z3y ?z3o kX (lcV g9 h9.length c9 s9) ?z3hx ?z3hy bX ?z3n ?z3old (by kernel_rfl) ?z3h)
          case z3o => exact rfl
          case z3gd => exact rfl
          case z3hx => simp [Act.eval, Act.put]
          case z3hy => simp [Act.eval, Act.put]
          case z3n => rfl
          case z3old => rfl
          case z3h =>
          have DR := DrX.first bb oo (Nat.le_refl _) l9 gX bX lX (by have := hs_len l9; have := HA2.out; omega)
          refine hK _ _ ?_; clear hK K
          refine wpAny_take (i := 11) (v := .int .i64 (k : Int)) rfl (by kernel_rfl) (by kernel_rfl) (by kernel_rfl) (fun _ _ _ h => h) (Or.inl ⟨by simp [Region.wanted], ?_⟩) ?_
          · intro w; go_simp
          refine wpAny_take (i := 12) (v := .int .i64 0) rfl (by kernel_rfl) (by kernel_rfl) (by kernel_rfl) (fun _ _ _ h => h) (Or.inl ⟨by simp [Region.wanted], ?_⟩) ?_
          · intro w; go_simp
          refine wpAny_done (by kernel_rfl) ?_ _
          simp [Act.put]
          go_wp2
          go_meet
          exact ⟨kX, g9, c9, h9, s9, rfl, rfl, rfl, DR⟩
        · refine draw_allocL rfl rfl ?_
          intro w2 kX bX gX lX mX
          replace lX : w4.heap.size ≤ kX := Nat.le_trans HS.size lX
          replace HS := HS.trans (gX.mono HS.size)
          refine hK _ _ ⟨.inl HS, ?_⟩; clear hK K gX
          refine Rest.one (i := 4) (by kernel_rfl) rfl (fun K hK => ?_)
          refine draw_callF 11 (by kernel_rfl) (by simp [Region.wanted]) _ _ _ rfl (by simp [Act.eval, Act.put]) #[.agg (lcV g1 h1.length c1 s1), .slice aA k c] (by simp [Act.eval, Act.put]) _ (KA.out _ HS) ?_
          rintro q w1 ⟨g9, c9, h9, s9, rfl, o9, l9, b9⟩
          refine ⟨_, rfl, ?_⟩
          have bb := HS.trans (b9.mono HS.size)
          replace bX := bx_below bX b9
          refine hK _ _ ⟨.inr (thru_of (by kernel_rfl)), Rest.of_any _ _ _ _ (thru_of (by kernel_rfl)) ?_⟩; clear hK K HS
          refine wpAny_take (i := 5) (v := .tuple #[.agg (lcV g9 h9.length c9 s9), .int .i64 (k : Int), .int .i64 0]) rfl (by kernel_rfl) (by kernel_rfl) (by kernel_rfl) (fun _ _ _ h => h) (Or.inl ⟨by simp [Region.wanted], ?_⟩) ?_
          · intro w; go_simp
          refine wpAny_take (i := 6) (v := .agg (lcV g9 h9.length c9 s9)) rfl (by kernel_rfl) (by kernel_rfl) (by kernel_rfl) (fun _ _ _ h => h) (Or.inl ⟨by simp [Region.wanted], ?_⟩) ?_
          · intro w; go_simp
          refine wpAny_take (i := 7) (v := .int .i64 (k : Int)) rfl (by kernel_rfl) (by kernel_rfl) (by kernel_rfl) (fun _ _ _ h => h) (Or.inl ⟨by simp [Region.wanted], ?_⟩) ?_
          · intro w; go_simp
          refine wpAny_take (i := 8) (v := .int .i64 0) rfl (by kernel_rfl) (by kernel_rfl) (by kernel_rfl) (fun _ _ _ h => h) (Or.inl ⟨by simp [Region.wanted], ?_⟩) ?_
          · intro w; go_simp
          refine wpAny_ready (rs := [10]) (by kernel_rfl) (by simp) ?_
          refine AllReady.cons rfl (fun K hK => ?_) AllReady.nil
          (with_reducible refine draw_storeR rowLc ?z4gd ?z4x ?z4y ?z4o kX (lcV g9 h9.length c9 s9) ?z4hx ?z4hy bX ?z4n ?z4old (by kernel_rfl) ?z4h)
          case z4o => exact rfl
          case z4gd => exact rfl
          case z4hx => simp [Act.eval, Act.put]
          case z4hy => simp [Act.eval, Act.put]
          case z4n => rfl
          case z4old => rfl
          case z4h =>
          have DR := DrX.second bb o9 l9 bX mX lX (by have := hs_len l9; have := HA2.out; omega)
          refine hK _ _ ?_; clear hK K
          refine wpAny_take (i := 11) (v := .int .i64 (k : Int)) rfl (by kernel_rfl) (by kernel_rfl) (by kernel_rfl) (fun _ _ _ h => h) (Or.inl ⟨by simp [Region.wanted], ?_⟩) ?_
          · intro w; go_simp
          refine wpAny_take (i := 12) (v := .int .i64 0) rfl (by kernel_rfl) (by kernel_rfl) (by kernel_rfl) (fun _ _ _ h => h) (Or.inl ⟨by simp [Region.wanted], ?_⟩) ?_
          · intro w; go_simp
          refine wpAny_done (by kernel_rfl) ?_ _
          simp [Act.put]
          go_wp2
          go_meet
          exact ⟨kX, g9, c9, h9, s9, rfl, rfl, rfl, DR⟩
      case rest =>
      obtain ⟨kA, gA, cA, hA, sA, rfl, rfl, rfl, dA⟩ := hcut
      obtain ⟨w5, rfl⟩ : ∃ w5, w5 = wc := ⟨_, rfl⟩
      have z4 := dA.bel.size
      have HA := hid dA
      have HW5 := hid (HW4.out.below dA.bel)
      have S5 := hid (S4.out.below dA.bel)
      have B5 := bstep B4 dA.bel
      clear dA KA hld B4 b24 KW HW4 S4
      have hld : ∀ w', Below w5.heap.size w5 w' → w'.heap[kA]? = some (.cells (lcV gA hA.length cA sA) 25 (0, 0)) := fun w' k => bx_below HA.out.bx.box k
      have KB : Hid (∀ w', Below w5.heap.size w5 w' → Calls Try.prog 11 #[.agg (lcV gA hA.length cA sA), .slice aB D cD] w' (RunE w' (nB : Int) Eb tB)) := hid fun w' b => by
        have B0 : Below w.heap.size w w' := bstep B5 b
        exact run16_bx (HA.out.bx.below b).own.read HA.out.bx.lb HAK.out (HY3.out.below B0) (fun m hm => (HmB.out m hm).below B0) (by rw [HlB.out]; have := HAs.out; have := HD.out; omega) HrB.out rfl HEb.out
      go_upto_region 9 with (fail)
      go_cut [16, 17, 18] (fun x1 x2 x3 wx => ∃ (kX g9 c9 : Nat) (h9 : List Hol) (s9 : Nat), x1 = .pointer (some ⟨kX, 0, none⟩) ∧ x2 = .int .i64 (nB : Int) ∧ x3 = .int .i64 Eb ∧ DrX w5 wx kX g9 c9 h9 s9 tB)
      case first =>
        have HS : Below w5.heap.size w5 w5.drew := (Below.refl _ _).drew
        refine Rest.begin (S := fun w' => Below w5.heap.size w5 w') (X := [4]) (by kernel_rfl) ?_
        change Rest _ _ _ _ _ _ _ _ _ w5.drew
        refine Rest.takeS (i := 0) (v := .agg (lcV gA hA.length cA sA)) rfl (by kernel_rfl) (by kernel_rfl) (by kernel_rfl) (by kernel_rfl) (fun _ _ _ h => h) HS (yields_loadR rowLc (by simp [Region.wanted]) _ rfl kA (by simp [Act.eval]) _ rfl (fun w' hw => ⟨_, _, hld w' hw⟩)) ?_
        refine Rest.take (i := 1) (v := .slice a n c) rfl (by kernel_rfl) (by kernel_rfl) (by kernel_rfl) (by kernel_rfl) (fun _ _ _ h => h) (.inl HS) (Or.inl ⟨by simp [Region.wanted], ?_⟩) ?_
        · intro w; go_simp
        refine Rest.take (i := 2) (v := .int .i64 (k : Int)) rfl (by kernel_rfl) (by kernel_rfl) (by kernel_rfl) (by kernel_rfl) (fun _ _ _ h => h) (.inl HS) (Or.inl ⟨by simp [Region.wanted], ?_⟩) ?_
        · intro w; go_simp
        refine Rest.take (i := 3) (v := .slice aB D cD) rfl (by kernel_rfl) (by kernel_rfl) (by kernel_rfl) (by kernel_rfl) (fun _ _ _ h => h) (.inl HS) (Or.inl ⟨by simp [Region.wanted], ?_⟩) ?_
        · intro w; go_simp
        refine Rest.two (i := 4) (j := 9) (by kernel_rfl) rfl rfl (fun K hK => ?_) (fun K hK => ?_)
        · refine draw_callF 11 (by kernel_rfl) (by simp [Region.wanted]) _ _ _ rfl (by simp [Act.eval, Act.put]) #[.agg (lcV gA hA.length cA sA), .slice aB D cD] (by simp [Act.eval, Act.put]) _ (KB.out _ HS) ?_
          rintro q w1 ⟨g9, c9, h9, s9, rfl, o9, l9, b9⟩
          refine ⟨_, rfl, ?_⟩
          have bb := HS.trans (b9.mono HS.size)
          have oo := o9.mono HS.size
          refine hK _ _ ⟨.inr (thru_of (by kernel_rfl)), Rest.of_any _ _ _ _ (thru_of (by kernel_rfl)) ?_⟩; clear hK K HS
          refine wpAny_take (i := 5) (v := .tuple #[.agg (lcV g9 h9.length c9 s9), .int .i64 (nB : Int), .int .i64 Eb]) rfl (by kernel_rfl) (by kernel_rfl) (by kernel_rfl) (fun _ _ _ h => h) (Or.inl ⟨by simp [Region.wanted], ?_⟩) ?_
          · intro w; go_simp
          refine wpAny_take (i := 6) (v := .agg (lcV g9 h9.length c9 s9)) rfl (by kernel_rfl) (by kernel_rfl) (by kernel_rfl) (fun _ _ _ h => h) (Or.inl ⟨by simp [Region.wanted], ?_⟩) ?_
          · intro w; go_simp
          refine wpAny_take (i := 7) (v := .int .i64 (nB : Int)) rfl (by kernel_rfl) (by kernel_rfl) (by kernel_rfl) (fun _ _ _ h => h) (Or.inl ⟨by simp [Region.wanted], ?_⟩) ?_
          · intro w; go_simp
          refine wpAny_take (i := 8) (v := .int .i64 Eb) rfl (by kernel_rfl) (by kernel_rfl) (by kernel_rfl) (fun _ _ _ h => h) (Or.inl ⟨by simp [Region.wanted], ?_⟩) ?_
          · intro w; go_simp
          refine wpAny_ready (rs := [9]) (by kernel_rfl) (by simp) ?_
          refine AllReady.cons rfl (fun K hK => ?_) AllReady.nil
          refine draw_allocL rfl rfl ?_
          intro w2 kX bX gX lX mX
          refine hK _ _ ?_; clear hK K
          refine wpAny_ready (rs := [10]) (by kernel_rfl) (by simp) ?_
          refine AllReady.cons rfl (fun K hK => ?_) AllReady.nil
          (with_reducible refine draw_storeR rowLc ?z5gd ?z5x ?z5y ?z5o kX (lcV g9 h9.length c9 s9) ?z5hx ?z5hy bX ?z5n ?z5old (by kernel_rfl) ?z5h)
          case z5o => exact rfl
          case z5gd => exact rfl
          case z5hx => simp [Act.eval, Act.put]
          case z5hy => simp [Act.eval, Act.put]
          case z5n => rfl
          case z5old => rfl
          case z5h =>
          have DR := DrX.first bb oo (Nat.le_refl _) l9 gX bX lX (by have := hs_len l9; have := HB2.out; omega)
          refine hK _ _ ?_; clear hK K
          refine wpAny_take (i := 11) (v := .int .i64 (nB : Int)) rfl (by kernel_rfl) (by kernel_rfl) (by kernel_rfl) (fun _ _ _ h => h) (Or.inl ⟨by simp [Region.wanted], ?_⟩) ?_
          · intro w; go_simp
          refine wpAny_take (i := 12) (v := .int .i64 Eb) rfl (by kernel_rfl) (by kernel_rfl) (by kernel_rfl) (fun _ _ _ h => h) (Or.inl ⟨by simp [Region.wanted], ?_⟩) ?_
          · intro w; go_simp
          refine wpAny_done (by kernel_rfl) ?_ _
          simp [Act.put]
          go_wp2
          go_meet
          exact ⟨kX, g9, c9, h9, s9, rfl, rfl, rfl, DR⟩
        · refine draw_allocL rfl rfl ?_
          intro w2 kX bX gX lX mX
          replace lX : w5.heap.size ≤ kX := Nat.le_trans HS.size lX
          replace HS := HS.trans (gX.mono HS.size)
          refine hK _ _ ⟨.inl HS, ?_⟩; clear hK K gX
          refine Rest.one (i := 4) (by kernel_rfl) rfl (fun K hK => ?_)
          refine draw_callF 11 (by kernel_rfl) (by simp [Region.wanted]) _ _ _ rfl (by simp [Act.eval, Act.put]) #[.agg (lcV gA hA.length cA sA), .slice aB D cD] (by simp [Act.eval, Act.put]) _ (KB.out _ HS) ?_
          rintro q w1 ⟨g9, c9, h9, s9, rfl, o9, l9, b9⟩
          refine ⟨_, rfl, ?_⟩
          have bb := HS.trans (b9.mono HS.size)
          replace bX := bx_below bX b9
          refine hK _ _ ⟨.inr (thru_of (by kernel_rfl)), Rest.of_any _ _ _ _ (thru_of (by kernel_rfl)) ?_⟩; clear hK K HS
          refine wpAny_take (i := 5) (v := .tuple #[.agg (lcV g9 h9.length c9 s9), .int .i64 (nB : Int), .int .i64 Eb]) rfl (by kernel_rfl) (by kernel_rfl) (by kernel_rfl) (fun _ _ _ h => h) (Or.inl ⟨by simp [Region.wanted], ?_⟩) ?_
          · intro w; go_simp
          refine wpAny_take (i := 6) (v := .agg (lcV g9 h9.length c9 s9)) rfl (by kernel_rfl) (by kernel_rfl) (by kernel_rfl) (fun _ _ _ h => h) (Or.inl ⟨by simp [Region.wanted], ?_⟩) ?_
          · intro w; go_simp
          refine wpAny_take (i := 7) (v := .int .i64 (nB : Int)) rfl (by kernel_rfl) (by kernel_rfl) (by kernel_rfl) (fun _ _ _ h => h) (Or.inl ⟨by simp [Region.wanted], ?_⟩) ?_
          · intro w; go_simp
          refine wpAny_take (i := 8) (v := .int .i64 Eb) rfl (by kernel_rfl) (by kernel_rfl) (by kernel_rfl) (fun _ _ _ h => h) (Or.inl ⟨by simp [Region.wanted], ?_⟩) ?_
          · intro w; go_simp
          refine wpAny_ready (rs := [10]) (by kernel_rfl) (by simp) ?_
          refine AllReady.cons rfl (fun K hK => ?_) AllReady.nil
          (with_reducible refine draw_storeR rowLc ?z6gd ?z6x ?z6y ?z6o kX (lcV g9 h9.length c9 s9) ?z6hx ?z6hy bX ?z6n ?z6old (by kernel_rfl) ?z6h)
          case z6o => exact rfl
          case z6gd => exact rfl
          case z6hx => simp [Act.eval, Act.put]
          case z6hy => simp [Act.eval, Act.put]
          case z6n => rfl
          case z6old => rfl
          case z6h =>
          have DR := DrX.second bb o9 l9 bX mX lX (by have := hs_len l9; have := HB2.out; omega)
          refine hK _ _ ?_; clear hK K
          refine wpAny_take (i := 11) (v := .int .i64 (nB : Int)) rfl (by kernel_rfl) (by kernel_rfl) (by kernel_rfl) (fun _ _ _ h => h) (Or.inl ⟨by simp [Region.wanted], ?_⟩) ?_
          · intro w; go_simp
          refine wpAny_take (i := 12) (v := .int .i64 Eb) rfl (by kernel_rfl) (by kernel_rfl) (by kernel_rfl) (fun _ _ _ h => h) (Or.inl ⟨by simp [Region.wanted], ?_⟩) ?_
          · intro w; go_simp
          refine wpAny_done (by kernel_rfl) ?_ _
          simp [Act.put]
          go_wp2
          go_meet
          exact ⟨kX, g9, c9, h9, s9, rfl, rfl, rfl, DR⟩
      case rest =>
      obtain ⟨kB, gB, cB, hB, sB, rfl, rfl, rfl, dB⟩ := hcut
      obtain ⟨w6, rfl⟩ : ∃ w6, w6 = wc := ⟨_, rfl⟩
      try (rename_i KK hKK; refine hKK _ _ ?_; clear hKK KK)
      have z5 := dB.bel.size
      have W6 := HW5.out.below dB.bel
      have B56 := dB.bel
      have bW := W6.box
      have bB := dB.bx.box
      have HB := hid dB
      have kE := sameLcan_ex W6.own.read dB.bx.own.read (W6.lb.trans dB.bx.lb.symm) (W6.lb.symm ▸ HBK.out)
      clear dB W6 KB hld HW5
      go_upto_region 12 with (first
        | (with_reducible refine wpList_loadW rowLc (by simp [Region.wanted, yielded, Act.put]) _ rfl kW' rfl bW rfl ?_)
        | (with_reducible refine wpList_loadW rowLc (by simp [Region.wanted, yielded, Act.put]) _ rfl kB rfl bB rfl ?_)
        | (go_at_call 10; with_reducible refine kE.mono ?_; rintro e w7 ⟨rfl, b7⟩))
      have z6 := b7.size
      have B57 : Below w5.heap.size w5 w7 := bstep B56 b7
      have B7 := bstep B5 B57
      have S7 := hid (S5.out.below B57)
      have HB7 := hid (HB.out.bx.below b7)
      clear kE bW bB B56 e1 e2 e3 hNI S5
      have hld : ∀ w', Below w7.heap.size w7 w' → w'.heap[kS]? = some (.cells (lcV g1 h1.length c1 s1) 25 (0, 0)) := fun w' k => bx_below S7.out.box k
      have KG : Hid (∀ w', Below w7.heap.size w7 w' → Calls Try.prog 11 #[.agg (lcV g1 h1.length c1 s1), .slice aA k c] w' (RunE w' (k : Int) 0 tA)) := hid fun w' b => by
        have B0 : Below w.heap.size w w' := bstep B7 b
        exact run16_bx (S7.out.below b).own.read S7.out.lb HK0.out (HY2.out.below B0) (fun m hm => (HmA.out m hm).below B0) (by rw [HlA.out]; show 0 + k ≤ _; omega) HrA.out rfl rfl
      go_cut [19, 20, 21] (fun x1 x2 x3 wx => ∃ (kX g9 c9 : Nat) (h9 : List Hol) (s9 : Nat), x1 = .pointer (some ⟨kX, 0, none⟩) ∧ x2 = .int .i64 (k : Int) ∧ x3 = .int .i64 0 ∧ DrX w7 wx kX g9 c9 h9 s9 tA)
      case first =>
        have HS : Below w7.heap.size w7 w7.drew := (Below.refl _ _).drew
        refine Rest.begin (S := fun w' => Below w7.heap.size w7 w') (X := [4]) (by kernel_rfl) ?_
        change Rest _ _ _ _ _ _ _ _ _ w7.drew
        refine Rest.takeS (i := 0) (v := .agg (lcV g1 h1.length c1 s1)) rfl (by kernel_rfl) (by kernel_rfl) (by kernel_rfl) (by kernel_rfl) (fun _ _ _ h => h) HS (yields_loadR rowLc (by simp [Region.wanted]) _ rfl kS (by simp [Act.eval]) _ rfl (fun w' hw => ⟨_, _, hld w' hw⟩)) ?_
        refine Rest.take (i := 1) (v := .slice a n c) rfl (by kernel_rfl) (by kernel_rfl) (by kernel_rfl) (by kernel_rfl) (fun _ _ _ h => h) (.inl HS) (Or.inl ⟨by simp [Region.wanted], ?_⟩) ?_
        · intro w; go_simp
        refine Rest.take (i := 2) (v := .int .i64 (k : Int)) rfl (by kernel_rfl) (by kernel_rfl) (by kernel_rfl) (by kernel_rfl) (fun _ _ _ h => h) (.inl HS) (Or.inl ⟨by simp [Region.wanted], ?_⟩) ?_
        · intro w; go_simp
        refine Rest.take (i := 3) (v := .slice aA k c) rfl (by kernel_rfl) (by kernel_rfl) (by kernel_rfl) (by kernel_rfl) (fun _ _ _ h => h) (.inl HS) (Or.inl ⟨by simp [Region.wanted], ?_⟩) ?_
        · intro w; go_simp
        refine Rest.two (i := 4) (j := 9) (by kernel_rfl) rfl rfl (fun K hK => ?_) (fun K hK => ?_)
        · refine draw_callF 11 (by kernel_rfl) (by simp [Region.wanted]) _ _ _ rfl (by simp [Act.eval, Act.put]) #[.agg (lcV g1 h1.length c1 s1), .slice aA k c] (by simp [Act.eval, Act.put]) _ (KG.out _ HS) ?_
          rintro q w1 ⟨g9, c9, h9, s9, rfl, o9, l9, b9⟩
          refine ⟨_, rfl, ?_⟩
          have bb := HS.trans (b9.mono HS.size)
          have oo := o9.mono HS.size
          refine hK _ _ ⟨.inr (thru_of (by kernel_rfl)), Rest.of_any _ _ _ _ (thru_of (by kernel_rfl)) ?_⟩; clear hK K HS
          refine wpAny_take (i := 5) (v := .tuple #[.agg (lcV g9 h9.length c9 s9), .int .i64 (k : Int), .int .i64 0]) rfl (by kernel_rfl) (by kernel_rfl) (by kernel_rfl) (fun _ _ _ h => h) (Or.inl ⟨by simp [Region.wanted], ?_⟩) ?_
          · intro w; go_simp
          refine wpAny_take (i := 6) (v := .agg (lcV g9 h9.length c9 s9)) rfl (by kernel_rfl) (by kernel_rfl) (by kernel_rfl) (fun _ _ _ h => h) (Or.inl ⟨by simp [Region.wanted], ?_⟩) ?_
          · intro w; go_simp
          refine wpAny_take (i := 7) (v := .int .i64 (k : Int)) rfl (by kernel_rfl) (by kernel_rfl) (by kernel_rfl) (fun _ _ _ h => h) (Or.inl ⟨by simp [Region.wanted], ?_⟩) ?_
          · intro w; go_simp
          refine wpAny_take (i := 8) (v := .int .i64 0) rfl (by kernel_rfl) (by kernel_rfl) (by kernel_rfl) (fun _ _ _ h => h) (Or.inl ⟨by simp [Region.wanted], ?_⟩) ?_
          · intro w; go_simp
          refine wpAny_ready (rs := [9]) (by kernel_rfl) (by simp) ?_
          refine AllReady.cons rfl (fun K hK => ?_) AllReady.nil
          refine draw_allocL rfl rfl ?_
          intro w2 kX bX gX lX mX
          refine hK _ _ ?_; clear hK K
          refine wpAny_ready (rs := [10]) (by kernel_rfl) (by simp) ?_
          refine AllReady.cons rfl (fun K hK => ?_) AllReady.nil
          (with_reducible refine draw_storeR rowLc ?z7gd ?z7x ?z7y ?z7o kX (lcV g9 h9.length c9 s9) ?z7hx ?z7hy bX ?z7n ?z7old (by kernel_rfl) ?z7h)
          case z7o => exact rfl
          case z7gd => exact rfl
          case z7hx => simp [Act.eval, Act.put]
          case z7hy => simp [Act.eval, Act.put]
          case z7n => rfl
          case z7old => rfl
          case z7h =>
          have DR := DrX.first bb oo (Nat.le_refl _) l9 gX bX lX (by have := hs_len l9; have := HA2.out; omega)
          refine hK _ _ ?_; clear hK K
          refine wpAny_take (i := 11) (v := .int .i64 (k : Int)) rfl (by kernel_rfl) (by kernel_rfl) (by kernel_rfl) (fun _ _ _ h => h) (Or.inl ⟨by simp [Region.wanted], ?_⟩) ?_
          · intro w; go_simp
          refine wpAny_take (i := 12) (v := .int .i64 0) rfl (by kernel_rfl) (by kernel_rfl) (by kernel_rfl) (fun _ _ _ h => h) (Or.inl ⟨by simp [Region.wanted], ?_⟩) ?_
          · intro w; go_simp
          refine wpAny_done (by kernel_rfl) ?_ _
          simp [Act.put]
          go_wp2
          go_meet
          exact ⟨kX, g9, c9, h9, s9, rfl, rfl, rfl, DR⟩
        · refine draw_allocL rfl rfl ?_
          intro w2 kX bX gX lX mX
          replace lX : w7.heap.size ≤ kX := Nat.le_trans HS.size lX
          replace HS := HS.trans (gX.mono HS.size)
          refine hK _ _ ⟨.inl HS, ?_⟩; clear hK K gX
          refine Rest.one (i := 4) (by kernel_rfl) rfl (fun K hK => ?_)
          refine draw_callF 11 (by kernel_rfl) (by simp [Region.wanted]) _ _ _ rfl (by simp [Act.eval, Act.put]) #[.agg (lcV g1 h1.length c1 s1), .slice aA k c] (by simp [Act.eval, Act.put]) _ (KG.out _ HS) ?_
          rintro q w1 ⟨g9, c9, h9, s9, rfl, o9, l9, b9⟩
          refine ⟨_, rfl, ?_⟩
          have bb := HS.trans (b9.mono HS.size)
          replace bX := bx_below bX b9
          refine hK _ _ ⟨.inr (thru_of (by kernel_rfl)), Rest.of_any _ _ _ _ (thru_of (by kernel_rfl)) ?_⟩; clear hK K HS
          refine wpAny_take (i := 5) (v := .tuple #[.agg (lcV g9 h9.length c9 s9), .int .i64 (k : Int), .int .i64 0]) rfl (by kernel_rfl) (by kernel_rfl) (by kernel_rfl) (fun _ _ _ h => h) (Or.inl ⟨by simp [Region.wanted], ?_⟩) ?_
          · intro w; go_simp
          refine wpAny_take (i := 6) (v := .agg (lcV g9 h9.length c9 s9)) rfl (by kernel_rfl) (by kernel_rfl) (by kernel_rfl) (fun _ _ _ h => h) (Or.inl ⟨by simp [Region.wanted], ?_⟩) ?_
          · intro w; go_simp
          refine wpAny_take (i := 7) (v := .int .i64 (k : Int)) rfl (by kernel_rfl) (by kernel_rfl) (by kernel_rfl) (fun _ _ _ h => h) (Or.inl ⟨by simp [Region.wanted], ?_⟩) ?_
          · intro w; go_simp
          refine wpAny_take (i := 8) (v := .int .i64 0) rfl (by kernel_rfl) (by kernel_rfl) (by kernel_rfl) (fun _ _ _ h => h) (Or.inl ⟨by simp [Region.wanted], ?_⟩) ?_
          · intro w; go_simp
          refine wpAny_ready (rs := [10]) (by kernel_rfl) (by simp) ?_
          refine AllReady.cons rfl (fun K hK => ?_) AllReady.nil
          (with_reducible refine draw_storeR rowLc ?z8gd ?z8x ?z8y ?z8o kX (lcV g9 h9.length c9 s9) ?z8hx ?z8hy bX ?z8n ?z8old (by kernel_rfl) ?z8h)
          case z8o => exact rfl
          case z8gd => exact rfl
          case z8hx => simp [Act.eval, Act.put]
          case z8hy => simp [Act.eval, Act.put]
          case z8n => rfl
          case z8old => rfl
          case z8h =>
          have DR := DrX.second bb o9 l9 bX mX lX (by have := hs_len l9; have := HA2.out; omega)
          refine hK _ _ ?_; clear hK K
          refine wpAny_take (i := 11) (v := .int .i64 (k : Int)) rfl (by kernel_rfl) (by kernel_rfl) (by kernel_rfl) (fun _ _ _ h => h) (Or.inl ⟨by simp [Region.wanted], ?_⟩) ?_
          · intro w; go_simp
          refine wpAny_take (i := 12) (v := .int .i64 0) rfl (by kernel_rfl) (by kernel_rfl) (by kernel_rfl) (fun _ _ _ h => h) (Or.inl ⟨by simp [Region.wanted], ?_⟩) ?_
          · intro w; go_simp
          refine wpAny_done (by kernel_rfl) ?_ _
          simp [Act.put]
          go_wp2
          go_meet
          exact ⟨kX, g9, c9, h9, s9, rfl, rfl, rfl, DR⟩
      case rest =>
      obtain ⟨kG, gG, cG, hG, sG, rfl, rfl, rfl, dG⟩ := hcut
      obtain ⟨w8, rfl⟩ : ∃ w8, w8 = wc := ⟨_, rfl⟩
      try (rename_i KK hKK; refine hKK _ _ ?_; clear hKK KK)
      have z7 := dG.bel.size
      have B58 : Below w5.heap.size w5 w8 := bstep B57 dG.bel
      have HG := hid dG
      obtain ⟨nb, hnb⟩ : ∃ nb, nb = hB.length := ⟨_, rfl⟩
      have HP0 : Hid (PaS w5.heap.size w7.heap.size w8 w8 kB gB cB nb sB hB) := hid (by
        have h7 := HB7.out
        have hl : 0 < hB.length := by have := h7.len; have := HB2.out; omega
        exact ⟨h7.own.below dG.bel, hnb.symm, by rw [hnb]; exact bx_below h7.box dG.bel, HB.out.n1, HB.out.n2, (h7.own.nlt hl).1, fun h hh p hp => ((h7.own.tok h hh).ltB hp).1, (h7.own.nlt hl).2, Ch.of_below (Below.refl _ _)⟩)
      have hnb32 : nb ≤ 32 := by have := HBK.out.n32; have := HB7.out.len; omega
      have q0 := (two_lc HP0.out.box).1
      clear dG KG hld HB HB7 hnb S7 B57
      go_wp2
      go_loopg [126] nb (fun gm vi wr => ∃ (i : Nat) (hs : List Hol), i ≤ nb ∧ gm = nb - i ∧ vi = .int .i64 (i : Int) ∧ Hid (PaS w5.heap.size w7.heap.size w8 wr kB gB cB nb sB hs))
      case atStart => exact ⟨0, hB, by omega, by omega, rfl, HP0⟩
      case round =>
        clear q0
        obtain ⟨i, hs, hi, rfl, rfl, P⟩ := hrel
        by_cases hlt : i < nb
        · have i1 : (i : Int) < (nb : Int) := by omega
          have i2 : i < hs.length := by have := P.out.len; omega
          obtain ⟨x, hx⟩ : ∃ x, hs[i]? = some x := ⟨_, List.getElem?_eq_getElem i2⟩
          have q0 := (two_lc P.out.box).1
          have c3 : wr.cell? ⟨gB, i * 9 + 7, none⟩ = some (.bool x.x.cr) := P.out.own.cell (j := 7) hx rfl
          have f3 : wr.frozen? ⟨gB, i * 9 + 7, none⟩ = false := P.out.own.thaw (by omega) _
          have P1 := hid (P.out.crash hx)
          have hx1 : (hs.set i { x with x := { x.x with cr := true } })[i]? = some { x with x := { x.x with cr := true } } := List.getElem?_set_self i2
          have HX1 := hid hx1
          clear P hx hx1
          go_upto_region 17 with (fail)
          clear q0 c3 f3
          generalize wr.setCell ⟨gB, i * 9 + 7, none⟩ (.bool true) = w9 at *
          obtain ⟨T, hT⟩ : ∃ T, T = x.x.took.length := ⟨_, rfl⟩
          have q0 := (two_lc P1.out.box).1
          have c2 : w9.cell? ⟨gB, i * 9 + 6, none⟩ = some (.slice x.ta T x.tc) := by rw [hT]; exact P1.out.own.cell (j := 6) HX1.out rfl
          obtain ⟨hs1, y0, I0⟩ : ∃ hs1 y0, Hid (PaS w5.heap.size w7.heap.size w8 w9 kB gB cB nb sB hs1 ∧ hs1[i]? = some y0 ∧ y0.ta = x.ta ∧ y0.tc = x.tc ∧ y0.x.took.length = T) := ⟨_, _, hid ⟨P1.out, HX1.out, rfl, rfl, hT.symm⟩⟩
          clear P1 HX1 hT
          have hT32 : T ≤ 9223372036854775807 := by
            have h1 := I0.out.1.own.tok _ (List.mem_of_getElem? I0.out.2.1)
            have h2 := I0.out.2.2.2.2
            rcases h1.own.2 with ⟨h', h3⟩ | ⟨g, cap, cur, h', hb, hg, hnc, hcm, hcs, htake⟩
            · omega
            · unfold maxLen at hcm; omega
          go_wp2
          go_loopg [141] T (fun gm vj wr => ∃ (j : Nat) (hs' : List Hol) (y : Hol), j ≤ T ∧ gm = T - j ∧ vj = .int .i64 (j : Int) ∧ Hid (PaS w5.heap.size w7.heap.size w8 wr kB gB cB nb sB hs' ∧ hs'[i]? = some y ∧ y.ta = x.ta ∧ y.tc = x.tc ∧ y.x.took.length = T))
          case atStart => exact ⟨0, hs1, y0, by omega, by omega, rfl, I0⟩
          case round =>
            clear q0 c2 I0
            obtain ⟨j, hs', y, hj, rfl, rfl, Q⟩ := hrel
            by_cases hlj : j < T
            · have i3 : (j : Int) < (T : Int) := by omega
              obtain ⟨Q1, Q2, Q3, Q4, Q5⟩ := Q.out
              have hto := Q1.own.tok y (List.mem_of_getElem? Q2)
              obtain ⟨bt, hta⟩ : ∃ bt, y.ta = some ⟨bt, 0, none⟩ := by
                rcases hto.ex with ⟨_, h2, _⟩ | ⟨bt, cur, h1, _, h3, _⟩
                · omega
                · exact ⟨bt, h1⟩
              obtain ⟨bj, hbj⟩ : ∃ bj, y.x.took[j]? = some bj := ⟨_, List.getElem?_eq_getElem (by omega)⟩
              have R1 := Q1.drew 1
              have ht1 := R1.own.tok y (List.mem_of_getElem? Q2)
              rw [hta] at ht1
              have q0 : wr.drew.cell? ⟨kB, 0, none⟩ = some (.slice (some ⟨gB, 0, none⟩) nb cB) := (two_lc R1.box).1
              have q3 : wr.drew.cell? ⟨gB, i * 9 + 6, none⟩ = some (.slice (some ⟨bt, 0, none⟩) T y.tc) := by
                rw [← hta, ← Q5]; exact R1.own.cell (j := 6) Q2 rfl
              have q4 : wr.drew.cell? ⟨bt, j, none⟩ = some (.bool bj) := (ht1.cellAt hbj).1
              have f4 : wr.drew.frozen? ⟨bt, j, none⟩ = false := (ht1.cellAt hbj).2
              have R2 := hid (R1.flip (j := j) Q2 hta (!bj))
              have hl' : i < hs'.length := (List.getElem?_eq_some_iff.1 Q2).1
              have R3 : Hid ((hs'.set i (markV y j (!bj)))[i]? = some (markV y j (!bj)) ∧ (markV y j (!bj)).ta = x.ta ∧ (markV y j (!bj)).tc = x.tc ∧ (markV y j (!bj)).x.took.length = T) := hid ⟨List.getElem?_set_self hl', Q3, Q4, by show (List.set _ _ _).length = _; rw [List.length_set]; exact Q5⟩
              clear Q1 Q2 Q3 Q4 Q5 Q hto hbj hta R1 ht1 hl'
              go_upto_region 20 with (fail)
              refine wp_region_still_tail 18 (by kernel_rfl) (by kernel_rfl) ?_
              simp only [List.take_succ_cons, List.take_zero, List.drop_succ_cons, List.drop_zero]
              repeat still_step
              refine wpStill_nil ?_
              change wpList _ _ _ _ _ wr.drew
              go_wp2
              go_roundg (T - (j + 1))
              case measure => omega
              case rel => exact ⟨j + 1, _, _, by omega, rfl, by first | rfl | simp, hid ⟨R2.out, R3.out⟩⟩
            · obtain rfl : j = T := by omega
              go_wp2
              go_roundg (nb - (i + 1))
              case measure => omega
              case rel => exact ⟨i + 1, hs', by omega, rfl, by first | rfl | simp, hid Q.out.1⟩
        · obtain rfl : i = nb := by omega
          have BA : Below w5.heap.size w5 wr := P.out.ch.below B58 (Nat.le_refl _) (fun b hb => hb.1)
          have A9 := HA.out.bx.below BA
          have G9 : BxL w7.heap.size wr kG gG cG hG sG tA := ⟨P.out.ch.bx HG.out.bx.box (fun e => by have := HG.out.lo; have := e.2; omega), HG.out.bx.own.kept fun b hb hl => P.out.ch.block b hl (fun e => by have := e.2; omega), HG.out.bx.lb⟩
          have bA := A9.box
          have bG := G9.box
          have kE := sameLcan_ex A9.own.read G9.own.read (A9.lb.trans G9.lb.symm) (A9.lb.symm ▸ HAK.out)
          have B9 := bstep B5 BA
          clear A9 G9 P
          by_cases hD0 : D = 0
          · have d1 : ((D : Int) == (0 : Int)) = true := by simp [hD0]
            clear kE bA bG
            go_wp2_with (first
              | (go_at_call 7; with_reducible refine (awake16_any _).mono ?_; rintro e w10 ⟨rfl, b10⟩))
            go_ret
            exact ⟨rfl, bstep B9 b10⟩
          · have d1 : ((D : Int) == (0 : Int)) = false := by simp; omega
            by_cases hn0 : nB = 0
            · have d2 : ((nB : Int) == (0 : Int)) = true := by simp [hn0]
              clear kE bA bG
              go_wp2_with (first
                | (go_at_call 7; with_reducible refine (awake16_any _).mono ?_; rintro e w10 ⟨rfl, b10⟩))
              go_ret
              exact ⟨rfl, bstep B9 b10⟩
            · have d2 : ((nB : Int) == (0 : Int)) = false := by simp; omega
              go_wp2_with (first
                | (with_reducible refine wpList_loadW rowLc (by simp [Region.wanted, yielded, Act.put]) _ rfl kA rfl bA rfl ?_)
                | (with_reducible refine wpList_loadW rowLc (by simp [Region.wanted, yielded, Act.put]) _ rfl kG rfl bG rfl ?_)
                | (go_at_call 10; with_reducible refine kE.mono ?_; rintro e w9 ⟨rfl, b9⟩)
                | (go_at_call 7; with_reducible refine (awake16_any _).mono ?_; rintro e w10 ⟨rfl, b10⟩))
              go_ret
              exact ⟨rfl, bstep (bstep B9 b9) b10⟩
end Go.Proofs.Ytihafoeimpjdaaa
