/-
  LcanTwice, walked: what may happen may happen again if it is a take or a crash, and nothing else may.
-/
import Derived.Test.YtihafoeimpjdaaaZ3
namespace Go.Proofs.Ytihafoeimpjdaaa
open Go.RowKit Go.Sort Go.Maps
set_option linter.unusedVariables false
set_option linter.unusedSimpArgs false

/-- Events one by one, the bus in a box. -/
structure TwS (w wr : World) (kS kM : Nat) (m : Ma) (k gN c : Nat) (hs : List Hol) (sil B : Nat) (s : Lb) : Prop where
  bx : BxL B wr kS gN c hs sil s
  lk : LbK s
  sl : s.sil ≤ k
  may : wr.heap[kM]? = some (.cells (mayV m) 36 (0, 0))
  bel : Below w.heap.size w wr
theorem TwS.below {w wr w1 : World} {kS kM k gN c sil B : Nat} {m : Ma} {hs : List Hol} {s : Lb} (h : TwS w wr kS kM m k gN c hs sil B s) (g : Below wr.heap.size wr w1) : TwS w w1 kS kM m k gN c hs sil B s := ⟨h.bx.below g, h.lk, h.sl, bx_below h.may g, bstep h.bel g⟩

set_option maxRecDepth 100000 in
set_option maxHeartbeats 8000000 in
theorem lcanTwice_walk (w : World) (y : Nat) (a : Option Addr) (n c : Nat) (ms : List Ma) (m : Ma) (hy : y ≤ 255) (h : MysR w a n c ms) (hm : MaR w m) (hn : n ≤ 9223372036854775807) :
    Calls Try.prog 4 #[.int .u8 (y : Int), .slice a n c, .agg (mayV m)] w fun e w' => e = .returned (.bool true) ∧ Below w.heap.size w w' := by
  obtain ⟨w0, hw0, hb0, g0⟩ := boxMay w m
  obtain ⟨kM, hkM⟩ : ∃ kM, kM = w.heap.size := ⟨_, rfl⟩
  rw [← hkM] at hb0
  obtain ⟨r, hr⟩ : ∃ r, r = y % 31 := ⟨_, rfl⟩
  have hr31 : r < 31 := by omega
  have hr1 : (y : Int) % 31 = (r : Int) := by omega
  have hln := h.row.len
  have kN := new16_lit w0 (2 + (r : Int)) (2 + r) (by omega) (by omega) (by omega)
  have HY := hid h
  have HM := hid hm
  have HKM := hid hkM
  clear h hm hr hkM
  go_enter Try.func4, Try.ntmps4
  go_upto_region 2 with (first
    | (rw [hw0.out])
    | (go_at_call 6; with_reducible refine kN.mono ?_; rintro e w1 ⟨g1, c1, h1, s1, rfl, o1, l1, b1⟩))
  rw [← HKM.out]
  have hS := BxL.new o1 l1
  have gS := bnew0 w1 (.cells (lcV g1 h1.length c1 s1) 25)
  obtain ⟨kS, hkS⟩ : ∃ kS, kS = w1.heap.size := ⟨_, rfl⟩
  rw [← hkS] at hS
  rw [← hkS]
  have hb2 := bx_below (bx_below hb0 b1) gS
  have B2 := bstep (bstep g0 b1) gS
  have kMS : kM < kS := by have := bx_lt (bx_below hb0 b1); omega
  generalize w1.alloc (.cells (lcV g1 h1.length c1 s1) 25) = w2 at *
  have HS := hid hS
  clear o1 l1 b1 gS hkS hb0 g0 kN hS
  by_cases h60 : (60 : Int) < (n : Int)
  · have d1 : decide ((n : Int) > 60) = true := decide_eq_true h60
    go_wp2_with (go_at_call 7; with_reducible refine (awake16_any _).mono ?_; rintro e w3 ⟨rfl, b3⟩)
    go_ret
    exact ⟨rfl, bstep B2 b3⟩
  · have hn60 : n ≤ 60 := by omega
    have d1 : decide ((n : Int) > 60) = false := decide_eq_false h60
    have hkw : w.heap.size ≤ kS := by have := HKM.out; omega
    clear h60
    go_upto_region 5 with (fail)
    have hT0 : TwS w w2 kS kM m 0 g1 c1 h1 s1 w0.heap.size (newL (2 + r)) := ⟨HS.out, newL_K (by omega) (by omega), Nat.le_refl _, hb2, B2⟩
    have HT0 := hid hT0
    clear hT0 hb2 B2 HS d1
    go_loopg [37] n (fun gn vi wr => ∃ (k gN cc : Nat) (hs : List Hol) (sil B : Nat) (s : Lb), k ≤ n ∧ gn = n - k ∧ vi = .int .i64 (k : Int) ∧ Hid (TwS w wr kS kM m k gN cc hs sil B s))
    case atStart => exact ⟨0, g1, c1, h1, s1, _, _, by omega, by omega, rfl, HT0⟩
    case round =>
      obtain ⟨k, gN, cc, hs, sil, B, s, hk, rfl, rfl, hS⟩ := hrel
      by_cases hlt : k < n
      · have i1 : (k : Int) < (n : Int) := by omega
        obtain ⟨m', hmk⟩ : ∃ m', ms[k]? = some m' := ⟨_, List.getElem?_eq_getElem (by omega)⟩
        obtain ⟨b0, off, hla, _, hrg⟩ := (HY.out.row.below hS.out.bel).range hmk
        subst hla
        have hm' := HY.out.each m' (List.mem_of_getElem? hmk)
        go_upto_region 7 with (first
          | (with_reducible refine wpList_loadM rowMay rfl _ rfl _ _ rfl (mayV m') hrg rfl ?_))
        obtain ⟨kb, hkb⟩ : ∃ kb, kb = wr.heap.size := ⟨_, rfl⟩
        rw [← hkb]
        have hba := heap_alloc_new wr (.cells (mayV m') 36)
        rw [← hkb] at hba
        have hS4 := hS.out.below (bnew0 wr (.cells (mayV m') 36))
        clear hkb hrg hS hmk
        generalize wr.alloc (.cells (mayV m') 36) = w4 at *
        have hbx := hS4.bx.box
        have kT := step16_bx hS4.bx hS4.lk (hm'.below hS4.bel) (by have := hS4.sl; omega)
        have hS5 := hid hS4
        have lkS : kS < w4.heap.size := bx_lt hbx
        have HM' := hid hm'
        clear hS4 hm'
        go_wp2_with (first
          | (with_reducible refine wpList_loadR rowLc rfl _ rfl kS rfl hbx rfl ?_)
          | (with_reducible refine wpList_loadR rowMay rfl _ rfl kb rfl hba rfl ?_)
          | (go_at_call 9; (with_reducible refine kT.mono ?_); rintro e w5 ⟨g5, c5, h5, s5, rfl, o5, l5, b5⟩
             have hbx5 := bx_below hbx b5)
          | (with_reducible refine wpList_storeR rowLc rfl _ _ rfl kS (lcV g5 h5.length c5 s5) rfl rfl hbx5 rfl rfl (by kernel_rfl) ?_))
        have hN := nextL_K (s0 := s) (e := m'.ev) hS5.out.lk ev_len
        have hT : TwS w (w5.setRow kS (lcV g5 h5.length c5 s5)) kS kM m (k + 1) g5 c5 h5 s5 w4.heap.size (nextL s m'.ev) :=
          ⟨BxL.put o5 l5 hbx5 lkS, hN.1, by have := hS5.out.sl; omega, (setRow_other _ _ _ _ (by omega)).trans (bx_below hS5.out.may b5), below_setRow (bstep hS5.out.bel b5) hkw _⟩
        have HT := hid hT
        clear hT hN
        go_roundg (n - (k + 1))
        case measure => omega
        case rel => exact ⟨k + 1, g5, c5, h5, s5, _, _, by omega, rfl, by first | rfl | simp, HT⟩
      · obtain rfl : k = n := by omega
        have hbx := hS.out.bx.box
        have hmx := hS.out.may
        have kT := step16_bx hS.out.bx hS.out.lk (HM.out.below hS.out.bel) (by have := hS.out.sl; omega)
        cases hst : stL s m.ev with
        | none =>
          have kT2 := kT.mono fun e w5 h => stp_none h hst
          clear kT hst
          go_wp2_with (first
            | (with_reducible refine wpList_loadR rowLc rfl _ rfl kS rfl hbx rfl ?_)
            | (with_reducible refine wpList_loadR rowMay rfl _ rfl kM rfl hmx rfl ?_)
            | (go_at_call 9; (with_reducible refine kT2.mono ?_); rintro e w5 ⟨g5, c5, h5, s5, rfl, o5, l5, b5⟩
               have b6 := bnew b5 (.cells (lcV g5 h5.length c5 s5) 25))
            | (go_at_call 7; with_reducible refine (awake16_any _).mono ?_; rintro e w7 ⟨rfl, b7⟩))
          go_ret
          exact ⟨rfl, bstep (bstep hS.out.bel b6) b7⟩
        | some t =>
          have kT2 := kT.mono fun e w5 h => stp_some h hst
          have hK2 := hS.out.lk.step ev_len hst
          have tw := stL_twice hst
          have HST := hid hst
          clear kT hst
          go_upto_region 12 with (first
            | (with_reducible refine wpList_loadR rowLc rfl _ rfl kS rfl hbx rfl ?_)
            | (with_reducible refine wpList_loadR rowMay rfl _ rfl kM rfl hmx rfl ?_)
            | (go_at_call 9; (with_reducible refine kT2.mono ?_); rintro e w5 ⟨g5, c5, h5, s5, rfl, o5, l5, b5⟩))
          have hA := BxL.new o5 l5
          have gA := bnew0 w5 (.cells (lcV g5 h5.length c5 s5) 25)
          obtain ⟨kA, hkA⟩ : ∃ kA, kA = w5.heap.size := ⟨_, rfl⟩
          rw [← hkA] at hA
          rw [← hkA]
          have hm6 := bx_below (bx_below hmx b5) gA
          have B6 := bstep (bstep hS.out.bel b5) gA
          have sl6 := hS.out.sl
          clear o5 l5 b5 gA hkA hbx hmx kT2 hS
          generalize w5.alloc (.cells (lcV g5 h5.length c5 s5) 25) = w6 at *
          have hbA := hA.box
          have kT3 := step16_bx hA hK2.1 (HM.out.below B6) (by have := hK2.2; omega)
          have HA := hid hA
          have HK2 := hid hK2
          clear hA hK2
          by_cases h4 : m.what = 4
          · have h2 := tw.1 (.inr h4)
            have kT4 := kT3.mono fun e w7 h => stp_some h h2
            clear kT3
            go_upto_region 13 with (first
              | (with_reducible refine wpList_loadR rowLc rfl _ rfl kA rfl hbA rfl ?_)
              | (with_reducible refine wpList_loadR rowMay rfl _ rfl kM rfl hm6 rfl ?_)
              | (go_at_call 9; (with_reducible refine kT4.mono ?_); rintro e w7 ⟨g7, c7, h7, s7, rfl, o7, l7, b7⟩))
            have hB := BxL.new o7 l7
            have gB := bnew0 w7 (.cells (lcV g7 h7.length c7 s7) 25)
            obtain ⟨kB, hkB⟩ : ∃ kB, kB = w7.heap.size := ⟨_, rfl⟩
            rw [← hkB] at hB
            rw [← hkB]
            have hm8 := bx_below (bx_below hm6 b7) gB
            have hA8 := (HA.out.below b7).below gB
            have B8 := bstep (bstep B6 b7) gB
            clear o7 l7 b7 gB hkB hbA kT4 HA hm6 B6
            generalize w7.alloc (.cells (lcV g7 h7.length c7 s7) 25) = w8 at *
            have c0 := (may_cells hm8).1
            have hbA := hA8.box
            have hbB := hB.box
            have kS2 := sameLcan_ex hA8.own.read hB.own.read (hA8.lb.trans hB.lb.symm) (hA8.lb.symm ▸ HK2.out.1)
            rw [h4] at c0
            clear hA8 hB HK2 hm8
            go_wp2_with (first
              | (with_reducible refine wpList_loadW rowLc (by simp [Region.wanted, yielded, Act.put]) _ rfl kA rfl hbA rfl ?_)
              | (with_reducible refine wpList_loadW rowLc (by simp [Region.wanted, yielded, Act.put]) _ rfl kB rfl hbB rfl ?_)
              | (go_at_call 10; with_reducible refine kS2.mono ?_; rintro e w9 ⟨rfl, b9⟩)
              | (go_at_call 7; with_reducible refine (awake16_any _).mono ?_; rintro e w10 ⟨rfl, b10⟩))
            go_ret
            exact ⟨rfl, bstep (bstep B8 b9) b10⟩
          · by_cases h3 : m.what = 3
            · have h2 := tw.1 (.inl h3)
              have kT4 := kT3.mono fun e w7 h => stp_some h h2
              clear kT3
              go_upto_region 13 with (first
                | (with_reducible refine wpList_loadR rowLc rfl _ rfl kA rfl hbA rfl ?_)
                | (with_reducible refine wpList_loadR rowMay rfl _ rfl kM rfl hm6 rfl ?_)
                | (go_at_call 9; (with_reducible refine kT4.mono ?_); rintro e w7 ⟨g7, c7, h7, s7, rfl, o7, l7, b7⟩))
              have hB := BxL.new o7 l7
              have gB := bnew0 w7 (.cells (lcV g7 h7.length c7 s7) 25)
              obtain ⟨kB, hkB⟩ : ∃ kB, kB = w7.heap.size := ⟨_, rfl⟩
              rw [← hkB] at hB
              rw [← hkB]
              have hm8 := bx_below (bx_below hm6 b7) gB
              have hA8 := (HA.out.below b7).below gB
              have B8 := bstep (bstep B6 b7) gB
              clear o7 l7 b7 gB hkB hbA kT4 HA hm6 B6
              generalize w7.alloc (.cells (lcV g7 h7.length c7 s7) 25) = w8 at *
              have c0 := (may_cells hm8).1
              have hbA := hA8.box
              have hbB := hB.box
              have kS2 := sameLcan_ex hA8.own.read hB.own.read (hA8.lb.trans hB.lb.symm) (hA8.lb.symm ▸ HK2.out.1)
              rw [h3] at c0
              clear hA8 hB HK2 hm8
              go_wp2_with (first
                | (with_reducible refine wpList_loadW rowLc (by simp [Region.wanted, yielded, Act.put]) _ rfl kA rfl hbA rfl ?_)
                | (with_reducible refine wpList_loadW rowLc (by simp [Region.wanted, yielded, Act.put]) _ rfl kB rfl hbB rfl ?_)
                | (go_at_call 10; with_reducible refine kS2.mono ?_; rintro e w9 ⟨rfl, b9⟩)
                | (go_at_call 7; with_reducible refine (awake16_any _).mono ?_; rintro e w10 ⟨rfl, b10⟩))
              go_ret
              exact ⟨rfl, bstep (bstep B8 b9) b10⟩
            · have h2 := tw.2 (by show ¬ (m.what = 3 ∨ m.what = 4); omega)
              have kT4 := kT3.mono fun e w7 h => stp_none h h2
              clear kT3
              go_upto_region 13 with (first
                | (with_reducible refine wpList_loadR rowLc rfl _ rfl kA rfl hbA rfl ?_)
                | (with_reducible refine wpList_loadR rowMay rfl _ rfl kM rfl hm6 rfl ?_)
                | (go_at_call 9; (with_reducible refine kT4.mono ?_); rintro e w7 ⟨g7, c7, h7, s7, rfl, o7, l7, b7⟩))
              have hB := BxL.new o7 l7
              have gB := bnew0 w7 (.cells (lcV g7 h7.length c7 s7) 25)
              obtain ⟨kB, hkB⟩ : ∃ kB, kB = w7.heap.size := ⟨_, rfl⟩
              rw [← hkB] at hB
              rw [← hkB]
              have hm8 := bx_below (bx_below hm6 b7) gB
              have hA8 := (HA.out.below b7).below gB
              have B8 := bstep (bstep B6 b7) gB
              clear o7 l7 b7 gB hkB hbA kT4 HA hm6 B6
              generalize w7.alloc (.cells (lcV g7 h7.length c7 s7) 25) = w8 at *
              have c0 := (may_cells hm8).1
              have hbA := hA8.box
              have hbB := hB.box
              have kS2 := sameLcan_ex hA8.own.read hB.own.read (hA8.lb.trans hB.lb.symm) (hA8.lb.symm ▸ HK2.out.1)
              have e4 : ((m.what : Int) == 4) = false := by simp; omega
              have e3 : ((m.what : Int) == 3) = false := by simp; omega
              clear hA8 hB HK2 hm8
              go_wp2_with (first
                | (with_reducible refine wpList_loadW rowLc (by simp [Region.wanted, yielded, Act.put]) _ rfl kA rfl hbA rfl ?_)
                | (with_reducible refine wpList_loadW rowLc (by simp [Region.wanted, yielded, Act.put]) _ rfl kB rfl hbB rfl ?_)
                | (go_at_call 10; with_reducible refine kS2.mono ?_; rintro e w9 ⟨rfl, b9⟩)
                | (go_at_call 7; with_reducible refine (awake16_any _).mono ?_; rintro e w10 ⟨rfl, b10⟩))
              go_ret
              exact ⟨rfl, bstep (bstep B8 b9) b10⟩
end Go.Proofs.Ytihafoeimpjdaaa
