/-
  FlipsShift, walked: all flips so many steps later are at each step what they were so many steps ahead; windows are as they were; a list and a part of it: no step has more, and no window.
-/
import Derived.Test.YtoeeaohgihipgaaM5g
import Derived.Test.YtoeeaohgihipgaaM5h
import Derived.Test.YtoeeaohgihipgaaBase2K
namespace Go.Proofs.Ytoeeaohgihipgaa
open Go.RowKit Go.Sort
set_option linter.unusedVariables false

theorem tB : ElT Try.prog 45 4 (.bool false) 1 := ⟨by kernel_rfl, by kernel_rfl, by kernel_rfl, by kernel_rfl, by kernel_rfl⟩

theorem shift_more {f : List Fl} {k : Nat} {x : Fl} (hx : f[k]? = some x) (K : Int) : (f.take (k + 1)).map (shF K) = (f.take k).map (shF K) ++ [shF K x] := by
  rw [take_more hx, List.map_append]; rfl
theorem part_more {f q : List Fl} {k : Nat} {x : Fl} (hx : f[k]? = some x) (h : q.Sublist (f.take k)) : (q ++ [x]).Sublist (f.take (k + 1)) := by
  rw [take_more hx]; exact h.append (List.Sublist.refl _)
theorem part_skip {f q : List Fl} {k : Nat} (h : q.Sublist (f.take k)) : q.Sublist (f.take (k + 1)) := h.trans (List.take_sublist_take_left (by omega))

theorem litT (w : World) (t : Int) : RK fe 2 (w.alloc (.cells #[.int .i64 t, .int .u8 0] 38)) (some ⟨w.heap.size, 0, none⟩) 1 1 [(t, 0)] := lit1F w t 0

theorem mask_part_zero {l q : List Fl} (hf : AllF l) (hq : q.Sublist l) (s : Int) : bits BinOp.andNot IntKind.u32 (maskL q s : Int) (maskL l s : Int) = 0 := by
  have hM := maskL_u32 hf s
  have hQ : maskL q s < 4294967296 := maskL_u32 (fun x hx => hf x (hq.subset hx)) s
  show IntKind.u32.wrap ((BitVec.ofInt 32 (maskL q s : Int) &&& ~~~ BitVec.ofInt 32 (maskL l s : Int)).toNat : Int) = _
  have e2 : (BitVec.ofInt 32 (maskL q s : Int) &&& ~~~ BitVec.ofInt 32 (maskL l s : Int)).toNat = 0 := by
    apply Nat.eq_of_testBit_eq
    intro j
    rw [BitVec.ofInt_natCast, BitVec.ofInt_natCast, BitVec.testBit_toNat, BitVec.getLsbD_and, BitVec.getLsbD_not, BitVec.getLsbD_ofNat, BitVec.getLsbD_ofNat, Nat.zero_testBit]
    have hp := mask_part hq s j
    cases h1 : (maskL q s).testBit j
    · simp
    · rw [hp h1]; simp
  rw [e2]
  exact IntWalk.u32_in _ (by omega)

set_option maxRecDepth 100000 in
set_option maxHeartbeats 8000000 in
theorem flipsShift_walk (w : World) (a : Option Addr) (n c : Nat) (l : List Fl) (by0 : Nat) (t : Int) (wd0 : Nat) (ao : Option Addr) (no co : Nat) (lo : List Bool) (h : RK fe 2 w a n c l) (hu : ∀ x ∈ l, x.2 < 256) (hby : by0 < 4294967296) (ht : -9223372036854775808 ≤ t ∧ t ≤ 9223372036854775807) (hwd : wd0 < 18446744073709551616) (ho : RL .bool w ao no co lo) (hn : n ≤ 9223372036854775807) (hno : no ≤ 9223372036854775807) :
    Calls Try.prog 7 #[.slice a n c, .int .u32 (by0 : Int), .int .i64 t, .int .u64 (wd0 : Int), .slice ao no co] w fun e w' => e = .returned (.bool true) ∧ Below w.heap.size w w' := by
  clear ht
  have HU := hid hu; clear hu
  obtain ⟨K, hK⟩ : ∃ K, K = by0 % 1048576 := ⟨_, rfl⟩
  have e1 : (by0 : Int).tmod 1048576 = (K : Int) := by rw [Int.tmod_eq_emod_of_nonneg (by omega)]; omega
  have e1' : (by0 : Int) % 1048576 = (K : Int) := by omega
  have hK1 : K < 1048576 := by omega
  clear hK
  obtain ⟨W, hW⟩ : ∃ W, W = wd0 % 2199023255552 := ⟨_, rfl⟩
  have e2 : (wd0 : Int).tmod 2199023255552 = (W : Int) := by rw [Int.tmod_eq_emod_of_nonneg (by omega)]; omega
  have e2' : (wd0 : Int) % 2199023255552 = (W : Int) := by omega
  have hW1 : W < 2199023255552 := by omega
  clear hW
  go_enter Try.func7, Try.ntmps7
  go_wp2_with (first
    | (go_at_call 22; with_reducible refine (made_any w a n c l h hn HU.out).mono ?_; rintro e w1 ⟨a1, m1, c1, f, rfl, ho1, hP, g1⟩; have HP := hid hP; clear hP; have hr1 := ho1.rk eF; have hl1 := ho1.len; have hm1 : m1 ≤ 150 := (by have := HP.out.len; omega); clear ho1))
  have ho1 := ho.below g1
  have HL1 := hid hl1; clear hl1
  go_loopg [13, 14, 27] m1 (fun gn vl vs vi wr => ∃ (k : Nat) (al : Option Addr) (cl : Nat) (a3 : Option Addr) (ms cs : Nat) (q : List Fl), k ≤ m1 ∧ gn = m1 - k ∧ vi = .int .i64 (k : Int) ∧ vl = .slice al k cl ∧ vs = .slice a3 ms cs ∧ ms ≤ k ∧ Two fe 2 38 w1 wr al k cl ((f.take k).map (shF K)) a3 ms cs q ∧ q.Sublist (f.take k) ∧ (∀ x ∈ f.take k, x.1 + (K : Int) ≤ 1099511627776))
  case atStart => exact ⟨0, none, 0, none, 0, 0, [], by omega, by omega, rfl, rfl, rfl, by omega, by simpa using Two.start fe 2 38 w1, by simp, by simp⟩
  case round =>
    obtain ⟨k, al, cl, a3, ms, cs, q, hk, rfl, rfl, rfl, rfl, hms, hT, hq, htop⟩ := hrel
    have HQ := hid hq; clear hq
    have HTOP := hid htop; clear htop
    by_cases hlt : k < m1
    · obtain ⟨bk, off, s, u, rfl, hx, hbk, hc0, hc1⟩ := rf_at (hr1.below hT.bel) hlt
      obtain ⟨hb0, hb1⟩ := HP.out.bnd _ (List.mem_of_getElem? hx)
      simp only at hb0 hb1
      have HX := hid hx; clear hx
      by_cases hgt : 1099511627776 - (K : Int) < s
      · have hgw := bnew hT.bel (.cells #[.int .i64 s, .int .u8 (u : Int)] 38)
        go_wp2_with (first | (go_at_call 8; with_reducible refine (awake_any _).mono ?_; rintro e w9 ⟨rfl, g9⟩))
        go_ret
        exact ⟨rfl, bstep g1 (bstep hgw g9)⟩
      · have hT8 := hT.alloc (.cells #[.int .i64 s, .int .u8 (u : Int)] 38)
        have hbx8 := heap_alloc_new wr (.cells #[.int .i64 s, .int .u8 (u : Int)] 38)
        have hlit := lit2F wr (s + (K : Int)) u (o := .cells #[.int .i64 s, .int .u8 (u : Int)] 38)
        have hnb := hT.nb (Nat.le_refl _)
        have hsz := hT.sz
        have HSH := hid (shift_more HX.out (K : Int))
        have HTP := hid (show ∀ x ∈ f.take (k + 1), x.1 + (K : Int) ≤ 1099511627776 by
          rw [take_more HX.out]
          intro x hx
          rcases List.mem_append.1 hx with hx | hx
          · exact HTOP.out x hx
          · obtain rfl : x = (s, u) := by simpa using hx
            show s + (K : Int) ≤ _
            omega)
        have HPM := hid (part_more HX.out HQ.out)
        have HPS := hid (part_skip HQ.out)
        by_cases hko : k < no
        · obtain ⟨bo, oo, x, rfl, hxo, _⟩ := ho1.at hko
          have HXO := hid hxo; clear hxo
          cases x
          · go_wp2_with (first
              | (at_builtin; refine wpList_appgK (o := ⟨some 47, _, _, _, _, _⟩) (enc := fe) tF eF rfl _ _ rfl rfl (hT8.r1.alloc _) rfl hlit (by omega) (by omega) (by omega) (by simp; omega) ?_; intro w9 a9 c9 ho9 hb9 hk9 hs9; have hT9 := (hT8.alloc _).app ho9 hb9 hk9; have hbx9 := ((hk9 wr.heap.size (by simp; omega) hnb).1).trans (bx_alloc _ hbx8); obtain ⟨p0, p1, p2, p3⟩ := bx hbx9; obtain ⟨bo', oo', x', eo, hxo, hco⟩ := (ho1.below hT9.bel).at hko; cases eo; obtain rfl : x' = false := (by have := HXO.out; rw [hxo] at this; simpa using this); clear hxo; have hsz9 := hT9.sz; clear hT8 hbx8 hlit hnb ho9 hb9 hk9 p2 p3)
              | (at_builtin; refine wpList_appgK (o := ⟨some 62, _, _, _, _, _⟩) (enc := fe) tF eF rfl _ _ rfl rfl (hT9.r2.alloc _) rfl (lit1F w9 s u) (by omega) (by omega) (by omega) (by simp; omega) ?_; intro w10 a10 c10 ho10 hb10 hk10 hs10; have hT10 := ((hT9.swap.alloc _).app ho10 hb10 hk10).swap; clear ho10 hb10 hk10 hT9))
            go_roundg (m1 - (k + 1))
            case measure => omega
            case rel => exact ⟨k + 1, a9, c9, a10, ms + 1, c10, q ++ [(s, u)], by omega, rfl, by go_num, by go_num, by go_num, by omega, by rw [HSH.out]; exact hT10, HPM.out, HTP.out⟩
          · go_wp2_with (first
              | (at_builtin; refine wpList_appgK (o := ⟨some 47, _, _, _, _, _⟩) (enc := fe) tF eF rfl _ _ rfl rfl (hT8.r1.alloc _) rfl hlit (by omega) (by omega) (by omega) (by simp; omega) ?_; intro w9 a9 c9 ho9 hb9 hk9 hs9; have hT9 := (hT8.alloc _).app ho9 hb9 hk9; have hbx9 := ((hk9 wr.heap.size (by simp; omega) hnb).1).trans (bx_alloc _ hbx8); obtain ⟨p0, p1, p2, p3⟩ := bx hbx9; obtain ⟨bo', oo', x', eo, hxo, hco⟩ := (ho1.below hT9.bel).at hko; cases eo; obtain rfl : x' = true := (by have := HXO.out; rw [hxo] at this; simpa using this); clear hxo; have hsz9 := hT9.sz; clear hT8 hbx8 hlit hnb ho9 hb9 hk9 p2 p3))
            go_roundg (m1 - (k + 1))
            case measure => omega
            case rel => exact ⟨k + 1, a9, c9, a3, ms, cs, q, by omega, rfl, by go_num, by go_num, rfl, by omega, by rw [HSH.out]; exact hT9, HPS.out, HTP.out⟩
        · go_wp2_with (first
            | (at_builtin; refine wpList_appgK (o := ⟨some 47, _, _, _, _, _⟩) (enc := fe) tF eF rfl _ _ rfl rfl (hT8.r1.alloc _) rfl hlit (by omega) (by omega) (by omega) (by simp; omega) ?_; intro w9 a9 c9 ho9 hb9 hk9 hs9; have hT9 := (hT8.alloc _).app ho9 hb9 hk9; have hbx9 := ((hk9 wr.heap.size (by simp; omega) hnb).1).trans (bx_alloc _ hbx8); obtain ⟨p0, p1, p2, p3⟩ := bx hbx9; have hsz9 := hT9.sz; clear hT8 hbx8 hlit hnb ho9 hb9 hk9 p2 p3)
            | (at_builtin; refine wpList_appgK (o := ⟨some 62, _, _, _, _, _⟩) (enc := fe) tF eF rfl _ _ rfl rfl (hT9.r2.alloc _) rfl (lit1F w9 s u) (by omega) (by omega) (by omega) (by simp; omega) ?_; intro w10 a10 c10 ho10 hb10 hk10 hs10; have hT10 := ((hT9.swap.alloc _).app ho10 hb10 hk10).swap; clear ho10 hb10 hk10 hT9))
          go_roundg (m1 - (k + 1))
          case measure => omega
          case rel => exact ⟨k + 1, a9, c9, a10, ms + 1, c10, q ++ [(s, u)], by omega, rfl, by go_num, by go_num, by go_num, by omega, by rw [HSH.out]; exact hT10, HPM.out, HTP.out⟩
    · obtain rfl : k = m1 := by omega
      have hq := HQ.out
      have htop := HTOP.out
      have hlen1 := HL1.out
      rw [List.take_of_length_le (by rw [hlen1]; exact Nat.le_refl _)] at hq htop hT
      have hPq : RightP q := ⟨by have := hq.length_le; omega, fun x hx => HP.out.all x (hq.subset hx), List.Pairwise.sublist hq HP.out.sor⟩
      have hPl : RightP (f.map (shF K)) := ⟨by rw [List.length_map]; omega, allF_shift HP.out.all htop, sor_shift HP.out.sor K⟩
      have HPQ := hid hPq; clear hPq
      have HPL := hid hPl; clear hPl
      have HQ2 := hid hq; clear hq htop HQ HTOP
      have hrl := hT.r1.rk eF
      have hrs := hT.r2.rk eF
      have hra := hr1.below hT.bel
      have gg := bstep g1 hT.bel
      obtain ⟨L, hL⟩ : ∃ L, L = f.map (shF K) := ⟨_, rfl⟩
      rw [← hL] at hrl HPL
      have HL := hid hL; clear hL
      have HSL := hid HPL.out.2.2
      have HAL := hid HPL.out.2.1
      have HSQ := hid HPQ.out.2.2
      have HAQ := hid HPQ.out.2.1
      have hkk : k ≤ 150 := hm1
      clear hT ho1 hr1 g1
      have hand := and40 t
      obtain ⟨t2, ht2⟩ : ∃ t2, t2 = t % 1099511627776 := ⟨_, rfl⟩
      rw [← ht2] at hand
      have ht3 : 0 ≤ t2 ∧ t2 < 1099511627776 := by omega
      clear ht2
      go_wp2_with (first
        | (go_at_call 11; with_reducible refine (right_any wr al k cl L hrl (by omega)).mono ?_; rw [rightB_true HPL.out]; rintro e w2 ⟨rfl, g2⟩; have hrl := hrl.below g2; have hrs := hrs.below g2; have hra := hra.below g2; have gg2 := bstep gg g2; clear gg g2)
        | (go_at_call 11; with_reducible refine (right_any w2 a3 ms cs q hrs (by omega)).mono ?_; rw [rightB_true HPQ.out]; rintro e w3 ⟨rfl, g3⟩; have hrl := hrl.below g3; have hrs := hrs.below g3; have hra := hra.below g3; have gg3 := bstep gg2 g3; clear gg2 g3)
        | (go_at_call 18; with_reducible refine (most_any w3 al k cl L (W : Int) hrl (by omega) HSL.out HAL.out).mono ?_; rintro e w4 ⟨b1, rfl, hb1, _, g4⟩; have HB1 := hid hb1; clear hb1; have hrl := hrl.below g4; have hrs := hrs.below g4; have hra := hra.below g4; have gg4 := bstep gg3 g4; clear gg3 g4)
        | (go_at_call 18; with_reducible refine (most_any w4 a1 k c1 f (W : Int) hra (by omega) HP.out.sor HP.out.all).mono ?_; rintro e w5 ⟨b2, rfl, hb2, _, g5⟩; obtain rfl : b1 = b2 := isMost_unique HB1.out (by rw [HL.out]; exact isMost_shift K hb2); have HB2 := hid hb2; clear hb2; have hrl := hrl.below g5; have hrs := hrs.below g5; have hra := hra.below g5; have gg5 := bstep gg4 g5; clear gg4 g5)
        | (go_at_call 18; with_reducible refine (most_any w5 a3 ms cs q (W : Int) hrs (by omega) HSQ.out HAQ.out).mono ?_; rintro e w6 ⟨b3, rfl, hb3, _, g6⟩; have hle := isMost_part HP.out.sor HQ2.out hb3 HB2.out; have hle' : decide (b1 < b3) = false := (by simp; omega); clear hb3; have hrl := hrl.below g6; have hrs := hrs.below g6; have hra := hra.below g6; have gg6 := bstep gg5 g6; clear gg5 g6)
        | (go_at_call 18; with_reducible refine (most_any w6 a1 k c1 f (W : Int) hra (by omega) HP.out.sor HP.out.all).mono ?_; rintro e w7 ⟨b4, rfl, hb4, _, g7⟩; obtain rfl : b1 = b4 := isMost_unique HB2.out hb4; clear hb4; have hrl := hrl.below g7; have hrs := hrs.below g7; have hra := hra.below g7; have gg7 := bstep gg6 g7; clear gg6 g7; have ho7 := ok_lit eF 38 w7.heap.size w7 [] #[] 0 rfl rfl (by omega) (Nat.le_refl _); have hq7 := hra.below (bnew0 w7 (.cells #[] 38)))
        | (at_builtin; refine wpList_appK (o := ⟨some 95, _, _, _, _, _⟩) (enc := fe) tF eF rfl _ _ rfl rfl ho7 rfl hq7 (by omega) (by omega) (by simp) ?_; intro w8 a8 c8 ho8 hb8; rw [Nat.zero_add, List.nil_append] at ho8; have hb8 := (bnew0 w7 _).trans hb8; have hsz8 := hb8.size)
        | (at_builtin; refine wpList_appK (o := ⟨some 100, _, _, _, _, _⟩) (enc := fe) tF eF rfl _ _ rfl rfl (ho8.alloc _) rfl (litT w8 t2) (by omega) (by omega) (by simp; omega) ?_; intro w9 a9 c9 ho9 hb9; have hb9 := ((hb8.alloc (by omega) _).trans hb9); have hs9 := ho9.rk eF; have hrl := hrl.below hb9; have hrs := hrs.below hb9; have hra := hra.below hb9; have gg9 := bstep gg7 hb9; clear ho7 hq7 ho8 hb8 ho9 hb9 gg7 hsz8))
      clear hand
      have HBD := hid (show ∀ x ∈ f ++ [(t2, 0)], 0 ≤ x.1 ∧ x.1 < 1099511627776 by
        intro x hx
        rcases List.mem_append.1 hx with hx | hx
        · exact HP.out.bnd x hx
        · obtain rfl : x = (t2, 0) := by simpa using hx
          exact ht3)
      clear ht3
      go_loopg [102] (k + 1) (fun gn vi wr => ∃ i : Nat, i ≤ k + 1 ∧ gn = k + 1 - i ∧ vi = .int .i64 (i : Int) ∧ Below w9.heap.size w9 wr)
      case atStart => exact ⟨0, by omega, by omega, rfl, Below.refl _ _⟩
      case round =>
        obtain ⟨i, hi, rfl, rfl, hb⟩ := hrel
        by_cases hlt2 : i < k + 1
        · obtain ⟨bk, off, s, u, rfl, hx, hbk, hc0, hc1⟩ := rf_at (hs9.below hb) hlt2
          obtain ⟨hb0, hb1⟩ := HBD.out _ (List.mem_of_getElem? hx)
          simp only at hb0 hb1
          clear hx
          have i5 : (i : Int) < (k : Int) + 1 := by omega
          have hgw := bnew hb (.cells #[.int .i64 s, .int .u8 (u : Int)] 38)
          have hbx7 := heap_alloc_new wr (.cells #[.int .i64 s, .int .u8 (u : Int)] 38)
          have hMS : maskL L (s + (K : Int)) = maskL f s := by rw [HL.out]; exact mask_shift f K s
          have hAN := mask_part_zero HP.out.all HQ2.out s
          have km1 : ∀ w7, Below w9.heap.size w9 w7 → ∀ d os, Calls Try.prog 16 #[.slice al k cl, .int .i64 (s + (K : Int))] (grow (redrawn w7 d) os) fun e w'' => e = .returned (.int .u32 (maskL f s : Int)) ∧ ∃ p : Regrown, w'' = grow (redrawn w7 p.d) p.os := fun w7 g7 d os => by
            rw [← hMS]
            exact Calls.regrown_of (mask_any _ al k cl L _ ((hrl.below g7).below (below_regrown _ _ _)) (by omega) HSL.out HAL.out)
          have km2 : ∀ w7, Below w9.heap.size w9 w7 → ∀ d os, Calls Try.prog 16 #[.slice a1 k c1, .int .i64 s] (grow (redrawn w7 d) os) fun e w'' => e = .returned (.int .u32 (maskL f s : Int)) ∧ ∃ p : Regrown, w'' = grow (redrawn w7 p.d) p.os := fun w7 g7 d os =>
            Calls.regrown_of (mask_any _ a1 k c1 f s ((hra.below g7).below (below_regrown _ _ _)) (by omega) HP.out.sor HP.out.all)
          have km3 : ∀ w7, Below w9.heap.size w9 w7 → ∀ d os, Calls Try.prog 16 #[.slice a3 ms cs, .int .i64 s] (grow (redrawn w7 d) os) fun e w'' => e = .returned (.int .u32 (maskL q s : Int)) ∧ ∃ p : Regrown, w'' = grow (redrawn w7 p.d) p.os := fun w7 g7 d os =>
            Calls.regrown_of (mask_any _ a3 ms cs q s ((hrs.below g7).below (below_regrown _ _ _)) (by omega) HSQ.out HAQ.out)
          clear hMS
          generalize maskL f s = M at *
          generalize maskL q s = P at *
          have i1 : IntKind.i64.wrap (s + (K : Int)) = s + (K : Int) := IntWalk.i64_in _ (by omega)
          have KM1 := hid km1
          have KM2 := hid km2
          have KM3 := hid km3
          clear km1 km2 km3
          go_wp2
          generalize hw7 : wr.alloc (.cells #[.int .i64 s, .int .u8 (u : Int)] 38) = w7 at *
          clear hw7
          obtain ⟨p0, p1, p2, p3⟩ := bx hbx7
          have p0 := cell_regrown p0
          clear p1 p2 p3 hc0 hc1
          have km1 := KM1.out w7 hgw
          have km2 := KM2.out w7 hgw
          have km3 := KM3.out w7 hgw
          refine wp_region_quiet_below (by kernel_rfl) (by kernel_rfl) ?_
          repeat (go_big_quiet_step (first | (go_at_call 16; with_reducible exact km1 _ _) | (go_at_call 16; with_reducible exact km2 _ _) | (go_at_call 16; with_reducible exact km3 _ _)))
          refine wpQuiet_nil ?_
          intro w10 hw10
          have g10 : Below w7.heap.size w7 w10 := by obtain ⟨p9, rfl⟩ := hw10; exact below_regrown _ _ _
          clear hw10 km1 km2 km3 p0 hbx7
          go_wp2
          go_roundg (k + 1 - (i + 1))
          case measure => omega
          case rel => exact ⟨i + 1, by omega, rfl, by go_num, bstep hgw g10⟩
        · go_wp2_with (first | (go_at_call 8; with_reducible refine (awake_any wr).mono ?_; rintro e w11 ⟨rfl, g11⟩))
          go_ret
          exact ⟨rfl, bstep gg9 (bstep hb g11)⟩
end Go.Proofs.Ytoeeaohgihipgaa
