/-
  The walk of the statement FrameLoose: for any frame and any number it returns true, and nothing that was there has changed.
-/
import Derived.Test.YtcgpdldccfpjgaaB4t
import Derived.Test.YtcgpdldccfpjgaaM4c
import Derived.Laws.BitsAllLaws
namespace Go.Proofs.Ytcgpdldccfpjgaa
open Go.RowKit Go.Sort
set_option linter.unusedVariables false

theorem loose_wrong (w : World) (id : Nat) (ext rem : Bool) (dlc : Nat) (a : Option Addr) (n c : Nat) (u : Nat) (hi : id < 4294967296) (hd : dlc < 256) (hr : riF id ext rem dlc n = false) :
    Calls Try.prog 8 #[.agg #[.int .u32 (id : Int), .bool ext, .bool rem, .int .u8 (dlc : Int), .slice a n c], .int .u8 (u : Int)] w fun e w' => e = .returned (.bool true) ∧ Below w.heap.size w w' := by
  obtain ⟨w0, hw0, hbx, _, _, _, _, _, gg0⟩ := boxed w 25 (.int .u32 (id : Int)) (.bool ext) (.bool rem) (.int .u8 (dlc : Int)) (.slice a n c)
  have hB := body_wrong w0 id ext rem dlc a n c hi hd hr
  go_enter Try.func8, Try.ntmps8
  go_wp2_with (first
    | (go_at_call 19; rw [hw0.out]; (with_reducible refine hB.mono ?_); rintro e w1 ⟨rfl, g1⟩)
    | (go_at_call 10; refine (awake4_any w1).mono ?_; rintro e w3 ⟨rfl, g3⟩))
  go_ret
  exact ⟨rfl, bstep (bstep gg0 g1) g3⟩

theorem looseSame (w : World) (id : Nat) (ext rem : Bool) (dlc : Nat) (a : Option Addr) (n c : Nat) (l : List UInt8) (a2 : Option Addr) (c2 : Nat) (h : RL bv w a n c l) (h2 : RL bv w a2 n c2 l) :
    Calls Try.prog 28 #[.agg #[.int .u32 (id : Int), .bool ext, .bool rem, .int .u8 (dlc : Int), .slice a n c], .agg #[.int .u32 (id : Int), .bool ext, .bool rem, .int .u8 (dlc : Int), .slice a2 n c2]] w fun e w' => e = .returned (.bool true) ∧ Below w.heap.size w w' := by
  have := sameFrame_any w id ext rem dlc a n c l id ext rem dlc a2 n c2 l h h2
  rw [decide_eq_true rfl] at this
  exact this

theorem and1 (q : Nat) (hq : q < 256) : (bits .and .u8 (q : Int) 1 == 1) = decide (q % 2 = 1) := by
  rw [show ((1 : Int)) = ((1 : Nat) : Int) from rfl, (u8_bits q 1 hq (by omega)).1, Nat.and_one_is_mod, Bool.eq_iff_iff]
  simp
  norm_cast

set_option maxRecDepth 100000 in
set_option maxHeartbeats 4000000 in
theorem loose_base (w : World) (id : Nat) (rem : Bool) (dlc : Nat) (a : Option Addr) (n c : Nat) (l : List UInt8) (u : Nat) (hi : id < 4294967296) (hd : dlc < 256) (h : RL bv w a n c l) (hu : u < 256) (hr : riF id false rem dlc n = true) :
    Calls Try.prog 8 #[.agg #[.int .u32 (id : Int), .bool false, .bool rem, .int .u8 (dlc : Int), .slice a n c], .int .u8 (u : Int)] w fun e w' => e = .returned (.bool true) ∧ Below w.heap.size w w' := by
  obtain ⟨w0, hw0, hbx, _, _, _, _, _, gg0⟩ := boxed w 25 (.int .u32 (id : Int)) (.bool false) (.bool rem) (.int .u8 (dlc : Int)) (.slice a n c)
  have h0 := h.below gg0
  obtain ⟨hn1, hn8, _, _⟩ := riF_long hr
  have hB := body_any w0 id false rem dlc a n c l hi hd h0 hr
  have hg : Good ⟨id, false, rem, dlc, l⟩ := (good_iff ⟨id, false, rem, dlc, l⟩ n h.len).1 hr
  obtain ⟨E, hE⟩ : ∃ E, E = 19 + 8 * n := ⟨_, rfl⟩
  have hNE : heN false + 8 * n + 15 = E + 15 := by rw [hE]; rfl
  rw [hNE] at hB
  obtain ⟨B, hBs⟩ : ∃ B, B = boL ⟨id, false, rem, dlc, l⟩ := ⟨_, rfl⟩
  rw [← hBs] at hB
  have hpl : (preL ⟨id, false, rem, dlc, l⟩).length = E := by rw [preL_length, h.len, hE]; rfl
  have hBt : B.take E = preL ⟨id, false, rem, dlc, l⟩ := by rw [hBs]; unfold boL; exact List.take_left' hpl
  have HST : Hid (shB id rem dlc l (B.take E)) := by rw [hBt]; exact shB_start _ _ _ _
  have HG := hid hg; clear hg
  have i19 : ¬ (E : Int) < 19 := by omega
  have hE2 : 19 ≤ E ∧ E ≤ 200 := by omega
  have HE := hid hE; have HN1 := hid hn1
  clear hE hNE hBs hpl hBt hn1
  go_enter Try.func8, Try.ntmps8
  go_wp2_with (first
    | (go_at_call 19; rw [hw0.out]; (with_reducible refine hB.mono ?_); rintro e w1 ⟨a1, c1, rfl, hol1, g1⟩; have hr1 := hol1.rl; have gg1 := bstep gg0 g1; have hbx1 := bx_below hbx g1; have hbx2 := bx_alloc (.cells #[.int .i64 14] 3) hbx1; obtain ⟨x0, x1, x2, x3, x4⟩ := bx5 hbx2; have hlit := heap_alloc_new w1 (.cells #[.int .i64 14] 3); have g2 := bnew0 w1 (.cells #[.int .i64 14] 3); have hr2 := hr1.below g2; obtain ⟨a3, p1, p2, hr3⟩ := run_cutTo tB hr2 .i64 E (by omega))
    | (go_at_call 12; refine (anew_any _ a3 E c1 _ hr3 (by omega)).mono ?_; rintro e w3 ⟨a4, c4, rfl, hol4, g3⟩; have hs3 := g3.size; simp only [heap_size_alloc] at hs3))
  have gg3 := bstep (bstep gg1 g2) g3
  have g01 := g1
  have g03 := bstep (bstep g1 g2) g3
  have hbx0 := hbx
  have hlit3 := bx_below hlit g3
  have hlc : w3.cell? ⟨w1.heap.size, 0, none⟩ = some (.int .i64 14) := by rw [cell_of_row w3 _ 0 _ _ _ hlit3]; rfl
  have hbx3 := bx_below hbx2 g3
  have hol4' : OL .bool 4 (w1.heap.size + 1) w3 a4 E c4 (B.take E) := hol4.mono (by simp)
  have hlt1 : w.heap.size < w1.heap.size := bx_lt hbx1
  clear hol4 hr1 hr2 hr3 hol1 g1 g2 g3 hbx hbx1 hbx2 hlit hlit3 gg1 x0 x1 x2 x3 x4 p1 p2 hB hw0 gg0
  rcases hol4'.ex with ⟨_, h9, _⟩ | ⟨gm, cur, rfl, hg0, _, _⟩
  · omega
  go_loopg [49] 1 (fun gn i wr => ∃ (k : Nat) (m : List Bool), k ≤ 1 ∧ gn = 1 - k ∧ i = .int .i64 (k : Int) ∧ OL .bool 4 (w1.heap.size + 1) wr (some ⟨gm, 0, none⟩) E c4 m ∧ Below (w1.heap.size + 1) w3 wr ∧ shB id rem dlc l m)
  case atStart => exact ⟨0, _, by omega, rfl, rfl, hol4', Below.refl _ _, HST.out⟩
  case round =>
    clear hol4'
    obtain ⟨k, m, hk, rfl, rfl, hol, hb, hsh⟩ := hrel
    have hlc2 : wr.cell? ⟨w1.heap.size, 0, none⟩ = some (.int .i64 14) := by rw [hb.cell (p := ⟨w1.heap.size, 0, none⟩) (by simp)]; exact hlc
    have HSH := hid hsh; clear hsh
    cases k with
    | zero =>
      obtain ⟨v, hv⟩ : ∃ v, m[14]? = some v := ⟨_, List.getElem?_eq_getElem (by rw [hol.len]; omega)⟩
      obtain ⟨hcv, hfv⟩ := hol.cellAt hv
      clear hv
      have hsf : Op.shift .shr .u8 (u : Int) .i64 0 = pure (.int .u8 (u : Int)) := by
        rw [shift_shr_any _ _ _ _ (by omega)]; simp
      have ha1 := and1 u hu
      have i14 : (14 : Int) < (E : Int) := by omega
      by_cases hb1 : u % 2 = 1
      · rw [decide_eq_true hb1] at ha1
        clear hb1
        go_wp2
        go_roundg 0
        case rel => exact ⟨1, _, by omega, rfl, by go_num, hol.set (!v), hb.setCell (p := ⟨gm, 14, none⟩) hg0 _, shB_set HSH.out _⟩
        case measure => omega
      · rw [decide_eq_false hb1] at ha1
        clear hb1
        go_wp2
        go_roundg 0
        case rel => exact ⟨1, m, by omega, rfl, by go_num, hol, hb, HSH.out⟩
        case measure => omega
    | succ k =>
      obtain rfl : k = 0 := by omega
      have gg4 := gg3.trans (hb.mono (by omega))
      have hb04 : Below w0.heap.size w0 wr := g03.trans (hb.mono (by have := g01.size; omega))
      have hl4 := h0.below hb04
      have hbx4 := bx_below hbx0 hb04
      have hsr := hb.size
      clear hlc2 hlc hb
      have hml := hol.len
      obtain ⟨wq, hwq⟩ : ∃ wq, wq = wr := ⟨_, rfl⟩
      subst hwq
      go_wp2_with fail
      go_loopg [12, 70] E (fun gn s i wr' => ∃ k : Nat, k ≤ E ∧ gn = E - k ∧ i = .int .i64 (k : Int) ∧ s = .int .u32 ((suV (m.take k)).toNat : Int) ∧ wr' = wq)
      case atStart => exact ⟨0, Nat.zero_le _, rfl, rfl, by rw [List.take_zero]; rfl, rfl⟩
      case round =>
        obtain ⟨k, hk, rfl, rfl, rfl, rfl⟩ := hrel
        obtain ⟨S, hS⟩ : ∃ S, S = (suV (m.take k)).toNat := ⟨_, rfl⟩
        rw [← hS]
        have hS2 : S < 32768 := by rw [hS]; exact (suV (m.take k)).isLt
        by_cases hlt : k < E
        · obtain ⟨b5, off5, x, e5, hx, hck⟩ := hol.rl.at (k := k) hlt
          cases e5
          rw [Nat.zero_add] at hck
          have hnx : (suV (m.take (k + 1))).toNat = (S * 2 % 32768) ^^^ (if S.testBit 14 != x then 17817 else 0) := by
            rw [take_snoc hx, suV_snoc, ← nxV_nat (suV (m.take k)) x, ← hS, nxV_toNat]
          obtain ⟨q, hq⟩ : ∃ q, q = S / 16384 := ⟨_, rfl⟩
          obtain ⟨T, hT⟩ : ∃ T, T = S * 2 % 32768 := ⟨_, rfl⟩
          have hT2 : T < 32768 := by omega
          have s1 : Op.shift .shr .u32 (S : Int) .u64 14 = pure (.int .u32 (q : Int)) := by
            rw [shift_shr_any _ _ _ _ (by omega), hq]; rfl
          have s2 : Op.shift .shl .u32 (S : Int) .u64 1 = pure (.int .u32 ((S * 2 : Nat) : Int)) := by
            have h1 := shift_shl_u32 (x := (S : Int)) (y := 1) (yk := .u64) (by omega) (by omega)
            rw [h1]
            have h2 : (S : Int) * 2 ^ (1 : Int).toNat = ((S * 2 : Nat) : Int) := by norm_cast
            rw [h2, IntWalk.u32_in ((S * 2 : Nat) : Int) (by omega)]
          have s3 : bits .and .u32 ((S * 2 : Nat) : Int) 32767 = (T : Int) := by
            rw [show ((32767 : Int)) = ((32767 : Nat) : Int) from rfl, u32_and_nat _ _ (by omega) (by omega), hT]
            congr 1
            exact Nat.and_two_pow_sub_one_eq_mod (S * 2) 15
          have s4 : (bits .and .u32 (q : Int) 1 == 1) = S.testBit 14 := by
            rw [show ((1 : Int)) = ((1 : Nat) : Int) from rfl, u32_and_nat _ _ (by omega) (by omega), Nat.testBit_eq_decide_div_mod_eq, Nat.and_one_is_mod, hq, Bool.eq_iff_iff]
            simp
            norm_cast
          obtain ⟨V, hV⟩ : ∃ V, V = T ^^^ 17817 := ⟨_, rfl⟩
          have s5 : bits .xor .u32 (T : Int) 17817 = (V : Int) := by
            rw [show ((17817 : Int)) = ((17817 : Nat) : Int) from rfl, u32_xor_nat _ _ (by omega) (by omega), hV]
          rw [← hT] at hnx
          obtain ⟨hi2, hhi⟩ : ∃ hi2, hi2 = S.testBit 14 := ⟨_, rfl⟩
          rw [← hhi] at hnx s4
          have HNX := hid hnx
          have HV := hid hV
          obtain ⟨U, hU⟩ : ∃ U, U = S * 2 := ⟨_, rfl⟩
          rw [← hU] at s2 s3
          have hS2i : (S : Int) < 4294967296 := by omega
          clear hnx hV hT hq hhi hx hS hU
          have iE : (k : Int) < (E : Int) := by omega
          cases hi2 <;> cases x
          · have HN : Hid ((suV (m.take (k + 1))).toNat = T) := by show _ = _; rw [HNX.out]; simp
            clear HNX
            go_wp2
            go_roundg (E - (k + 1))
            case rel => exact ⟨k + 1, by omega, rfl, by go_num, by rw [HN.out], rfl⟩
            case measure => omega
          · have HN : Hid ((suV (m.take (k + 1))).toNat = V) := by show _ = _; rw [HNX.out, HV.out]; rfl
            clear HNX
            go_wp2
            go_roundg (E - (k + 1))
            case rel => exact ⟨k + 1, by omega, rfl, by go_num, by rw [HN.out], rfl⟩
            case measure => omega
          · have HN : Hid ((suV (m.take (k + 1))).toNat = V) := by show _ = _; rw [HNX.out, HV.out]; rfl
            clear HNX
            go_wp2
            go_roundg (E - (k + 1))
            case rel => exact ⟨k + 1, by omega, rfl, by go_num, by rw [HN.out], rfl⟩
            case measure => omega
          · have HN : Hid ((suV (m.take (k + 1))).toNat = T) := by show _ = _; rw [HNX.out]; simp
            clear HNX
            go_wp2
            go_roundg (E - (k + 1))
            case rel => exact ⟨k + 1, by omega, rfl, by go_num, by rw [HN.out], rfl⟩
            case measure => omega
        · obtain rfl : k = E := by omega
          rw [List.take_of_length_le (by omega)] at hS
          have hsv : ofL S 15 = biV (suV m) := by rw [hS]; rfl
          obtain ⟨f1, f2, f3, f4⟩ := shB_end HG.out HSH.out
          have cP := fun w' a' c' h' => parse_ok w' a' (k + 15) c' (m ++ biV (suV m)) h' f1 f2
          rw [f3, f4] at cP
          dsimp only at cP
          rw [← HN1.out] at cP
          have hS64 : S < 4294967296 := by omega
          have cO := fun w' => of_any w' S 15 hS64 (by omega)
          rw [show clampM 15 = 15 from by decide, hsv] at cO
          clear hS hsv f1 f2 f3 f4
          go_wp2_with (first
            | (go_at_call 30; (with_reducible refine (cO wr).mono ?_); rintro e w5 ⟨a5, c5, rfl, hol5, g5⟩; have hol45 := hol.below g5; have hs5 := g5.size)
            | (at_builtin; refine wpList_app (f := Value.bool) (B := w1.heap.size + 1) (w := w5) tB rfl _ _ rfl rfl hol45 rfl hol5.rl (fun _ => rfl) (by omega) (by omega) (by omega) ?_; intro w6 a6 c6 hol6 g6; have hbx6 : w6.heap[w.heap.size]? = _ := (g6.block _ (by omega)).trans (bx_below hbx4 g5); have gg6 := (bstep gg4 g5).trans (g6.mono (by omega)); have hl6 : RL bv w6 a n c l := h.below gg6)
            | (go_at_call 26; refine (cP w6 a6 c6 hol6.rl).mono ?_; rintro e w7 ⟨a7, c7, rfl, hr7, g7⟩; have gg7 := bstep gg6 g7; have hbC := heap_alloc_new w7 (.cells #[.int .u32 (id : Int), .bool false, .bool rem, .int .u8 (dlc : Int), .slice a7 n c7] 25); have g8 := bnew0 w7 (.cells #[.int .u32 (id : Int), .bool false, .bool rem, .int .u8 (dlc : Int), .slice a7 n c7] 25); obtain ⟨y0, y1, y2, y3, y4⟩ := bx5 (bx_below (bx_below hbx6 g7) g8); have hr8 := hr7.below g8; have hl8 := (hl6.below g7).below g8; have gg8 := bnew gg7 (.cells #[.int .u32 (id : Int), .bool false, .bool rem, .int .u8 (dlc : Int), .slice a7 n c7] 25))
            | (go_at_call 28; (with_reducible refine (looseSame _ id false rem dlc a7 n c7 l a c hr8 hl8).mono ?_); rintro e w9 ⟨rfl, g9⟩)
            | (go_at_call 10; refine (awake4_any w9).mono ?_; rintro e w10 ⟨rfl, g10⟩))
          go_ret
          exact ⟨rfl, bstep (bstep gg8 g9) g10⟩
set_option maxRecDepth 100000 in
set_option maxHeartbeats 4000000 in
theorem loose_ext (w : World) (id : Nat) (rem : Bool) (dlc : Nat) (a : Option Addr) (n c : Nat) (l : List UInt8) (u : Nat) (hi : id < 4294967296) (hd : dlc < 256) (h : RL bv w a n c l) (hu : u < 256) (hr : riF id true rem dlc n = true) :
    Calls Try.prog 8 #[.agg #[.int .u32 (id : Int), .bool true, .bool rem, .int .u8 (dlc : Int), .slice a n c], .int .u8 (u : Int)] w fun e w' => e = .returned (.bool true) ∧ Below w.heap.size w w' := by
  obtain ⟨w0, hw0, hbx, _, _, _, _, _, gg0⟩ := boxed w 25 (.int .u32 (id : Int)) (.bool true) (.bool rem) (.int .u8 (dlc : Int)) (.slice a n c)
  have h0 := h.below gg0
  obtain ⟨hn1, hn8, _, _⟩ := riF_long hr
  have hB := body_any w0 id true rem dlc a n c l hi hd h0 hr
  have hg : Good ⟨id, true, rem, dlc, l⟩ := (good_iff ⟨id, true, rem, dlc, l⟩ n h.len).1 hr
  obtain ⟨E, hE⟩ : ∃ E, E = 39 + 8 * n := ⟨_, rfl⟩
  have hNE : heN true + 8 * n + 15 = E + 15 := by rw [hE]; rfl
  rw [hNE] at hB
  obtain ⟨B, hBs⟩ : ∃ B, B = boL ⟨id, true, rem, dlc, l⟩ := ⟨_, rfl⟩
  rw [← hBs] at hB
  have hpl : (preL ⟨id, true, rem, dlc, l⟩).length = E := by rw [preL_length, h.len, hE]; rfl
  have hBt : B.take E = preL ⟨id, true, rem, dlc, l⟩ := by rw [hBs]; unfold boL; exact List.take_left' hpl
  have HST : Hid (shE id rem dlc l (B.take E)) := by rw [hBt]; exact shE_start _ _ _ _
  have HG := hid hg; clear hg
  have i19 : ¬ (E : Int) < 19 := by omega
  have i39 : ¬ (E : Int) < 39 := by omega
  have hE2 : 39 ≤ E ∧ E ≤ 200 := by omega
  have HE := hid hE; have HN1 := hid hn1
  clear hE hNE hBs hpl hBt hn1
  go_enter Try.func8, Try.ntmps8
  go_wp2_with (first
    | (go_at_call 19; rw [hw0.out]; (with_reducible refine hB.mono ?_); rintro e w1 ⟨a1, c1, rfl, hol1, g1⟩; have hr1 := hol1.rl; have gg1 := bstep gg0 g1; have hbx1 := bx_below hbx g1; have hbx2' := bx_alloc (.cells #[.int .i64 14] 3) hbx1; have hbx2 := bx_alloc (.cells #[.int .i64 12, .int .i64 33, .int .i64 34] 3) hbx2'; obtain ⟨z0, z1, z2, z3, z4⟩ := bx5 hbx2'; obtain ⟨x0, x1, x2, x3, x4⟩ := bx5 hbx2; have hlit := heap_alloc_new (w1.alloc (.cells #[.int .i64 14] 3)) (.cells #[.int .i64 12, .int .i64 33, .int .i64 34] 3); simp only [heap_size_alloc] at hlit; have g2 := bnew (bnew0 w1 (.cells #[.int .i64 14] 3)) (.cells #[.int .i64 12, .int .i64 33, .int .i64 34] 3); have hr2 := hr1.below g2; obtain ⟨a3, p1, p2, hr3⟩ := run_cutTo tB hr2 .i64 E (by omega))
    | (go_at_call 12; refine (anew_any _ a3 E c1 _ hr3 (by omega)).mono ?_; rintro e w3 ⟨a4, c4, rfl, hol4, g3⟩; have hs3 := g3.size; simp only [heap_size_alloc] at hs3))
  have gg3 := bstep (bstep gg1 g2) g3
  have g01 := g1
  have g03 := bstep (bstep g1 g2) g3
  have hbx0 := hbx
  have hlit3 := bx_below hlit g3
  have hlc0 : w3.cell? ⟨w1.heap.size + 1, 0, none⟩ = some (.int .i64 12) := by rw [cell_of_row w3 _ 0 _ _ _ hlit3]; rfl
  have hlc1 : w3.cell? ⟨w1.heap.size + 1, 1, none⟩ = some (.int .i64 33) := by rw [cell_of_row w3 _ 1 _ _ _ hlit3]; rfl
  have hlc2 : w3.cell? ⟨w1.heap.size + 1, 2, none⟩ = some (.int .i64 34) := by rw [cell_of_row w3 _ 2 _ _ _ hlit3]; rfl
  have hbx3 := bx_below hbx2 g3
  have hol4' : OL .bool 4 (w1.heap.size + 1 + 1) w3 a4 E c4 (B.take E) := hol4.mono (by simp)
  have hlt1 : w.heap.size < w1.heap.size := bx_lt hbx1
  clear hol4 hr1 hr2 hr3 hol1 g1 g2 g3 hbx hbx1 hbx2 hlit hlit3 gg1 x0 x1 x2 x3 x4 z0 z1 z2 z3 z4 hbx2' p1 p2 hB hw0 gg0
  rcases hol4'.ex with ⟨_, h9, _⟩ | ⟨gm, cur, rfl, hg0, _, _⟩
  · omega
  go_loopg [49] 3 (fun gn i wr => ∃ (k : Nat) (m : List Bool), k ≤ 3 ∧ gn = 3 - k ∧ i = .int .i64 (k : Int) ∧ OL .bool 4 (w1.heap.size + 1 + 1) wr (some ⟨gm, 0, none⟩) E c4 m ∧ Below (w1.heap.size + 1 + 1) w3 wr ∧ shE id rem dlc l m)
  case atStart => exact ⟨0, _, by omega, rfl, rfl, hol4', Below.refl _ _, HST.out⟩
  case round =>
    clear hol4'
    obtain ⟨k, m, hk, rfl, rfl, hol, hb, hsh⟩ := hrel
    have hl0 : wr.cell? ⟨w1.heap.size + 1, 0, none⟩ = some (.int .i64 12) := by rw [hb.cell (p := ⟨w1.heap.size + 1, 0, none⟩) (by simp)]; exact hlc0
    have hl1 : wr.cell? ⟨w1.heap.size + 1, 1, none⟩ = some (.int .i64 33) := by rw [hb.cell (p := ⟨w1.heap.size + 1, 1, none⟩) (by simp)]; exact hlc1
    have hl2 : wr.cell? ⟨w1.heap.size + 1, 2, none⟩ = some (.int .i64 34) := by rw [hb.cell (p := ⟨w1.heap.size + 1, 2, none⟩) (by simp)]; exact hlc2
    have HSH := hid hsh; clear hsh
    match k, hk with
    | 0, _ =>
      obtain ⟨v, hv⟩ : ∃ v, m[12]? = some v := ⟨_, List.getElem?_eq_getElem (by rw [hol.len]; omega)⟩
      obtain ⟨hcv, hfv⟩ := hol.cellAt hv
      clear hv
      obtain ⟨q, hq⟩ : ∃ q, q = u / 1 := ⟨_, rfl⟩
      have hsf : Op.shift .shr .u8 (u : Int) .i64 0 = pure (.int .u8 (q : Int)) := by
        rw [shift_shr_any _ _ _ _ (by omega), hq]; simp
      have ha1 := and1 q (by omega)
      have i14 : (12 : Int) < (E : Int) := by omega
      clear hq
      by_cases hb1 : q % 2 = 1
      · rw [decide_eq_true hb1] at ha1
        clear hb1
        go_wp2
        go_roundg 2
        case rel => exact ⟨1, _, by omega, rfl, by go_num, hol.set (!v), hb.setCell (p := ⟨gm, 12, none⟩) hg0 _, (shE_set HSH.out _).1⟩
        case measure => omega
      · rw [decide_eq_false hb1] at ha1
        clear hb1
        go_wp2
        go_roundg 2
        case rel => exact ⟨1, m, by omega, rfl, by go_num, hol, hb, HSH.out⟩
        case measure => omega
    | 1, _ =>
      obtain ⟨v, hv⟩ : ∃ v, m[33]? = some v := ⟨_, List.getElem?_eq_getElem (by rw [hol.len]; omega)⟩
      obtain ⟨hcv, hfv⟩ := hol.cellAt hv
      clear hv
      obtain ⟨q, hq⟩ : ∃ q, q = u / 2 := ⟨_, rfl⟩
      have hsf : Op.shift .shr .u8 (u : Int) .i64 1 = pure (.int .u8 (q : Int)) := by
        rw [shift_shr_any _ _ _ _ (by omega), hq]; rfl
      have ha1 := and1 q (by omega)
      have i14 : (33 : Int) < (E : Int) := by omega
      clear hq
      by_cases hb1 : q % 2 = 1
      · rw [decide_eq_true hb1] at ha1
        clear hb1
        go_wp2
        go_roundg 1
        case rel => exact ⟨2, _, by omega, rfl, by go_num, hol.set (!v), hb.setCell (p := ⟨gm, 33, none⟩) hg0 _, (shE_set HSH.out _).2.1⟩
        case measure => omega
      · rw [decide_eq_false hb1] at ha1
        clear hb1
        go_wp2
        go_roundg 1
        case rel => exact ⟨2, m, by omega, rfl, by go_num, hol, hb, HSH.out⟩
        case measure => omega
    | 2, _ =>
      obtain ⟨v, hv⟩ : ∃ v, m[34]? = some v := ⟨_, List.getElem?_eq_getElem (by rw [hol.len]; omega)⟩
      obtain ⟨hcv, hfv⟩ := hol.cellAt hv
      clear hv
      obtain ⟨q, hq⟩ : ∃ q, q = u / 4 := ⟨_, rfl⟩
      have hsf : Op.shift .shr .u8 (u : Int) .i64 2 = pure (.int .u8 (q : Int)) := by
        rw [shift_shr_any _ _ _ _ (by omega), hq]; rfl
      have ha1 := and1 q (by omega)
      have i14 : (34 : Int) < (E : Int) := by omega
      clear hq
      by_cases hb1 : q % 2 = 1
      · rw [decide_eq_true hb1] at ha1
        clear hb1
        go_wp2
        go_roundg 0
        case rel => exact ⟨3, _, by omega, rfl, by go_num, hol.set (!v), hb.setCell (p := ⟨gm, 34, none⟩) hg0 _, (shE_set HSH.out _).2.2⟩
        case measure => omega
      · rw [decide_eq_false hb1] at ha1
        clear hb1
        go_wp2
        go_roundg 0
        case rel => exact ⟨3, m, by omega, rfl, by go_num, hol, hb, HSH.out⟩
        case measure => omega
    | 3, _ =>
      have gg4 := gg3.trans (hb.mono (by omega))
      have hb04 : Below w0.heap.size w0 wr := g03.trans (hb.mono (by have := g01.size; omega))
      have hl4 := h0.below hb04
      have hbx4 := bx_below hbx0 hb04
      have hsr := hb.size
      clear hl0 hl1 hl2 hlc0 hlc1 hlc2 hb
      have hml := hol.len
      obtain ⟨wq, hwq⟩ : ∃ wq, wq = wr := ⟨_, rfl⟩
      subst hwq
      go_wp2_with fail
      go_loopg [12, 70] E (fun gn s i wr' => ∃ k : Nat, k ≤ E ∧ gn = E - k ∧ i = .int .i64 (k : Int) ∧ s = .int .u32 ((suV (m.take k)).toNat : Int) ∧ wr' = wq)
      case atStart => exact ⟨0, Nat.zero_le _, rfl, rfl, by rw [List.take_zero]; rfl, rfl⟩
      case round =>
        obtain ⟨k, hk, rfl, rfl, rfl, rfl⟩ := hrel
        obtain ⟨S, hS⟩ : ∃ S, S = (suV (m.take k)).toNat := ⟨_, rfl⟩
        rw [← hS]
        have hS2 : S < 32768 := by rw [hS]; exact (suV (m.take k)).isLt
        by_cases hlt : k < E
        · obtain ⟨b5, off5, x, e5, hx, hck⟩ := hol.rl.at (k := k) hlt
          cases e5
          rw [Nat.zero_add] at hck
          have hnx : (suV (m.take (k + 1))).toNat = (S * 2 % 32768) ^^^ (if S.testBit 14 != x then 17817 else 0) := by
            rw [take_snoc hx, suV_snoc, ← nxV_nat (suV (m.take k)) x, ← hS, nxV_toNat]
          obtain ⟨q, hq⟩ : ∃ q, q = S / 16384 := ⟨_, rfl⟩
          obtain ⟨T, hT⟩ : ∃ T, T = S * 2 % 32768 := ⟨_, rfl⟩
          have hT2 : T < 32768 := by omega
          have s1 : Op.shift .shr .u32 (S : Int) .u64 14 = pure (.int .u32 (q : Int)) := by
            rw [shift_shr_any _ _ _ _ (by omega), hq]; rfl
          have s2 : Op.shift .shl .u32 (S : Int) .u64 1 = pure (.int .u32 ((S * 2 : Nat) : Int)) := by
            have h1 := shift_shl_u32 (x := (S : Int)) (y := 1) (yk := .u64) (by omega) (by omega)
            rw [h1]
            have h2 : (S : Int) * 2 ^ (1 : Int).toNat = ((S * 2 : Nat) : Int) := by norm_cast
            rw [h2, IntWalk.u32_in ((S * 2 : Nat) : Int) (by omega)]
          have s3 : bits .and .u32 ((S * 2 : Nat) : Int) 32767 = (T : Int) := by
            rw [show ((32767 : Int)) = ((32767 : Nat) : Int) from rfl, u32_and_nat _ _ (by omega) (by omega), hT]
            congr 1
            exact Nat.and_two_pow_sub_one_eq_mod (S * 2) 15
          have s4 : (bits .and .u32 (q : Int) 1 == 1) = S.testBit 14 := by
            rw [show ((1 : Int)) = ((1 : Nat) : Int) from rfl, u32_and_nat _ _ (by omega) (by omega), Nat.testBit_eq_decide_div_mod_eq, Nat.and_one_is_mod, hq, Bool.eq_iff_iff]
            simp
            norm_cast
          obtain ⟨V, hV⟩ : ∃ V, V = T ^^^ 17817 := ⟨_, rfl⟩
          have s5 : bits .xor .u32 (T : Int) 17817 = (V : Int) := by
            rw [show ((17817 : Int)) = ((17817 : Nat) : Int) from rfl, u32_xor_nat _ _ (by omega) (by omega), hV]
          rw [← hT] at hnx
          obtain ⟨hi2, hhi⟩ : ∃ hi2, hi2 = S.testBit 14 := ⟨_, rfl⟩
          rw [← hhi] at hnx s4
          have HNX := hid hnx
          have HV := hid hV
          obtain ⟨U, hU⟩ : ∃ U, U = S * 2 := ⟨_, rfl⟩
          rw [← hU] at s2 s3
          have hS2i : (S : Int) < 4294967296 := by omega
          clear hnx hV hT hq hhi hx hS hU
          have iE : (k : Int) < (E : Int) := by omega
          cases hi2 <;> cases x
          · have HN : Hid ((suV (m.take (k + 1))).toNat = T) := by show _ = _; rw [HNX.out]; simp
            clear HNX
            go_wp2
            go_roundg (E - (k + 1))
            case rel => exact ⟨k + 1, by omega, rfl, by go_num, by rw [HN.out], rfl⟩
            case measure => omega
          · have HN : Hid ((suV (m.take (k + 1))).toNat = V) := by show _ = _; rw [HNX.out, HV.out]; rfl
            clear HNX
            go_wp2
            go_roundg (E - (k + 1))
            case rel => exact ⟨k + 1, by omega, rfl, by go_num, by rw [HN.out], rfl⟩
            case measure => omega
          · have HN : Hid ((suV (m.take (k + 1))).toNat = V) := by show _ = _; rw [HNX.out, HV.out]; rfl
            clear HNX
            go_wp2
            go_roundg (E - (k + 1))
            case rel => exact ⟨k + 1, by omega, rfl, by go_num, by rw [HN.out], rfl⟩
            case measure => omega
          · have HN : Hid ((suV (m.take (k + 1))).toNat = T) := by show _ = _; rw [HNX.out]; simp
            clear HNX
            go_wp2
            go_roundg (E - (k + 1))
            case rel => exact ⟨k + 1, by omega, rfl, by go_num, by rw [HN.out], rfl⟩
            case measure => omega
        · obtain rfl : k = E := by omega
          rw [List.take_of_length_le (by omega)] at hS
          have hsv : ofL S 15 = biV (suV m) := by rw [hS]; rfl
          obtain ⟨f1, f2, f3, f4⟩ := shE_end HG.out HSH.out
          have cP := fun w' a' c' h' => parse_ok w' a' (k + 15) c' (m ++ biV (suV m)) h' f1 f2
          rw [f3, f4] at cP
          dsimp only at cP
          rw [← HN1.out] at cP
          have hS64 : S < 4294967296 := by omega
          have cO := fun w' => of_any w' S 15 hS64 (by omega)
          rw [show clampM 15 = 15 from by decide, hsv] at cO
          clear hS hsv f1 f2 f3 f4
          go_wp2_with (first
            | (go_at_call 30; (with_reducible refine (cO wr).mono ?_); rintro e w5 ⟨a5, c5, rfl, hol5, g5⟩; have hol45 := hol.below g5; have hs5 := g5.size)
            | (at_builtin; refine wpList_app (f := Value.bool) (B := w1.heap.size + 1 + 1) (w := w5) tB rfl _ _ rfl rfl hol45 rfl hol5.rl (fun _ => rfl) (by omega) (by omega) (by omega) ?_; intro w6 a6 c6 hol6 g6; have hbx6 : w6.heap[w.heap.size]? = _ := (g6.block _ (by omega)).trans (bx_below hbx4 g5); have gg6 := (bstep gg4 g5).trans (g6.mono (by omega)); have hl6 : RL bv w6 a n c l := h.below gg6)
            | (go_at_call 26; refine (cP w6 a6 c6 hol6.rl).mono ?_; rintro e w7 ⟨a7, c7, rfl, hr7, g7⟩; have gg7 := bstep gg6 g7; have hbC := heap_alloc_new w7 (.cells #[.int .u32 (id : Int), .bool true, .bool rem, .int .u8 (dlc : Int), .slice a7 n c7] 25); have g8 := bnew0 w7 (.cells #[.int .u32 (id : Int), .bool true, .bool rem, .int .u8 (dlc : Int), .slice a7 n c7] 25); obtain ⟨y0, y1, y2, y3, y4⟩ := bx5 (bx_below (bx_below hbx6 g7) g8); have hr8 := hr7.below g8; have hl8 := (hl6.below g7).below g8; have gg8 := bnew gg7 (.cells #[.int .u32 (id : Int), .bool true, .bool rem, .int .u8 (dlc : Int), .slice a7 n c7] 25))
            | (go_at_call 28; (with_reducible refine (looseSame _ id true rem dlc a7 n c7 l a c hr8 hl8).mono ?_); rintro e w9 ⟨rfl, g9⟩)
            | (go_at_call 10; refine (awake4_any w9).mono ?_; rintro e w10 ⟨rfl, g10⟩))
          go_ret
          exact ⟨rfl, bstep (bstep gg8 g9) g10⟩

theorem frameLoose_walk (w : World) (id : Nat) (ext rem : Bool) (dlc : Nat) (a : Option Addr) (n c : Nat) (l : List UInt8) (u : Nat) (hi : id < 4294967296) (hd : dlc < 256) (h : RL bv w a n c l) (hu : u < 256) (m1 : n ≤ 9223372036854775807) :
    Calls Try.prog 8 #[.agg #[.int .u32 (id : Int), .bool ext, .bool rem, .int .u8 (dlc : Int), .slice a n c], .int .u8 (u : Int)] w fun e w' => e = .returned (.bool true) ∧ Below w.heap.size w w' := by
  cases hr : riF id ext rem dlc n
  · exact loose_wrong w id ext rem dlc a n c u hi hd hr
  · cases ext
    · exact loose_base w id rem dlc a n c l u hi hd h hu hr
    · exact loose_ext w id rem dlc a n c l u hi hd h hu hr
end Go.Proofs.Ytcgpdldccfpjgaa
