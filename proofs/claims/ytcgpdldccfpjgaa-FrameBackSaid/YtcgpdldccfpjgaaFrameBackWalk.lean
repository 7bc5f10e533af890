/-
  The walk of the statement FrameBack: for any two frames it returns true, and nothing that was there has changed.
-/
import Derived.Test.YtcgpdldccfpjgaaB4u
namespace Go.Proofs.Ytcgpdldccfpjgaa
open Go.RowKit Go.Sort
set_option linter.unusedVariables false

theorem cells5R' {w0 : World} {g : Nat} {E : TypeId} {v0 v1 v2 v3 v4 : Value} (h : w0.heap[g]? = some (.cells #[v0, v1, v2, v3, v4] E (0, 0))) :
    (∀ d os, (grow (redrawn w0 d) os).cell? ⟨g, 0, none⟩ = some v0) ∧ (∀ d os, (grow (redrawn w0 d) os).cell? ⟨g, 1, none⟩ = some v1) ∧ (∀ d os, (grow (redrawn w0 d) os).cell? ⟨g, 2, none⟩ = some v2) ∧
    (∀ d os, (grow (redrawn w0 d) os).cell? ⟨g, 3, none⟩ = some v3) ∧ (∀ d os, (grow (redrawn w0 d) os).cell? ⟨g, 4, none⟩ = some v4) := by
  obtain ⟨k0, k1, k2, k3, k4⟩ := bx5 h
  exact ⟨fun d os => cell_regrown k0 d os, fun d os => cell_regrown k1 d os, fun d os => cell_regrown k2 d os, fun d os => cell_regrown k3 d os, fun d os => cell_regrown k4 d os⟩

theorem same_own (w : World) (a : Option Addr) (n c : Nat) (l : List Bool) (a2 : Option Addr) (c2 : Nat) (h : RL .bool w a n c l) (h2 : RL .bool w a2 n c2 l) (hn : n ≤ 1000000) :
    Calls Try.prog 23 #[.slice a n c, .slice a2 n c2] w fun e w' => e = .returned (.bool true) ∧ w = w' := by
  have := same_any w a n c l a2 n c2 l h h2 hn
  rw [decide_eq_true rfl] at this
  exact this

theorem sameF_own (w : World) (id : Nat) (ext rem : Bool) (dlc : Nat) (a : Option Addr) (n c : Nat) (l : List UInt8) (a2 : Option Addr) (c2 : Nat) (h : RL bv w a n c l) (h2 : RL bv w a2 n c2 l) :
    Calls Try.prog 28 #[.agg #[.int .u32 (id : Int), .bool ext, .bool rem, .int .u8 (dlc : Int), .slice a n c], .agg #[.int .u32 (id : Int), .bool ext, .bool rem, .int .u8 (dlc : Int), .slice a2 n c2]] w fun e w' => e = .returned (.bool true) ∧ Below w.heap.size w w' := by
  have := sameFrame_any w id ext rem dlc a n c l id ext rem dlc a2 n c2 l h h2
  rw [decide_eq_true rfl] at this
  exact this

set_option maxRecDepth 100000 in
set_option maxHeartbeats 4000000 in
theorem frameBack_walk (w : World) (id : Nat) (ext rem : Bool) (dlc : Nat) (a : Option Addr) (n c : Nat) (l : List UInt8) (id2 : Nat) (ext2 rem2 : Bool) (dlc2 : Nat) (a2 : Option Addr) (n2 c2 : Nat) (l2 : List UInt8)
    (hi : id < 4294967296) (hd : dlc < 256) (h : RL bv w a n c l) (hi2 : id2 < 4294967296) (hd2 : dlc2 < 256) (h2 : RL bv w a2 n2 c2 l2) (m1 : n ≤ 9223372036854775807) (m2 : n2 ≤ 9223372036854775807) :
    Calls Try.prog 4 #[.agg #[.int .u32 (id : Int), .bool ext, .bool rem, .int .u8 (dlc : Int), .slice a n c], .agg #[.int .u32 (id2 : Int), .bool ext2, .bool rem2, .int .u8 (dlc2 : Int), .slice a2 n2 c2]] w fun e w' => e = .returned (.bool true) ∧ Below w.heap.size w w' := by
  obtain ⟨w0, hw0, hbx, hby, gg0⟩ := boxed2 w 25 #[.int .u32 (id : Int), .bool ext, .bool rem, .int .u8 (dlc : Int), .slice a n c] #[.int .u32 (id2 : Int), .bool ext2, .bool rem2, .int .u8 (dlc2 : Int), .slice a2 n2 c2]
  have h0 := h.below gg0
  have h20 := h2.below gg0
  have cR := fun w' => frRight_any w' id ext rem dlc a n c hi hd
  have cR2 := fun w' => frRight_any w' id2 ext2 rem2 dlc2 a2 n2 c2 hi2 hd2
  have cB2 := fun w' h' => body_U w' id2 ext2 rem2 dlc2 a2 n2 c2 l2 hi2 hd2 h'
  obtain ⟨bl2, hbl2⟩ : ∃ bl2, bl2 = boU ⟨id2, ext2, rem2, dlc2, l2⟩ n2 := ⟨_, rfl⟩
  simp only [← hbl2] at cB2
  unfold erU at cB2
  dsimp only at cB2
  cases hr : riF id ext rem dlc n
  · have cB := body_wrong w0 id ext rem dlc a n c hi hd hr
    rw [hr] at cR
    obtain ⟨bn2, hbn2⟩ : ∃ bn2, bn2 = bl2.length := ⟨_, rfl⟩
    simp only [← hbn2] at cB2
    clear hbn2 hbl2 h0
    cases hr2 : riF id2 ext2 rem2 dlc2 n2
    all_goals
      simp only [hr2, Bool.false_eq_true, if_false, if_true] at cR2 cB2
      clear hr2 hr
      go_enter Try.func4, Try.ntmps4
      go_wp2_with (first
        | (go_at_call 19; rw [hw0.out]; (with_reducible refine cB.mono ?_); rintro e w1 ⟨rfl, g1⟩; obtain ⟨x0, x1, x2, x3, x4⟩ := bx5 (bx_below hby g1))
        | (go_at_call 19; (with_reducible refine (cB2 w1 (h20.below g1)).mono ?_); rintro e w2 ⟨a3, c3, rfl, hr3, g2⟩; clear x0 x1 x2 x3 x4; obtain ⟨x0, x1, x2, x3, x4⟩ := bx5 (bx_below (bx_below hbx g1) g2))
        | (go_at_call 13; (with_reducible refine (cR w2).mono ?_); rintro e w3 ⟨rfl, g3⟩; clear x0 x1 x2 x3 x4; obtain ⟨x0, x1, x2, x3, x4⟩ := bx5 (bx_below (bx_below (bx_below hby g1) g2) g3))
        | (go_at_call 13; (with_reducible refine (cR2 w3).mono ?_); rintro e w4 ⟨rfl, g4⟩)
        | (go_at_call 10; refine (awake4_any w4).mono ?_; rintro e w5 ⟨rfl, g5⟩))
      go_ret
      exact ⟨rfl, bstep (bstep (bstep (bstep (bstep gg0 g1) g2) g3) g4) g5⟩
  obtain ⟨hn1, hn8, _, _⟩ := riF_long hr
  have hg : Good ⟨id, ext, rem, dlc, l⟩ := (good_iff ⟨id, ext, rem, dlc, l⟩ n h.len).1 hr
  obtain ⟨hp1, hp2, hp3, hp4, _⟩ := bo_all _ hg
  have cB := body_any w0 id ext rem dlc a n c l hi hd h0 hr
  have cW := fun w' h' => wire_any w' id ext rem dlc a n c l hi hd h' hr
  unfold wiL at cW
  rw [hr] at cR
  obtain ⟨N, hN⟩ : ∃ N, N = heN ext + 8 * n + 15 := ⟨_, rfl⟩
  have hN2 : N ≤ 200 ∧ 10 ≤ N := by obtain ⟨q1, q2⟩ := boL_le (f := ⟨id, ext, rem, dlc, l⟩) h.len hn8; dsimp only at q2; omega
  have hBl : (boL ⟨id, ext, rem, dlc, l⟩).length = N := by rw [boL_length, hN, ← h.len]
  have cP := fun w' a' c' h' => parse_ok w' a' N c' (boL ⟨id, ext, rem, dlc, l⟩) h' hp1 hp2
  rw [hp3, hp4] at cP
  dsimp only at cP
  rw [← hn1] at cP
  rw [← hN] at cB
  obtain ⟨B, hB⟩ : ∃ B, B = boL ⟨id, ext, rem, dlc, l⟩ := ⟨_, rfl⟩
  obtain ⟨p, hp⟩ : ∃ p, p = (putL B).length := ⟨_, rfl⟩
  rw [← hB] at cB cP hBl
  simp only [← hB, ← hp] at cW
  have hpl := putL_len B
  rw [← hp, hBl] at hpl
  have HTK : Hid (tkL (putL B) = (B, -1)) := tkL_putL B
  have HPL : Hid ((putL B).length = p) := hp.symm
  have HBL : Hid (B.length = N) := hBl
  have hsame : riF id2 ext2 rem2 dlc2 n2 = true → decide (B = bl2) = decide ((⟨id, ext, rem, dlc, l⟩ : Fr) = ⟨id2, ext2, rem2, dlc2, l2⟩) := fun hr2 => by
    have hg2 : Good ⟨id2, ext2, rem2, dlc2, l2⟩ := (good_iff ⟨id2, ext2, rem2, dlc2, l2⟩ n2 h2.len).1 hr2
    have e2 : bl2 = boL ⟨id2, ext2, rem2, dlc2, l2⟩ := by rw [hbl2]; unfold boU; dsimp only; rw [hr2]; rfl
    rw [hB, e2, decide_eq_decide]
    exact bo_inj hg hg2
  have hbl2n : riF id2 ext2 rem2 dlc2 n2 = true → bl2.length ≤ 1000000 := fun hr2 => by
    obtain ⟨_, h8, _, _⟩ := riF_long hr2
    have e2 : bl2 = boL ⟨id2, ext2, rem2, dlc2, l2⟩ := by rw [hbl2]; unfold boU; dsimp only; rw [hr2]; rfl
    rw [e2]
    have := (boL_le (f := ⟨id2, ext2, rem2, dlc2, l2⟩) h2.len h8).1
    omega
  have HSM := hid hsame; clear hsame
  clear hp hp1 hp2 hp3 hp4 hN hBl hB hbl2 hr hg hn1 h h2
  obtain ⟨bn2, hbn2⟩ : ∃ bn2, bn2 = bl2.length := ⟨_, rfl⟩
  simp only [← hbn2] at cB2
  have hnlt : ¬ (p : Int) + 10 < (N : Int) + 10 := by omega
  have hp3 : p ≤ 300 := by omega
  clear hpl
  cases hr2 : riF id2 ext2 rem2 dlc2 n2
  · simp only [hr2, Bool.false_eq_true, if_false, if_true] at cR2 cB2
    have HR2 := hid hr2; clear hr2
    have HBN := hid hbn2; clear hbn2
    go_enter Try.func4, Try.ntmps4
    go_wp2_with (first
      | (go_at_call 19; rw [hw0.out]; (with_reducible refine cB.mono ?_); rintro e w1 ⟨a1, c1, rfl, hol1, g1⟩; have hr1 := hol1.rl; obtain ⟨x0, x1, x2, x3, x4⟩ := bx5 (bx_below hby g1))
      | (go_at_call 19; (with_reducible refine (cB2 w1 (h20.below g1)).mono ?_); rintro e w2 ⟨a3, c3, rfl, hr3, g2⟩; clear x0 x1 x2 x3 x4; obtain ⟨x0, x1, x2, x3, x4⟩ := bx5 (bx_below (bx_below hbx g1) g2))
      | (go_at_call 13; (with_reducible refine (cR w2).mono ?_); rintro e w3 ⟨rfl, g3⟩; clear x0 x1 x2 x3 x4; obtain ⟨x0, x1, x2, x3, x4⟩ := bx5 (bx_below (bx_below (bx_below hby g1) g2) g3))
      | (go_at_call 13; (with_reducible refine (cR2 w3).mono ?_); rintro e w4 ⟨rfl, g4⟩; clear x0 x1 x2 x3 x4; have g14 := bstep (bstep g2 g3) g4; have g04 := bstep g1 g14)
      | (go_at_call 26; (with_reducible refine (cP w4 a1 c1 (hr1.below g14)).mono ?_); rintro e w5 ⟨a5, c5, rfl, hr5, g5⟩; have g05 := bnew (bstep g04 g5) (.cells #[.int .u32 (id : Int), .bool ext, .bool rem, .int .u8 (dlc : Int), .slice a5 n c5] 25); obtain ⟨x0, x1, x2, x3, x4⟩ := bx5 (bx_below hbx g05); have hbC := heap_alloc_new w5 (.cells #[.int .u32 (id : Int), .bool ext, .bool rem, .int .u8 (dlc : Int), .slice a5 n c5] 25); have g55 := bnew0 w5 (.cells #[.int .u32 (id : Int), .bool ext, .bool rem, .int .u8 (dlc : Int), .slice a5 n c5] 25))
      | (go_at_call 21; (with_reducible refine (cW _ (h0.below g05)).mono ?_); rintro e w6 ⟨a6, c6, rfl, hol6, g6⟩; have g06 := bstep g05 g6; clear x0 x1 x2 x3 x4; obtain ⟨x0, x1, x2, x3, x4⟩ := bx5 (bx_below hbx g06); obtain ⟨y0, y1, y2, y3, y4⟩ := bx5 (bx_below hbC g6); have hr56 := (hr5.below g55).below g6; have hr6 := hol6.rl; obtain ⟨a7, p1, p2, hr7⟩ := run_cutTo tB hr6 .i64 p (by omega); obtain ⟨a8, c8, p3, p4, hr8⟩ := run_cutFrom tB hr6 .i64 p (by omega); rw [List.take_left' HPL.out] at hr7; rw [List.drop_left' HPL.out, Nat.add_sub_cancel_left] at hr8; simp only [Nat.add_sub_cancel_left] at p3 p4)
      | (go_at_call 28; (with_reducible refine (sameF_own w6 id ext rem dlc a5 n c5 l a c hr56 (h0.below g06)).mono ?_); rintro e w7 ⟨rfl, g7⟩; clear x0 x1 x2 x3 x4 y0 y1 y2 y3 y4)
      | (go_at_call 29; refine (take_any w7 a7 p c6 _ (hr7.below g7) (by omega)).mono ?_; rw [HTK.out, HBL.out]; rintro e w8 ⟨a9, c9, rfl, hol9, g8⟩; have hr88 := (hr8.below g7).below g8; have g08 := bstep (bstep g06 g7) g8))
    have g58 := bstep (bstep (bstep g55 g6) g7) g8
    have hr18 := (((hr1.below g14).below g5).below g58)
    have hr38 := (((hr3.below (bstep g3 g4)).below g5).below g58)
    have h08 := h0.below g08
    have h28 := h20.below g08
    have hbx8 := bx_below hbx g08
    have hby8 := bx_below hby g08
    have gg8 := bstep gg0 g08
    clear hr1 hr3 hr5 hr56 hr6 hr7 hr8 hol1 hol6 hbx hby hbC h0 h20 g1 g2 g3 g4 g5 g6 g7 g8 g14 g04 g05 g06 g08 g55 g58 gg0 hw0 cR cR2 cB cB2 cP cW p1 p2 p3 p4 hnlt
    go_loop [96] (fun i => ∃ k : Nat, k ≤ 10 ∧ i = .int .i64 (k : Int)) (fun i => 10 - (intOf i).toNat)
    case atStart => exact ⟨0, Nat.zero_le _, rfl⟩
    case round =>
      obtain ⟨k, hk, rfl⟩ := hrel
      by_cases hlt : k < 10
      · obtain ⟨b9, off9, x, rfl, hx, hck⟩ := hr88.at (k := k) (by omega)
        obtain rfl : x = true := by rw [List.getElem?_replicate, if_pos hlt] at hx; simpa using hx.symm
        clear hx
        go_wp2
        go_round
        case rel => exact ⟨k + 1, by omega, by go_num⟩
        case measure => simp [intOf]; omega
      · obtain rfl : k = 10 := by omega
        clear hr88
        go_wp2_with (first
          | (go_at_call 23; (with_reducible refine (same_own w8 a9 N c9 B a1 c1 hol9.rl hr18 (by omega)).mono ?_); rintro e w9 ⟨rfl, rfl⟩))
        obtain ⟨x0, x1, x2, x3, x4⟩ := cells5R' hbx8
        obtain ⟨y0, y1, y2, y3, y4⟩ := cells5R' hby8
        obtain ⟨bt, hbt⟩ : ∃ bt, bt = decide ((⟨id, ext, rem, dlc, l⟩ : Fr) = ⟨id2, ext2, rem2, dlc2, l2⟩) := ⟨_, rfl⟩
        have hsl : True := trivial
        have hsf : ∀ d os, Calls Try.prog 28 #[.agg #[.int .u32 (id : Int), .bool ext, .bool rem, .int .u8 (dlc : Int), .slice a n c], .agg #[.int .u32 (id2 : Int), .bool ext2, .bool rem2, .int .u8 (dlc2 : Int), .slice a2 n2 c2]] (grow (redrawn w8 d) os) fun e w'' => e = .returned (.bool bt) ∧ ∃ q : Regrown, w'' = grow (redrawn w8 q.d) q.os := fun d os => by
          rw [hbt]; exact Calls.regrown_of (sameFrame_any _ id ext rem dlc a n c l id2 ext2 rem2 dlc2 a2 n2 c2 l2 (h08.below (below_regrown _ _ _)) (h28.below (below_regrown _ _ _)))
        have haw : ∀ d os, Calls Try.prog 10 #[] (grow (redrawn w8 d) os) fun e w'' => e = .returned (.bool true) ∧ ∃ q : Regrown, w'' = grow (redrawn w8 q.d) q.os := fun d os => Calls.regrown_of (awake4_any _)
        clear hbt hr18 hr38 h08 h28 hbx8 hby8 hol9
        refine wp_region_quiet_below (by kernel_rfl) (by kernel_rfl) ?_
        repeat (go_big_quiet_step (first
          | fail
          | (go_at_call 28; with_reducible exact hsf _ _)
          | (go_at_call 10; exact haw _ _)))
        refine wpQuiet_nil ?_
        intro w10 hw10
        have g10 : Below w8.heap.size w8 w10 := by obtain ⟨p10, rfl⟩ := hw10; exact below_regrown _ _ _
        clear hw10
        go_wp2
        go_ret
        exact ⟨rfl, bstep gg8 g10⟩
  · simp only [hr2, Bool.false_eq_true, if_false, if_true] at cR2 cB2
    have HR2 := hid hr2; clear hr2
    have HBN := hid hbn2; clear hbn2
    go_enter Try.func4, Try.ntmps4
    go_wp2_with (first
      | (go_at_call 19; rw [hw0.out]; (with_reducible refine cB.mono ?_); rintro e w1 ⟨a1, c1, rfl, hol1, g1⟩; have hr1 := hol1.rl; obtain ⟨x0, x1, x2, x3, x4⟩ := bx5 (bx_below hby g1))
      | (go_at_call 19; (with_reducible refine (cB2 w1 (h20.below g1)).mono ?_); rintro e w2 ⟨a3, c3, rfl, hr3, g2⟩; clear x0 x1 x2 x3 x4; obtain ⟨x0, x1, x2, x3, x4⟩ := bx5 (bx_below (bx_below hbx g1) g2))
      | (go_at_call 13; (with_reducible refine (cR w2).mono ?_); rintro e w3 ⟨rfl, g3⟩; clear x0 x1 x2 x3 x4; obtain ⟨x0, x1, x2, x3, x4⟩ := bx5 (bx_below (bx_below (bx_below hby g1) g2) g3))
      | (go_at_call 13; (with_reducible refine (cR2 w3).mono ?_); rintro e w4 ⟨rfl, g4⟩; clear x0 x1 x2 x3 x4; have g14 := bstep (bstep g2 g3) g4; have g04 := bstep g1 g14)
      | (go_at_call 26; (with_reducible refine (cP w4 a1 c1 (hr1.below g14)).mono ?_); rintro e w5 ⟨a5, c5, rfl, hr5, g5⟩; have g05 := bnew (bstep g04 g5) (.cells #[.int .u32 (id : Int), .bool ext, .bool rem, .int .u8 (dlc : Int), .slice a5 n c5] 25); obtain ⟨x0, x1, x2, x3, x4⟩ := bx5 (bx_below hbx g05); have hbC := heap_alloc_new w5 (.cells #[.int .u32 (id : Int), .bool ext, .bool rem, .int .u8 (dlc : Int), .slice a5 n c5] 25); have g55 := bnew0 w5 (.cells #[.int .u32 (id : Int), .bool ext, .bool rem, .int .u8 (dlc : Int), .slice a5 n c5] 25))
      | (go_at_call 21; (with_reducible refine (cW _ (h0.below g05)).mono ?_); rintro e w6 ⟨a6, c6, rfl, hol6, g6⟩; have g06 := bstep g05 g6; clear x0 x1 x2 x3 x4; obtain ⟨x0, x1, x2, x3, x4⟩ := bx5 (bx_below hbx g06); obtain ⟨y0, y1, y2, y3, y4⟩ := bx5 (bx_below hbC g6); have hr56 := (hr5.below g55).below g6; have hr6 := hol6.rl; obtain ⟨a7, p1, p2, hr7⟩ := run_cutTo tB hr6 .i64 p (by omega); obtain ⟨a8, c8, p3, p4, hr8⟩ := run_cutFrom tB hr6 .i64 p (by omega); rw [List.take_left' HPL.out] at hr7; rw [List.drop_left' HPL.out, Nat.add_sub_cancel_left] at hr8; simp only [Nat.add_sub_cancel_left] at p3 p4)
      | (go_at_call 28; (with_reducible refine (sameF_own w6 id ext rem dlc a5 n c5 l a c hr56 (h0.below g06)).mono ?_); rintro e w7 ⟨rfl, g7⟩; clear x0 x1 x2 x3 x4 y0 y1 y2 y3 y4)
      | (go_at_call 29; refine (take_any w7 a7 p c6 _ (hr7.below g7) (by omega)).mono ?_; rw [HTK.out, HBL.out]; rintro e w8 ⟨a9, c9, rfl, hol9, g8⟩; have hr88 := (hr8.below g7).below g8; have g08 := bstep (bstep g06 g7) g8))
    have g58 := bstep (bstep (bstep g55 g6) g7) g8
    have hr18 := (((hr1.below g14).below g5).below g58)
    have hr38 := (((hr3.below (bstep g3 g4)).below g5).below g58)
    have h08 := h0.below g08
    have h28 := h20.below g08
    have hbx8 := bx_below hbx g08
    have hby8 := bx_below hby g08
    have gg8 := bstep gg0 g08
    clear hr1 hr3 hr5 hr56 hr6 hr7 hr8 hol1 hol6 hbx hby hbC h0 h20 g1 g2 g3 g4 g5 g6 g7 g8 g14 g04 g05 g06 g08 g55 g58 gg0 hw0 cR cR2 cB cB2 cP cW p1 p2 p3 p4 hnlt
    go_loop [96] (fun i => ∃ k : Nat, k ≤ 10 ∧ i = .int .i64 (k : Int)) (fun i => 10 - (intOf i).toNat)
    case atStart => exact ⟨0, Nat.zero_le _, rfl⟩
    case round =>
      obtain ⟨k, hk, rfl⟩ := hrel
      by_cases hlt : k < 10
      · obtain ⟨b9, off9, x, rfl, hx, hck⟩ := hr88.at (k := k) (by omega)
        obtain rfl : x = true := by rw [List.getElem?_replicate, if_pos hlt] at hx; simpa using hx.symm
        clear hx
        go_wp2
        go_round
        case rel => exact ⟨k + 1, by omega, by go_num⟩
        case measure => simp [intOf]; omega
      · obtain rfl : k = 10 := by omega
        clear hr88
        go_wp2_with (first
          | (go_at_call 23; (with_reducible refine (same_own w8 a9 N c9 B a1 c1 hol9.rl hr18 (by omega)).mono ?_); rintro e w9 ⟨rfl, rfl⟩))
        obtain ⟨x0, x1, x2, x3, x4⟩ := cells5R' hbx8
        obtain ⟨y0, y1, y2, y3, y4⟩ := cells5R' hby8
        obtain ⟨bt, hbt⟩ : ∃ bt, bt = decide ((⟨id, ext, rem, dlc, l⟩ : Fr) = ⟨id2, ext2, rem2, dlc2, l2⟩) := ⟨_, rfl⟩
        have hsl : ∀ d os, Calls Try.prog 23 #[.slice a1 N c1, .slice a3 bn2 c3] (grow (redrawn w8 d) os) fun e w'' => e = .returned (.bool bt) ∧ ∃ q : Regrown, w'' = grow (redrawn w8 q.d) q.os := fun d os => by
          rw [hbt, ← HSM.out HR2.out]
          exact Calls.regrown_of ((same_any _ a1 N c1 B a3 bn2 c3 bl2 (hr18.below (below_regrown _ _ _)) (hr38.below (below_regrown _ _ _)) (by omega)).mono fun e w' he => ⟨he.1, by rw [← he.2]; exact Below.refl _ _⟩)
        have hsf : ∀ d os, Calls Try.prog 28 #[.agg #[.int .u32 (id : Int), .bool ext, .bool rem, .int .u8 (dlc : Int), .slice a n c], .agg #[.int .u32 (id2 : Int), .bool ext2, .bool rem2, .int .u8 (dlc2 : Int), .slice a2 n2 c2]] (grow (redrawn w8 d) os) fun e w'' => e = .returned (.bool bt) ∧ ∃ q : Regrown, w'' = grow (redrawn w8 q.d) q.os := fun d os => by
          rw [hbt]; exact Calls.regrown_of (sameFrame_any _ id ext rem dlc a n c l id2 ext2 rem2 dlc2 a2 n2 c2 l2 (h08.below (below_regrown _ _ _)) (h28.below (below_regrown _ _ _)))
        have haw : ∀ d os, Calls Try.prog 10 #[] (grow (redrawn w8 d) os) fun e w'' => e = .returned (.bool true) ∧ ∃ q : Regrown, w'' = grow (redrawn w8 q.d) q.os := fun d os => Calls.regrown_of (awake4_any _)
        clear hbt hr18 hr38 h08 h28 hbx8 hby8 hol9
        refine wp_region_quiet_below (by kernel_rfl) (by kernel_rfl) ?_
        repeat (go_big_quiet_step (first
          | (go_at_call 23; with_reducible exact hsl _ _)
          | (go_at_call 28; with_reducible exact hsf _ _)
          | (go_at_call 10; exact haw _ _)))
        refine wpQuiet_nil ?_
        intro w10 hw10
        have g10 : Below w8.heap.size w8 w10 := by obtain ⟨p10, rfl⟩ := hw10; exact below_regrown _ _ _
        clear hw10
        go_wp2
        go_ret
        exact ⟨rfl, bstep gg8 g10⟩
end Go.Proofs.Ytcgpdldccfpjgaa
