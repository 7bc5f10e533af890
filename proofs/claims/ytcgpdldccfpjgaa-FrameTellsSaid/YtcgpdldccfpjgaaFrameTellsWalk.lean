/-
  The walk of the statement FrameTells: for any two frames and any bits it returns true, and nothing that was there has changed.
-/
import Derived.Test.YtcgpdldccfpjgaaB4u
namespace Go.Proofs.Ytcgpdldccfpjgaa
open Go.RowKit Go.Sort
set_option linter.unusedVariables false

theorem cells5R {w0 : World} {g : Nat} {E : TypeId} {v0 v1 v2 v3 v4 : Value} (h : w0.heap[g]? = some (.cells #[v0, v1, v2, v3, v4] E (0, 0))) :
    (∀ d os, (grow (redrawn w0 d) os).cell? ⟨g, 0, none⟩ = some v0) ∧ (∀ d os, (grow (redrawn w0 d) os).cell? ⟨g, 1, none⟩ = some v1) ∧ (∀ d os, (grow (redrawn w0 d) os).cell? ⟨g, 2, none⟩ = some v2) ∧
    (∀ d os, (grow (redrawn w0 d) os).cell? ⟨g, 3, none⟩ = some v3) ∧ (∀ d os, (grow (redrawn w0 d) os).cell? ⟨g, 4, none⟩ = some v4) := by
  obtain ⟨k0, k1, k2, k3, k4⟩ := bx5 h
  exact ⟨fun d os => cell_regrown k0 d os, fun d os => cell_regrown k1 d os, fun d os => cell_regrown k2 d os, fun d os => cell_regrown k3 d os, fun d os => cell_regrown k4 d os⟩

theorem same_self (w : World) (a : Option Addr) (n c : Nat) (l : List Bool) (a2 : Option Addr) (c2 : Nat) (h : RL .bool w a n c l) (h2 : RL .bool w a2 n c2 l) (hn : n ≤ 1000000) :
    Calls Try.prog 23 #[.slice a n c, .slice a2 n c2] w fun e w' => e = .returned (.bool true) ∧ w = w' := by
  have := same_any w a n c l a2 n c2 l h h2 hn
  rw [decide_eq_true rfl] at this
  exact this

theorem sameF_self (w : World) (id : Nat) (ext rem : Bool) (dlc : Nat) (a : Option Addr) (n c : Nat) (l : List UInt8) (a2 : Option Addr) (c2 : Nat) (h : RL bv w a n c l) (h2 : RL bv w a2 n c2 l) :
    Calls Try.prog 28 #[.agg #[.int .u32 (id : Int), .bool ext, .bool rem, .int .u8 (dlc : Int), .slice a n c], .agg #[.int .u32 (id : Int), .bool ext, .bool rem, .int .u8 (dlc : Int), .slice a2 n c2]] w fun e w' => e = .returned (.bool true) ∧ Below w.heap.size w w' := by
  have := sameFrame_any w id ext rem dlc a n c l id ext rem dlc a2 n c2 l h h2
  rw [decide_eq_true rfl] at this
  exact this

theorem boU_le {f : Fr} {n : Nat} (h : f.data.length = n) : (boU f n).length ≤ 1000 ∧ (wiU f n).length ≤ 1000 := by
  unfold boU wiU
  cases hr : riF f.id f.ext f.rem f.dlc n
  · simp
  · obtain ⟨_, h8, _, _⟩ := riF_long hr
    obtain ⟨h1, _⟩ := boL_le h h8
    have h2 := putL_len (boL f)
    simp only [if_true]
    rw [wiL_length]
    omega

set_option maxRecDepth 100000 in
set_option maxHeartbeats 4000000 in
theorem frameTells_walk (w : World) (id : Nat) (ext rem : Bool) (dlc : Nat) (a : Option Addr) (n c : Nat) (l : List UInt8) (id2 : Nat) (ext2 rem2 : Bool) (dlc2 : Nat) (a2 : Option Addr) (n2 c2 : Nat) (l2 : List UInt8) (a3 : Option Addr) (n3 c3 : Nat) (l3 : List Bool)
    (hi : id < 4294967296) (hd : dlc < 256) (h : RL bv w a n c l) (hi2 : id2 < 4294967296) (hd2 : dlc2 < 256) (h2 : RL bv w a2 n2 c2 l2) (h3 : RL .bool w a3 n3 c3 l3) (m1 : n ≤ 9223372036854775807) (m2 : n2 ≤ 9223372036854775807) (m3 : n3 ≤ 9223372036854775807) :
    Calls Try.prog 3 #[.agg #[.int .u32 (id : Int), .bool ext, .bool rem, .int .u8 (dlc : Int), .slice a n c], .agg #[.int .u32 (id2 : Int), .bool ext2, .bool rem2, .int .u8 (dlc2 : Int), .slice a2 n2 c2], .slice a3 n3 c3] w fun e w' => e = .returned (.bool true) ∧ Below w.heap.size w w' := by
  obtain ⟨w0, hw0, hbx, hby, gg0⟩ := boxed2 w 25 #[.int .u32 (id : Int), .bool ext, .bool rem, .int .u8 (dlc : Int), .slice a n c] #[.int .u32 (id2 : Int), .bool ext2, .bool rem2, .int .u8 (dlc2 : Int), .slice a2 n2 c2]
  by_cases hm : n ≤ 20 ∧ n2 ≤ 20 ∧ n3 ≤ 200
  rotate_left
  · have hcs : (20 < n) ∨ (n ≤ 20 ∧ 20 < n2) ∨ (n ≤ 20 ∧ n2 ≤ 20 ∧ 200 < n3) := by omega
    clear hm
    rcases hcs with i1 | ⟨i1, i2⟩ | ⟨i1, i2, i3⟩
    all_goals
      go_enter Try.func3, Try.ntmps3
      go_wp2_with (first
        | (go_at_call 10; rw [hw0.out]; refine (awake4_any w0).mono ?_; rintro e w1 ⟨rfl, g1⟩))
      go_ret
      exact ⟨rfl, bstep gg0 g1⟩
  obtain ⟨i1, i2, i3⟩ := hm
  obtain ⟨k0, k1, k2, k3, k4⟩ := bx5 hbx
  have h0 := h.below gg0
  have h30 := h3.below gg0
  have hA := anewF_any w0 id ext rem dlc a n c l h0 (by omega)
  have hbl := boU_le (f := ⟨id, ext, rem, dlc, l⟩) (n := n) h.len
  obtain ⟨bl, hbl'⟩ : ∃ bl, bl = boU ⟨id, ext, rem, dlc, l⟩ n := ⟨_, rfl⟩
  obtain ⟨wl, hwl'⟩ : ∃ wl, wl = wiU ⟨id, ext, rem, dlc, l⟩ n := ⟨_, rfl⟩
  obtain ⟨er, her'⟩ : ∃ er, er = erU ⟨id, ext, rem, dlc, l⟩ n := ⟨_, rfl⟩
  obtain ⟨r, hr'⟩ : ∃ r, r = riF id ext rem dlc n := ⟨_, rfl⟩
  obtain ⟨L, hL'⟩ : ∃ L, L = lonF rem dlc := ⟨_, rfl⟩
  obtain ⟨bb, hbb'⟩ : ∃ bb, bb = (riF id ext rem dlc n && riF id2 ext2 rem2 dlc2 n2 && bfL (conL id ext rem) (conL id2 ext2 rem2)) := ⟨_, rfl⟩
  obtain ⟨hk, hk'⟩ : ∃ hk, hk = hdK l3 := ⟨_, rfl⟩
  obtain ⟨hN, hN'⟩ : ∃ hN, hN = hdU l3 := ⟨_, rfl⟩
  obtain ⟨pe, hpe'⟩ : ∃ pe, pe = peU l3 := ⟨_, rfl⟩
  obtain ⟨pf, hpf'⟩ : ∃ pf, pf = paU l3 := ⟨_, rfl⟩
  have cB := fun w' a' c' h' => body_U w' id ext rem dlc a' n c' l hi hd h'
  have cRB := fun w' a' c' h' => refBody_U w' id ext rem dlc a' n c' l hi hd h'
  have cW := fun w' a' c' h' => wire_U w' id ext rem dlc a' n c' l hi hd h'
  have cRW := fun w' a' c' h' => refWire_U w' id ext rem dlc a' n c' l hi hd h'
  have cR := fun w' a' c' => frRight_any w' id ext rem dlc a' n c' hi hd
  have cRR := fun w' a' c' => refRight_any w' id ext rem dlc a' n c' hi hd
  have cL := fun w' a' c' => frLong_any w' id ext rem dlc a' n c' hd
  have cRL := fun w' a' c' => refLong_any w' id ext rem dlc a' n c' hd
  have cBe := fun w' a' c' => before_any w' id ext rem dlc a' n c' id2 ext2 rem2 dlc2 a2 n2 c2 hi hd hi2 hd2
  have cRBe := fun w' a' c' => refBefore_any w' id ext rem dlc a' n c' id2 ext2 rem2 dlc2 a2 n2 c2 hi hd hi2 hd2
  have cH := fun w' a' c' h' => fhead_U w' a' n3 c' l3 h' (by omega)
  have cRH := fun w' a' c' h' => refHd_U w' a' n3 c' l3 h' (by omega)
  have cP := fun w' a' c' h' => parse_U w' a' n3 c' l3 h' (by omega)
  have cRP := fun w' a' c' h' => refParse_U w' a' n3 c' l3 h' (by omega)
  rw [← hbl', ← hwl'] at hbl
  simp only [← hbl', ← her'] at cB cRB
  simp only [← hwl', ← her'] at cW cRW
  simp only [← hr'] at cR cRR
  simp only [← hL'] at cL cRL
  simp only [← hbb'] at cBe cRBe
  simp only [← hk', ← hN'] at cH cRH
  simp only [← hpe', ← hpf'] at cP cRP
  clear hbl' hwl' her' hr' hL' hbb' hk' hN' hpe' hpf'
  obtain ⟨hb1, hb2⟩ := hbl
  obtain ⟨bn, hbn⟩ : ∃ bn, bn = bl.length := ⟨_, rfl⟩
  obtain ⟨wn, hwn⟩ : ∃ wn, wn = wl.length := ⟨_, rfl⟩
  simp only [← hbn] at cB cRB hb1
  simp only [← hwn] at cW cRW hb2
  obtain ⟨fid, fext, frem, fdlc, fdat⟩ := pf
  dsimp only at cP cRP
  obtain ⟨fn, hfn⟩ : ∃ fn, fn = fdat.length := ⟨_, rfl⟩
  simp only [← hfn] at cP cRP
  clear hbn hwn hfn
  go_enter Try.func3, Try.ntmps3
  go_wp2_with (first
    | (go_at_call 11; rw [hw0.out]; (with_reducible refine hA.mono ?_); rintro e w1 ⟨a4, c4, rfl, hx1, g1⟩; have gg1 := bstep gg0 g1; have h31 := h30.below g1; clear k0 k1 k2 k3 k4)
    | (go_at_call 12; refine (anew_any w1 a3 n3 c3 l3 h31 (by omega)).mono ?_; rintro e w2 ⟨a5, c5, rfl, hm2', g2⟩; have hm2 := hm2'.rl; have gg2 := bstep gg1 g2; have hx2 := hx1.below g2))
  have hbX := heap_alloc_new w2 (.cells #[.int .u32 (id : Int), .bool ext, .bool rem, .int .u8 (dlc : Int), .slice a4 n c4] 25)
  have g3 := bnew0 w2 (.cells #[.int .u32 (id : Int), .bool ext, .bool rem, .int .u8 (dlc : Int), .slice a4 n c4] 25)
  have hbA := bx_below (bx_below (bx_below hbx g1) g2) g3
  have hbB := bx_below (bx_below (bx_below hby g1) g2) g3
  have gg3 : Below w.heap.size w _ := gg2.trans (g3.mono gg2.size)
  have hx3 := hx2.below g3
  have hm3 := hm2.below g3
  have h33 := (h31.below g2).below g3
  have h03 := ((h0.below g1).below g2).below g3
  clear hx1 hx2 hm2 hm2' h31 h30 hA g1 g2 g3 gg0 gg1 gg2 hw0 hbx hby
  generalize w2.alloc (.cells #[.int .u32 (id : Int), .bool ext, .bool rem, .int .u8 (dlc : Int), .slice a4 n c4] 25) = w3 at *
  generalize w2.heap.size = gX at *
  obtain ⟨x0, x1, x2, x3, x4⟩ := cells5R hbX
  obtain ⟨y0, y1, y2, y3, y4⟩ := cells5R hbA
  obtain ⟨z0, z1, z2, z3, z4⟩ := cells5R hbB
  refine wp_region_quiet_below (by kernel_rfl) (by kernel_rfl) ?_
  repeat (go_big_quiet_step (first
    | (go_at_call 13; with_reducible exact Calls.regrown_of (cR _ _ _))
    | (go_at_call 14; with_reducible exact Calls.regrown_of (cRR _ _ _))
    | (go_at_call 15; with_reducible exact Calls.regrown_of (cL _ _ _))
    | (go_at_call 16; with_reducible exact Calls.regrown_of (cRL _ _ _))
    | (go_at_call 17; with_reducible exact Calls.regrown_of (cBe _ _ _))
    | (go_at_call 18; with_reducible exact Calls.regrown_of (cRBe _ _ _))))
  refine wpQuiet_nil ?_
  intro w9 hw9
  have g9 : Below w3.heap.size w3 w9 := by obtain ⟨p9, rfl⟩ := hw9; exact below_regrown _ _ _
  clear hw9 x0 x1 x2 x3 x4 y0 y1 y2 y3 y4 z0 z1 z2 z3 z4 cR cRR cL cRL cBe cRBe hbB
  have hbX9 := bx_below hbX g9
  have hbA9 := bx_below hbA g9
  have hx9 := hx3.below g9
  have hm9 := hm3.below g9
  have h39 := h33.below g9
  have h09 := h03.below g9
  have gg9 := bstep gg3 g9
  obtain ⟨x0, x1, x2, x3, x4⟩ := bx5 hbX9
  clear hbX hbA hx3 hm3 h33 h03 gg3 g9 h h0
  go_wp2_with (first
    | (go_at_call 19; (with_reducible refine (cB w9 _ _ hx9).mono ?_); rintro e w10 ⟨a10, c10, rfl, hr10, g10⟩; clear x0 x1 x2 x3 x4; have hbX10 := bx_below hbX9 g10; have hbA10 := bx_below hbA9 g10; obtain ⟨x0, x1, x2, x3, x4⟩ := bx5 hbA10; have hx10 := hx9.below g10; have h010 := h09.below g10)
    | (go_at_call 20; (with_reducible refine (cRB w10 _ _ h010).mono ?_); rintro e w11 ⟨a11, c11, rfl, hr11, g11⟩; clear x0 x1 x2 x3 x4; have hbX11 := bx_below hbX10 g11; have hbA11 := bx_below hbA10 g11; obtain ⟨x0, x1, x2, x3, x4⟩ := bx5 hbX11; have hx11 := hx10.below g11; have h011 := h010.below g11)
    | (go_at_call 21; (with_reducible refine (cW w11 _ _ hx11).mono ?_); rintro e w12 ⟨a12, c12, rfl, hr12, g12⟩; clear x0 x1 x2 x3 x4; have hbX12 := bx_below hbX11 g12; have hbA12 := bx_below hbA11 g12; obtain ⟨x0, x1, x2, x3, x4⟩ := bx5 hbA12; have hx12 := hx11.below g12; have h012 := h011.below g12)
    | (go_at_call 22; (with_reducible refine (cRW w12 _ _ h012).mono ?_); rintro e w13 ⟨a13, c13, rfl, hr13, g13⟩; clear x0 x1 x2 x3 x4; have hbX13 := bx_below hbX12 g13; have hbA13 := bx_below hbA12 g13; have hx13 := hx12.below g13; have h013 := h012.below g13; have g913 := bstep (bstep (bstep g10 g11) g12) g13; have hm13 := hm9.below g913; have h313 := h39.below g913; have gg13 := bstep gg9 g913; have hr10' := hr10.below (bstep (bstep g11 g12) g13); have hr11' := hr11.below (bstep g12 g13); have hr12' := hr12.below g13; clear hbX10 hbX11 hbX12 hbA10 hbA11 hbA12 hx10 hx11 hx12 h010 h011 h012)
    | (go_at_call 23; (with_reducible refine (same_self w13 a10 _ c10 _ a11 c11 hr10' hr11' (by omega)).mono ?_); rintro e w14 ⟨rfl, rfl⟩)
    | (go_at_call 23; (with_reducible refine (same_self w13 a12 _ c12 _ a13 c13 hr12' hr13 (by omega)).mono ?_); rintro e w14 ⟨rfl, rfl⟩)
    | (go_at_call 24; (with_reducible refine (cH w13 _ _ hm13).mono ?_); rintro e w14 ⟨rfl, g14⟩; clear hr10 hr11 hr12 hr13 hr10' hr11' hr12')
    | (go_at_call 25; (with_reducible refine (cRH w14 _ _ (h313.below g14)).mono ?_); rintro e w15 ⟨rfl, g15⟩; have g1315 := bstep g14 g15)
    | (go_at_call 26; (with_reducible refine (cP w15 _ _ (hm13.below g1315)).mono ?_); rintro e w16 ⟨a16, c16, rfl, hr16, g16⟩; have g1316 := bstep g1315 g16; have hbC := heap_alloc_new w16 (.cells #[.int .u32 (fid : Int), .bool fext, .bool frem, .int .u8 (fdlc : Int), .slice a16 fn c16] 25); have gC := bnew g1316 (.cells #[.int .u32 (fid : Int), .bool fext, .bool frem, .int .u8 (fdlc : Int), .slice a16 fn c16] 25); have hr16' := hr16.below (bnew0 w16 (.cells #[.int .u32 (fid : Int), .bool fext, .bool frem, .int .u8 (fdlc : Int), .slice a16 fn c16] 25)))
    | (go_at_call 27; (with_reducible refine (cRP _ _ _ (h313.below gC)).mono ?_); rintro e w18 ⟨a18, c18, rfl, hr18, g18⟩; have hbC18 := bx_below hbC g18; have hbC19 := bx_alloc (.cells #[.int .u32 (fid : Int), .bool fext, .bool frem, .int .u8 (fdlc : Int), .slice a18 fn c18] 25) hbC18; have hbD := heap_alloc_new w18 (.cells #[.int .u32 (fid : Int), .bool fext, .bool frem, .int .u8 (fdlc : Int), .slice a18 fn c18] 25); have g19 := bnew (bstep gC g18) (.cells #[.int .u32 (fid : Int), .bool fext, .bool frem, .int .u8 (fdlc : Int), .slice a18 fn c18] 25); have gD := bnew0 w18 (.cells #[.int .u32 (fid : Int), .bool fext, .bool frem, .int .u8 (fdlc : Int), .slice a18 fn c18] 25); have hr169 := (hr16'.below g18).below gD; have hr189 := hr18.below gD; obtain ⟨x0, x1, x2, x3, x4⟩ := bx5 hbC19)
    | (go_at_call 28; (with_reducible refine (sameF_self _ fid fext frem fdlc a16 fn c16 fdat a18 c18 hr169 hr189).mono ?_); rintro e w20 ⟨rfl, g20⟩; clear x0 x1 x2 x3 x4; have g1320 := bstep g19 g20; have hm20 := hm13.below g1320; have h320 := h313.below g1320; obtain ⟨x0, x1, x2, x3, x4⟩ := bx5 (bx_below hbX13 g1320); obtain ⟨y0, y1, y2, y3, y4⟩ := bx5 (bx_below hbA13 g1320); have hx20 := hx13.below g1320; have h020 := h013.below g1320)
    | (go_at_call 23; (with_reducible refine (same_self w20 a3 n3 c3 _ a5 c5 h320 hm20 (by omega)).mono ?_); rintro e w21 ⟨rfl, rfl⟩)
    | (go_at_call 28; (with_reducible refine (sameF_self w20 id ext rem dlc a4 n c4 l a c hx20 h020).mono ?_); rintro e w22 ⟨rfl, g22⟩)
    | (go_at_call 10; refine (awake4_any w22).mono ?_; rintro e w23 ⟨rfl, g23⟩))
  go_ret
  exact ⟨rfl, bstep (bstep (bstep gg13 g1320) g22) g23⟩
end Go.Proofs.Ytcgpdldccfpjgaa
