/-
  IdentBack, walked: what is made is read, and what is read is made; the frame of a right ident is right, and says it; its data are its own. Written by gen_identback.py.
-/
import Derived.Test.YtdkgdjdhmonccaaDoorZ2
namespace Go.Proofs.YtdkgdjdhmonccaaDoor
open Go.RowKit Go.Sort
set_option linter.unusedVariables false
set_option linter.unusedSimpArgs false

theorem rd_parts (x : Nat) (h : rB x = true) : x < 335544320 ∧ riI ⟨rK x, rF x, rS x, rR x⟩ = true ∧ mkI ⟨rK x, rF x, rS x, rR x⟩ = x ∧ rK x < 256 ∧ rF x < 256 ∧ rS x < 65536 ∧ rR x < 256 := by
  have h1 : x < 335544320 := by simpa [rB] using h
  have e : rdI x = some ⟨rK x, rF x, rS x, rR x⟩ := by simp [rdI, rK, rF, rS, rR, h1]
  obtain ⟨e1, e2, e3⟩ := mk_rd e
  refine ⟨h1, e2, e1, ?_⟩
  have := riI_iff.1 e2
  dsimp only at this e3
  exact ⟨by omega, by omega, e3, by omega⟩
theorem rd_of (k f s r : Nat) (h : riI ⟨k, f, s, r⟩ = true) (hs : s < 65536) : rK (mkI ⟨k, f, s, r⟩) = k ∧ rF (mkI ⟨k, f, s, r⟩) = f ∧ rS (mkI ⟨k, f, s, r⟩) = s ∧ rR (mkI ⟨k, f, s, r⟩) = r ∧ rB (mkI ⟨k, f, s, r⟩) = true := by
  have h1 := mk_lt h hs
  have h2 := rd_mk h hs
  generalize mkI ⟨k, f, s, r⟩ = M at *
  unfold rdI at h2
  rw [if_pos h1] at h2
  have h2 := Option.some.inj h2
  injection h2 with e1 e2 e3 e4
  refine ⟨?_, ?_, ?_, ?_, ?_⟩ <;> simp [rK, rF, rS, rR, rB, h1, *]

set_option maxRecDepth 100000 in
set_option maxHeartbeats 8000000 in
theorem identBack_walk (w : World) (hw : WdO w) (k f s r x : Nat) (a : Option Addr) (n c : Nat) (l : List UInt8)
    (hi : k < 256 ∧ f < 256 ∧ s < 65536 ∧ r < 256) (hx : x < 4294967296) (hl : RL bv w a n c l) (m : n ≤ 9223372036854775807) :
    Calls Tryd.prog 4 #[.agg #[.int .u8 (k : Int), .int .u8 (f : Int), .int .u16 (s : Int), .int .u8 (r : Int)], .int .u32 (x : Int), .slice a n c] w fun e w' => e = .returned (.bool true) ∧ Below w.heap.size w w' := by
  obtain ⟨W0, hW0, b3, gg, hsz⟩ : ∃ w0, Hid (w.alloc (.cells #[.int .u8 (k : Int), .int .u8 (f : Int), .int .u16 (s : Int), .int .u8 (r : Int)] 24) = w0) ∧ w0.heap[w.heap.size]? = some (.cells #[.int .u8 (k : Int), .int .u8 (f : Int), .int .u16 (s : Int), .int .u8 (r : Int)] 24 (0, 0)) ∧ Below w.heap.size w w0 ∧ w.heap.size + 1 ≤ w0.heap.size := ⟨_, rfl, heap_alloc_new w _, bnew0 w _, by simp⟩
  obtain ⟨N, hN⟩ : ∃ N, N = min n 8 := ⟨_, rfl⟩
  have hmn := min15_8 n N hN
  obtain ⟨a3, p1, p2, hr⟩ := run_cutTo tY hl .i64 N (by omega)
  have hN8 : N ≤ 8 := by omega
  have hol := ol_lit bv 5 (w.heap.size + 1) W0 [] #[] 0 rfl rfl (by omega) hsz
  have hl1 := (hr.below gg).below (bnew0 W0 (.cells #[] 5))
  clear hl hN m
  generalize l.take N = ld at *
  go_enter Tryd.func4, Tryd.ntmps4
  go_upto_region 1 with fail
  rw [hW0.out]
  go_upto_region 2 with (first | (at_builtin; refine wpList_app (f := bv) tY rfl _ _ rfl rfl hol rfl hl1 (fun _ => rfl) (by omega) (by omega) (by simp; omega) ?_; intro w1 a1 c1 ho g1; rw [Nat.zero_add, List.nil_append] at ho))
  replace b3 := (g1.block _ (by omega)).trans (bx_alloc _ b3)
  replace gg := (bnew gg _).trans (g1.mono (by omega))
  replace hsz := Nat.le_trans hsz (Nat.le_trans (by simp) g1.size)
  clear g1 hol hl1 p1 p2 hmn hr hW0
  go_upto_region 3 with (first | (go_at_call 9; (with_reducible refine (idRead_any _ (hw.below gg) x hx).mono ?_); rintro e w2 ⟨rfl, g2⟩; replace b3 := bx_below b3 g2; replace ho := ho.below g2; replace gg := bstep gg g2; replace hsz := Nat.le_trans hsz g2.size; clear g2))
  have b7 := heap_alloc_new w2 (.cells #[.int .u8 (rK x : Int), .int .u8 (rF x : Int), .int .u16 (rS x : Int), .int .u8 (rR x : Int)] 24)
  replace b3 := bx_alloc (.cells #[.int .u8 (rK x : Int), .int .u8 (rF x : Int), .int .u16 (rS x : Int), .int .u8 (rR x : Int)] 24) b3
  replace ho := ho.below (bnew0 w2 (.cells #[.int .u8 (rK x : Int), .int .u8 (rF x : Int), .int .u16 (rS x : Int), .int .u8 (rR x : Int)] 24))
  replace gg := bnew gg (.cells #[.int .u8 (rK x : Int), .int .u8 (rF x : Int), .int .u16 (rS x : Int), .int .u8 (rR x : Int)] 24)
  replace hsz : w.heap.size + 1 ≤ (w2.alloc (.cells #[.int .u8 (rK x : Int), .int .u8 (rF x : Int), .int .u16 (rS x : Int), .int .u8 (rR x : Int)] 24)).heap.size := Nat.le_trans hsz (by simp)
  generalize w2.alloc (.cells #[.int .u8 (rK x : Int), .int .u8 (rF x : Int), .int .u16 (rS x : Int), .int .u8 (rR x : Int)] 24) = W2 at *
  generalize w2.heap.size = q2 at *
  go_upto_if 32 with fail
  go_cut [8, 27, 29, 30, 31, 32] (fun s8 s27 s29 s30 s31 s32 wx => Below W2.heap.size W2 wx)
  case first =>
    cases hB : rB x
    · clear b3 ho gg
      go_wp2
      go_meet
      exact RowKit.Below.refl _ _
    · obtain ⟨x1, x2, x3, x4, x5, x6, x7⟩ := rd_parts x hB
      have cM := fun w hw => idMake_any w hw (rK x) (rF x) (rS x) (rR x) x4 x5 x6 x7
      have cR := fun w => idRight_any w (rK x) (rF x) (rS x) (rR x)
      simp only [x2, x3, if_true] at cM cR
      clear x1 x2 x3 x4 x5 x6 x7 hB
      generalize rK x = X1 at *; generalize rF x = X2 at *; generalize rS x = X3 at *; generalize rR x = X4 at *
      have kk : RowKit.Below W2.heap.size W2 W2 := RowKit.Below.refl _ _
      clear b3 ho
      go_wp2_with (first | (with_reducible refine wpList_loadR rowI rfl _ rfl _ rfl b7 rfl ?_) | ((with_reducible refine wpList_loadW rowI ?_ _ rfl _ rfl b7 rfl ?_); focus (simp [Region.wanted, yielded, Act.put]; done)) | (go_at_call 7; (with_reducible refine (cM _ (hw.below gg)).mono ?_); rintro q w5 ⟨rfl, g5⟩; replace b7 := bx_below b7 g5; replace kk := bstep kk g5; clear g5) | (go_at_call 15; (with_reducible refine (cR _).mono ?_); rintro q w6 ⟨rfl, g6⟩; replace kk := bstep kk g6; clear g6))
      go_meet
      exact kk
  case rest =>
  have g1 := hcut; clear hcut
  replace b3 := bx_below b3 g1; replace ho := ho.below g1; replace gg := bstep gg g1; replace hsz := Nat.le_trans hsz g1.size; clear g1 b7 W2
  have cM := hid (fun w hw => idMake_any w hw k f s r hi.1 hi.2.1 hi.2.2.1 hi.2.2.2)
  have cR := hid (fun w => idRight_any w k f s r)
  cases hR : riI ⟨k, f, s, r⟩
  · rw [hR] at cM cR
    have cF := hid (fun w hw a c => idFrame_no w hw k f s r hi.1 hi.2.1 hi.2.2.1 hi.2.2.2 a N c hR)
    clear hi hR
    go_upto_region 9 with (first | (with_reducible refine wpList_loadR rowI rfl _ rfl _ rfl b3 rfl ?_) | (go_at_call 7; (with_reducible refine (cM.out _ (hw.below gg)).mono ?_); rintro q w5 ⟨rfl, g5⟩; replace b3 := bx_below b3 g5; replace gg := bstep gg g5; clear g5) | (go_at_call 11; (with_reducible refine (cF.out _ (hw.below gg) _ _).mono ?_); rintro q w6 ⟨rfl, g6⟩; replace b3 := bx_below b3 g6; replace gg := bstep gg g6; clear g6))
    replace b3 := bx_alloc (.cells #[.int .u32 0, .bool false, .bool false, .int .u8 0, .slice none 0 0] 28) b3
    replace gg := bnew gg (.cells #[.int .u32 0, .bool false, .bool false, .int .u8 0, .slice none 0 0] 28)
    generalize w6.alloc (.cells #[.int .u32 0, .bool false, .bool false, .int .u8 0, .slice none 0 0] 28) = W6 at *
    go_wp2_with (first | (with_reducible refine wpList_loadR rowI rfl _ rfl _ rfl b3 rfl ?_) | (go_at_call 15; (with_reducible refine (cR.out _).mono ?_); rintro q w7 ⟨rfl, g7⟩; replace gg := bstep gg g7; clear g7) | (go_at_call 20; (with_reducible refine (awake15_any _ (hw.below gg)).mono ?_); rintro q w8 ⟨rfl, g8⟩))
    go_ret
    exact ⟨rfl, bstep gg g8⟩
  · have cF := hid (fun w hw a c h => idFrame_ok w hw k f s r hi.1 hi.2.1 hi.2.2.1 hi.2.2.2 a N c hR hN8 ld h)
    obtain ⟨e1, e2, e3, e4, e5⟩ := rd_of k f s r hR hi.2.2.1
    have hM := mk_lt hR hi.2.2.1
    rw [hR] at cM cR
    simp only [if_true] at cM
    clear hR
    generalize mkI ⟨k, f, s, r⟩ = M at *
    have hri : riF M true false N N = true := by unfold riF lonF; simp; omega
    have cD := hid (fun w hw => idRead_any w hw M (by omega))
    have cO := hid (fun w hw a c => idOf_ok w hw M true false N a N c (by omega) (by omega) (by rw [hri]; rfl))
    have cf := hid (fun w a c => frRight_any w M true false N a N c (by omega) (by omega))
    rw [e1, e2, e3, e4, e5] at cD cO
    rw [hri] at cf
    clear e1 e2 e3 e4 e5 hri hi
    have HLT := hid ho.len
    go_upto_region 8 with (first | (with_reducible refine wpList_loadR rowI rfl _ rfl _ rfl b3 rfl ?_) | (go_at_call 7; (with_reducible refine (cM.out _ (hw.below gg)).mono ?_); rintro q w5 ⟨rfl, g5⟩; replace b3 := bx_below b3 g5; replace ho := ho.below g5; replace gg := bstep gg g5; replace hsz := Nat.le_trans hsz g5.size; clear g5))
    have hlt : ∀ q, a1 = some q → q.block < w5.heap.size := fun q hq => (ho.ltB hq).1
    go_upto_region 9 with (first | (with_reducible refine wpList_loadR rowI rfl _ rfl _ rfl b3 rfl ?_) | (go_at_call 11; (with_reducible refine (cF.out _ (hw.below gg) _ _ ho.rl).mono ?_); rintro q w6 ⟨a6, c6, rfl, hf, g6⟩; replace b3 := bx_below b3 g6; replace ho := ho.below g6; replace gg := bstep gg g6))
    have bF := heap_alloc_new w6 (.cells #[.int .u32 (M : Int), .bool true, .bool false, .int .u8 (N : Int), .slice a6 N c6] 28)
    replace b3 := bx_alloc (.cells #[.int .u32 (M : Int), .bool true, .bool false, .int .u8 (N : Int), .slice a6 N c6] 28) b3
    replace ho := ho.below (bnew0 w6 (.cells #[.int .u32 (M : Int), .bool true, .bool false, .int .u8 (N : Int), .slice a6 N c6] 28))
    replace hf := hf.below (bnew0 w6 (.cells #[.int .u32 (M : Int), .bool true, .bool false, .int .u8 (N : Int), .slice a6 N c6] 28))
    replace gg := bnew gg (.cells #[.int .u32 (M : Int), .bool true, .bool false, .int .u8 (N : Int), .slice a6 N c6] 28)
    have hq6 : w5.heap.size ≤ w6.heap.size := g6.size
    generalize w6.alloc (.cells #[.int .u32 (M : Int), .bool true, .bool false, .int .u8 (N : Int), .slice a6 N c6] 28) = W6 at *
    generalize w6.heap.size = q6 at *
    clear g6 cM cF
    go_upto_region 12 with (first | (with_reducible refine wpList_loadR rowI rfl _ rfl _ rfl b3 rfl ?_) | (go_at_call 15; (with_reducible refine (cR.out _).mono ?_); rintro q w7 ⟨rfl, g7⟩; replace b3 := bx_below b3 g7; replace bF := bx_below bF g7; replace ho := ho.below g7; replace hf := hf.below g7; replace gg := bstep gg g7; clear g7) | (go_at_call 9; (with_reducible refine (cD.out _ (hw.below gg)).mono ?_); rintro q w8 ⟨rfl, g8⟩; replace b3 := bx_below b3 g8; replace bF := bx_below bF g8; replace ho := ho.below g8; replace hf := hf.below g8; replace gg := bstep gg g8; clear g8))
    have b15 := heap_alloc_new w8 (.cells #[.int .u8 (k : Int), .int .u8 (f : Int), .int .u16 (s : Int), .int .u8 (r : Int)] 24)
    replace b3 := bx_alloc (.cells #[.int .u8 (k : Int), .int .u8 (f : Int), .int .u16 (s : Int), .int .u8 (r : Int)] 24) b3
    replace bF := bx_alloc (.cells #[.int .u8 (k : Int), .int .u8 (f : Int), .int .u16 (s : Int), .int .u8 (r : Int)] 24) bF
    replace ho := ho.below (bnew0 w8 (.cells #[.int .u8 (k : Int), .int .u8 (f : Int), .int .u16 (s : Int), .int .u8 (r : Int)] 24))
    replace hf := hf.below (bnew0 w8 (.cells #[.int .u8 (k : Int), .int .u8 (f : Int), .int .u16 (s : Int), .int .u8 (r : Int)] 24))
    replace gg := bnew gg (.cells #[.int .u8 (k : Int), .int .u8 (f : Int), .int .u16 (s : Int), .int .u8 (r : Int)] 24)
    generalize w8.alloc (.cells #[.int .u8 (k : Int), .int .u8 (f : Int), .int .u16 (s : Int), .int .u8 (r : Int)] 24) = W8 at *
    generalize w8.heap.size = q8 at *
    go_upto_region 13 with (first | (with_reducible refine wpList_loadR rowF rfl _ rfl _ rfl bF rfl ?_) | (go_at_call 13; (with_reducible refine (cO.out _ (hw.below gg) _ _).mono ?_); rintro q w9 ⟨rfl, g9⟩; replace b15 := bx_below b15 g9; replace b3 := bx_below b3 g9; replace bF := bx_below bF g9; replace ho := ho.below g9; replace hf := hf.below g9; replace gg := bstep gg g9; clear g9))
    have b17 := heap_alloc_new w9 (.cells #[.int .u8 (k : Int), .int .u8 (f : Int), .int .u16 (s : Int), .int .u8 (r : Int)] 24)
    replace b3 := bx_alloc (.cells #[.int .u8 (k : Int), .int .u8 (f : Int), .int .u16 (s : Int), .int .u8 (r : Int)] 24) b3
    replace bF := bx_alloc (.cells #[.int .u8 (k : Int), .int .u8 (f : Int), .int .u16 (s : Int), .int .u8 (r : Int)] 24) bF
    replace b15 := bx_alloc (.cells #[.int .u8 (k : Int), .int .u8 (f : Int), .int .u16 (s : Int), .int .u8 (r : Int)] 24) b15
    replace ho := ho.below (bnew0 w9 (.cells #[.int .u8 (k : Int), .int .u8 (f : Int), .int .u16 (s : Int), .int .u8 (r : Int)] 24))
    replace hf := hf.below (bnew0 w9 (.cells #[.int .u8 (k : Int), .int .u8 (f : Int), .int .u16 (s : Int), .int .u8 (r : Int)] 24))
    replace gg := bnew gg (.cells #[.int .u8 (k : Int), .int .u8 (f : Int), .int .u16 (s : Int), .int .u8 (r : Int)] 24)
    generalize w9.alloc (.cells #[.int .u8 (k : Int), .int .u8 (f : Int), .int .u16 (s : Int), .int .u8 (r : Int)] 24) = W9 at *
    generalize w9.heap.size = q9 at *
    go_upto_region 15 with (first | ((with_reducible refine wpList_loadW rowI ?_ _ rfl _ rfl b3 rfl ?_); focus (simp [Region.wanted, yielded, Act.put]; done)) | ((with_reducible refine wpList_loadW rowI ?_ _ rfl _ rfl b15 rfl ?_); focus (simp [Region.wanted, yielded, Act.put]; done)) | ((with_reducible refine wpList_loadW rowI ?_ _ rfl _ rfl b17 rfl ?_); focus (simp [Region.wanted, yielded, Act.put]; done)) | ((with_reducible refine wpList_loadW rowF ?_ _ rfl _ rfl bF rfl ?_); focus (simp [Region.wanted, yielded, Act.put]; done)) | (go_at_call 21; (with_reducible refine (cf.out _ _ _).mono ?_); rintro q w10 ⟨rfl, g10⟩; replace b15 := bx_below b15 g10; replace b17 := bx_below b17 g10; replace b3 := bx_below b3 g10; replace bF := bx_below bF g10; replace ho := ho.below g10; replace hf := hf.below g10; replace gg := bstep gg g10; clear g10))
    clear b15 b17 b3 cR cD cO cf
    go_wp2
    go_loopg [122] N (fun gn vi wr => ∃ (j : Nat) (D : List UInt8), j ≤ N ∧ gn = N - j ∧ vi = .int .i64 (j : Int) ∧ (∀ i, j ≤ i → D[i]? = ld[i]?) ∧ OL bv 5 (w.heap.size + 1) wr a1 N c1 D ∧ OL bv 5 w5.heap.size wr a6 N c6 ld ∧ wr.heap[q6]? = some (.cells #[.int .u32 (M : Int), .bool true, .bool false, .int .u8 (N : Int), .slice a6 N c6] 28 (0, 0)) ∧ Below w.heap.size w wr)
    case atStart => exact ⟨0, ld, by omega, by omega, rfl, fun _ _ => rfl, ho, hf, bF, gg⟩
    case round =>
      clear ho hf bF gg
      obtain ⟨j, D, hj, rfl, rfl, hD, ho, hf, bF, gg⟩ := hrel
      by_cases hjn : j < N
      · have hv : ld[j]? = some (ld[j]'(by rw [HLT.out]; exact hjn)) := List.getElem?_eq_getElem _
        generalize ld[j]'(by rw [HLT.out]; exact hjn) = v at hv
        rcases ho.ex with ⟨_, h0, _⟩ | ⟨g, cur, rfl, hBg, hh, hcs⟩
        · omega
        rcases hf.ex with ⟨_, h0, _⟩ | ⟨g2, cur2, rfl, hBg2, hh2, hcs2⟩
        · omega
        have hg1 : g < w5.heap.size := hlt _ rfl
        have hne : g2 ≠ g := by omega
        have hne6 : q6 ≠ g := by omega
        clear hh hcs hh2 hcs2
        have hDj : D[j]? = some v := (hD j (Nat.le_refl _)).trans hv
        obtain ⟨hcv, hfv⟩ := ho.cellAt hDj
        have ho2 := ho.set (i := j) (v + 1)
        have hc2 := (ho2.cellAt (i := j) (x := v + 1) (by rw [List.getElem?_set_self (by have := ho.len; omega)])).1
        have hf2 := hf.kept (w' := wr.setCell ⟨g, j, none⟩ (bv (v + 1))) (fun g' hg' => heap_setCell_other _ _ _ _ (by cases hg'; exact hne))
        have hc6 := (hf2.cellAt hv).1
        have bF2 : (wr.setCell ⟨g, j, none⟩ (bv (v + 1))).heap[q6]? = _ := (heap_setCell_other _ _ _ _ hne6).trans bF
        have gg2 := gg.setCell (p := ⟨g, j, none⟩) (by show w.heap.size ≤ g; omega) (bv (v + 1))
        have hD2 : ∀ i, j + 1 ≤ i → (D.set j (v + 1))[i]? = ld[i]? := fun i hi => by rw [List.getElem?_set_ne (by omega)]; exact hD i (by omega)
        unfold bv at hcv hc2 hc6 bF2 gg2 ho2 hf2
        clear hD ho hf bF gg hDj hlt hBg hBg2 hne hne6 hg1
        have hval : ((v.toNat : Int) + 1) % 256 = ((v + 1).toNat : Int) := by
          have h1 : (v + 1).toNat = (v.toNat + 1) % 256 := by rw [UInt8.toNat_add]; rfl
          omega
        have hvv : ((v.toNat : Int) == ((v + 1).toNat : Int)) = false := by
          have h1 : (v + 1).toNat = (v.toNat + 1) % 256 := by rw [UInt8.toNat_add]; rfl
          have h2 : v.toNat < 256 := v.toNat_lt
          simp; omega
        have HV := hid hval
        clear hval
        go_upto_region 19 with fail
        rw [HV.out]
        have H1 := hid ho2; have H2 := hid hf2; have H3 := hid bF2; have H4 := hid gg2; have H5 := hid hD2
        obtain ⟨_, _, _, _, x4⟩ := bx5 bF2
        clear ho2 hf2 bF2 gg2 hD2 HV
        generalize wr.setCell ⟨g, j, none⟩ (.int .u8 ((v + 1).toNat : Int)) = Wn at *
        have HD0 := hid hv; clear hv hcv hfv
        generalize hy : (v + 1).toNat = y at hvv hc2
        generalize hz : v.toNat = z at hvv hc6
        clear hy hz
        go_quiet (fail)
        have hq1 := H1.out.drewN nq; have hq2 := H2.out.drewN nq
        have hq4 := below_drewN H4.out nq
        have hq3 := (show (Wn.drewN nq).heap[q6]? = _ by simpa using H3.out)
        generalize Wn.drewN nq = Wd at *
        go_wp2
        go_roundg (N - (j + 1))
        case measure => omega
        case rel => exact ⟨j + 1, _, by omega, rfl, by go_num, H5.out, hq1, hq2, hq3, hq4⟩
      · obtain rfl : j = N := by omega
        clear hD hlt
        obtain ⟨_, _, _, _, x4⟩ := bx5 bF
        go_wp2_with (go_at_call 20; (with_reducible refine (awake15_any _ (hw.below gg)).mono ?_); rintro q w11 ⟨rfl, g11⟩)
        go_ret
        exact ⟨rfl, bstep gg g11⟩
end Go.Proofs.YtdkgdjdhmonccaaDoor
