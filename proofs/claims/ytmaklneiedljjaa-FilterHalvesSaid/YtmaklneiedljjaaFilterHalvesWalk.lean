/-
  FilterHalves, walked: a filter that does not ask some bit lets in just what the two do that ask it; both it covers, and neither of them it.
-/
import Derived.Test.YtmaklneiedljjaaB11h
import Derived.Test.YtmaklneiedljjaaM11e
import Derived.Sort.Walk7a
import Derived.Deep.RegionHeld3
namespace Go.Proofs.Ytmaklneiedljjaa
open Go.RowKit Go.Sort
set_option linter.unusedVariables false
set_option linter.unusedSimpArgs false

theorem cell_new_of {w : World} {a : Addr} {v : Value} (h : w.cell? a = some v) (o : Obj) : (w.alloc o).cell? a = some v := by
  rw [(bnew0 w o).cell (block_lt_of_cell h)]; exact h
theorem shl_u32 (kb : Nat) (h : kb ≤ 30) : Op.shift .shl .u32 1 .i64 (kb : Int) = pure (.int .u32 ((2 ^ kb : Nat) : Int)) := by
  have h2 : (2 : Nat) ^ kb ≤ 2 ^ 30 := Nat.pow_le_pow_right (by decide) h
  rw [shift_shl .u32 .i64 1 _ (by omega) (by show ((kb : Nat) : Int) ≤ 32; omega), Int.one_mul, Int.toNat_natCast, show ((2 : Int) ^ kb) = ((2 ^ kb : Nat) : Int) by push_cast; rfl]
  generalize (2 : Nat) ^ kb = p at *
  congr 2
  exact IntWalk.u32_in _ (by omega)
theorem lit1Fi' (v : World) (x : Fi) (g : Nat) (hg : v.heap.size = g) : RK fiE 3 (v.alloc (.cells (fiV x) 25)) (some ⟨g, 0, none⟩) 1 1 [x] := by subst hg; exact lit1Fi v x
theorem or_u32 (a b : Nat) (ha : a < 4294967296) (hb : b < 4294967296) : bits .or .u32 (a : Int) (b : Int) = ((a ||| b : Nat) : Int) := (u32_bits a b ha hb).2

set_option maxRecDepth 100000 in
set_option maxHeartbeats 8000000 in
theorem filterHalves_walk (w : World) (x : Fi) (which id : Nat) (hx : x.Ok) (hwh : which < 256) (hi : id < 4294967296) :
    Calls Try.prog 7 #[.agg (fiV x), .int .u8 (which : Int), .int .u32 (id : Int)] w fun q w' => q = .returned (.bool true) ∧ RowKit.Below w.heap.size w w' := by
  obtain ⟨w0, hw0, b0, g0⟩ := boxed11 w 25 (fiV x)
  have kM := hid (fun w => mk_any x hx w)
  have hXr := mkF_right x
  have hXo : (mkF x).Ok := mkF_ok
  generalize mkF x = X at *
  obtain ⟨kb, hkb⟩ : ∃ kb, kb = which % nbF X.ext := ⟨_, rfl⟩
  have hkl : kb < nbF X.ext := by rw [hkb]; exact Nat.mod_lt _ (by cases X.ext <;> decide)
  have hk29 : kb < 29 := Nat.lt_of_lt_of_le hkl (by cases X.ext <;> decide)
  have hHf : X.mask &&& 2 ^ kb = 0 → Half X kb := fun h => ⟨hXo, hXr, hkl, (and_bit0 _ _).1 h⟩
  have HHf := hid hHf
  clear hHf
  have hP31 : 2 ^ kb < 4294967296 := Nat.lt_of_le_of_lt (Nat.pow_le_pow_right (by decide) (show kb ≤ 30 by omega)) (by decide)
  have hshl := shl_u32 kb (by omega)
  have hand := and_u32 X.mask (2 ^ kb) hXo.1 hP31
  have hor1 := or_u32 X.mask (2 ^ kb) hXo.1 hP31
  have hor2 := or_u32 X.mat (2 ^ kb) hXo.2 hP31
  obtain ⟨P, hP⟩ : ∃ P, P = 2 ^ kb := ⟨_, rfl⟩
  rw [← hP] at hP31 hshl hand hor1 hor2
  obtain ⟨idt, hidt⟩ : ∃ idt, idt = id &&& topF X.ext := ⟨_, rfl⟩
  have hidl : idt < 4294967296 := by rw [hidt]; exact Nat.lt_of_le_of_lt Nat.and_le_right (topF_lt _)
  have hai := and_u32 id (topF X.ext) hi (topF_lt _)
  rw [← hidt] at hai
  have HP := hid hP
  clear hP hidt
  go_enter Try.func7, Try.ntmps7
  go_upto_region 1 with fail
  rw [hw0.out]
  clear hw0
  go_upto_region 2 with (first
    | (with_reducible refine wpList_loadR rowFi rfl _ rfl _ rfl b0 rfl ?_)
    | (go_at_call 20; (with_reducible refine (kM.out w0).mono ?_); rintro q w1 ⟨rfl, g1⟩; have c1 := bx_below b0 g1)
    | (with_reducible refine wpList_storeR rowFi rfl _ _ rfl _ _ rfl rfl c1 rfl rfl (ones3 _ _ _) ?_))
  have c2 := setRow_heap _ _ _ (fiV X) _ _ c1
  have gg := below_setRow (bstep g0 g1) (Nat.le_refl _) (fiV X)
  generalize w1.setRow w.heap.size (fiV X) = W at *
  clear b0 g0 g1 c1 kM
  obtain ⟨e, m, t⟩ := X
  simp only at hkb hkl hand hor1 hor2 hai
  have c2' : W.heap[w.heap.size]? = some (.cells #[.bool e, .int .u32 (m : Int), .int .u32 (t : Int)] 25 (0, 0)) := c2
  obtain ⟨x0, x1, x2⟩ := bx3 c2'
  go_upto_if 18 with fail
  go_cut [7] (fun s7 wx => s7 = .int .i64 (nbF e : Int) ∧ wx = W)
  case first =>
    cases e
    · go_wp2_with fail
      go_meet
      exact ⟨rfl, rfl⟩
    · go_wp2_with fail
      go_meet
      exact ⟨rfl, rfl⟩
  case rest =>
  obtain ⟨rfl, rfl⟩ := hcut
  have hrem : Int.tmod (which : Int) (nbF e : Int) = (kb : Int) := by rw [hkb, Int.tmod_eq_emod_of_nonneg (by omega)]; omega
  have hrem2 : (which : Int) % (nbF e : Int) = (kb : Int) := by rw [hkb]; omega
  have hnb : 0 < nbF e ∧ nbF e ≤ 29 := by cases e <;> decide
  have hsh2 : Op.shift .shl .u32 1 .i64 (nbF e : Int) = pure (.int .u32 ((topF e : Int) + 1)) := by
    rw [shl_u32 _ (by omega)]; cases e <;> rfl
  have hTl := topF_lt e
  have hPv : (2 : Int) ^ kb % 4294967296 = (P : Int) := by
    rw [HP.out] at hP31 ⊢
    rw [show ((2 : Int) ^ kb) = ((2 ^ kb : Nat) : Int) by push_cast; rfl]
    generalize (2 : Nat) ^ kb = p at *
    omega
  have hTv : (2 : Int) ^ (nbF e) % 4294967296 = (topF e : Int) + 1 := by cases e <;> rfl
  have hT1 : IntKind.u32.wrap ((topF e : Int) + 1 - 1) = (topF e : Int) := by rw [Int.add_sub_cancel]; exact IntWalk.u32_in _ (by omega)
  have hT2 : IntKind.u32.wrap (topF e : Int) = (topF e : Int) := IntWalk.u32_in _ (by omega)
  have hnz : ((nbF e : Int) == 0) = false := by cases e <;> rfl
  obtain ⟨T, hT⟩ : ∃ T, T = topF e := ⟨_, rfl⟩
  obtain ⟨nb, hnbe⟩ : ∃ nb, nb = nbF e := ⟨_, rfl⟩
  rw [← hT] at hsh2 hTl hT1 hT2 hai hTv
  rw [← hnbe] at hrem hrem2 hnb hsh2 hnz hkl hTv ⊢
  clear hT hnbe hkb
  obtain ⟨hnb0, hnb1⟩ := hnb
  have hnz3 : nb ≠ 0 := by omega
  have hnz4 : (nb : Int) ≠ 0 := by omega
  by_cases hz : m &&& P = 0
  rotate_left
  · have hz2 : (((m &&& P : Nat) : Int) == 0) = false := by simp; omega
    generalize m &&& P = z at *
    go_wp2_with (go_at_call 8; (with_reducible refine (awake11_any _).mono ?_); rintro q w2 ⟨rfl, g2⟩)
    go_ret
    exact ⟨rfl, bstep gg g2⟩
  rw [hz] at hand
  have HH := hid (HHf.out (by rw [← HP.out]; exact hz))
  clear HHf hXr hXo
  have hone : oneF ⟨e, m, t⟩ kb = ⟨e, m ||| P, t⟩ := by rw [HP.out]; rfl
  have htwo : twoF ⟨e, m, t⟩ kb = ⟨e, m ||| P, t ||| P⟩ := by rw [HP.out]; rfl
  have HONE := hid hone
  have HTWO := hid htwo
  clear hone htwo
  go_upto_region 9 with fail
  clear hrem hrem2 hnb1 hnz4 hsh2 hTl hT1 hT2 hnz hkl hTv hai hk29 hnb0 hnz3
  generalize wc = W1 at *
  have GG := hid gg
  clear gg c2
  have e0 := fun o => cell_new_of x0 o
  have h0 := fun o1 o2 => cell_new_of (e0 o1) o2
  have e1 := fun o => cell_new_of x1 o
  have h1 := fun o1 o2 => cell_new_of (e1 o1) o2
  have e2 := fun o => cell_new_of x2 o
  have h2 := fun o1 o2 => cell_new_of (e2 o1) o2
  change Code.wp _ _ _ _ W1
  go_cut [9, 10] (fun s9 s10 wx => ∃ g1 g2 : Nat, s9 = .pointer (some ⟨g1, 0, none⟩) ∧ s10 = .pointer (some ⟨g2, 0, none⟩) ∧ (W1.heap.size ≤ g1 ∧ W1.heap.size ≤ g2 ∧ g1 ≠ g2) ∧ wx.heap[g1]? = some (.cells #[.bool e, .int .u32 (m : Int), .int .u32 (t : Int)] 25 (0, 0)) ∧ wx.heap[g2]? = some (.cells #[.bool e, .int .u32 (m : Int), .int .u32 (t : Int)] 25 (0, 0)) ∧ RowKit.Below W1.heap.size W1 wx)
  case first =>
    have b1 : (((W1.alloc (.cells #[.bool e, .int .u32 (m : Int), .int .u32 (t : Int)] 25)).alloc (.cells #[.bool e, .int .u32 (m : Int), .int .u32 (t : Int)] 25)).drew).heap[W1.heap.size]? = some (.cells #[.bool e, .int .u32 (m : Int), .int .u32 (t : Int)] 25 (0, 0)) := bx_alloc _ (heap_alloc_new W1 _)
    have b2 : (((W1.alloc (.cells #[.bool e, .int .u32 (m : Int), .int .u32 (t : Int)] 25)).alloc (.cells #[.bool e, .int .u32 (m : Int), .int .u32 (t : Int)] 25)).drew).heap[W1.heap.size + 1]? = some (.cells #[.bool e, .int .u32 (m : Int), .int .u32 (t : Int)] 25 (0, 0)) := by
      have := heap_alloc_new (W1.alloc (.cells #[.bool e, .int .u32 (m : Int), .int .u32 (t : Int)] 25)) (.cells #[.bool e, .int .u32 (m : Int), .int .u32 (t : Int)] 25)
      rw [heap_size_alloc] at this; exact this
    have bw : RowKit.Below W1.heap.size W1 (((W1.alloc (.cells #[.bool e, .int .u32 (m : Int), .int .u32 (t : Int)] 25)).alloc (.cells #[.bool e, .int .u32 (m : Int), .int .u32 (t : Int)] 25)).drew) := (bnew (bnew0 W1 _) _).drew
    clear c2'
    go_region
    all_goals
      clear e0 e1 e2 h0 h1 h2 x0 x1 x2
      go_wp2
      go_meet
      refine ⟨_, _, rfl, rfl, ⟨?_, ?_, ?_⟩, ?_, ?_, bw⟩
      · omega
      · omega
      · omega
      all_goals first | exact b1 | exact b2
  case rest =>
  obtain ⟨g1, g2, rfl, rfl, hd, b1, b2, bw⟩ := hcut
  have hbx := bx_lt c2'
  have b0 := bx_below c2' bw
  clear e0 e1 e2 h0 h1 h2 x0 x1 x2
  obtain ⟨y0, y1, y2⟩ := bx3 b1
  have f1 := bx_thaw b1 1
  go_upto_region 11 with fail
  have d1 : (wc.setCell ⟨g1, 1, none⟩ (.int .u32 ((m ||| P : Nat) : Int))).heap[g1]? = some (.cells #[.bool e, .int .u32 ((m ||| P : Nat) : Int), .int .u32 (t : Int)] 25 (0, 0)) := heap_setCell_same wc g1 1 _ _ _ b1
  have d2 : (wc.setCell ⟨g1, 1, none⟩ (.int .u32 ((m ||| P : Nat) : Int))).heap[g2]? = some (.cells #[.bool e, .int .u32 (m : Int), .int .u32 (t : Int)] 25 (0, 0)) := by rw [RowKit.Below.heap_setCell _ _ _ _ (by simp; omega)]; exact b2
  have d0 : (wc.setCell ⟨g1, 1, none⟩ (.int .u32 ((m ||| P : Nat) : Int))).heap[w.heap.size]? = some (.cells #[.bool e, .int .u32 (m : Int), .int .u32 (t : Int)] 25 (0, 0)) := by rw [RowKit.Below.heap_setCell _ _ _ _ (by simp; omega)]; exact b0
  have dw : RowKit.Below W1.heap.size W1 (wc.setCell ⟨g1, 1, none⟩ (.int .u32 ((m ||| P : Nat) : Int))) := RowKit.Below.setCell bw (by simp; omega) _
  clear b0 b1 b2 bw y0 y1 y2 f1
  generalize wc.setCell ⟨g1, 1, none⟩ (.int .u32 ((m ||| P : Nat) : Int)) = W3 at *
  obtain ⟨x0, x1, x2⟩ := bx3 d0
  obtain ⟨y0, y1, y2⟩ := bx3 d1
  have f1 := bx_thaw d2 1
  have f2 := bx_thaw d2 2
  obtain ⟨q, hq⟩ : ∃ q, q = m ||| P := ⟨_, rfl⟩
  obtain ⟨s, hs⟩ : ∃ s, s = t ||| P := ⟨_, rfl⟩
  rw [← hq] at hor1 y1 d1 HONE HTWO
  rw [← hs] at hor2 HTWO
  clear hq hs
  have k1 : (W3.setCell ⟨g2, 1, none⟩ (.int .u32 (q : Int))).heap[g2]? = some (.cells #[.bool e, .int .u32 (q : Int), .int .u32 (t : Int)] 25 (0, 0)) := heap_setCell_same W3 g2 1 _ _ _ d2
  have k2 : ((W3.setCell ⟨g2, 1, none⟩ (.int .u32 (q : Int))).setCell ⟨g2, 2, none⟩ (.int .u32 (s : Int))).heap[g2]? = some (.cells #[.bool e, .int .u32 (q : Int), .int .u32 (s : Int)] 25 (0, 0)) := heap_setCell_same _ g2 2 _ _ _ k1
  have k3 : (W3.setCell ⟨g2, 1, none⟩ (.int .u32 (q : Int))).heap[w.heap.size]? = some (.cells #[.bool e, .int .u32 (m : Int), .int .u32 (t : Int)] 25 (0, 0)) := by rw [RowKit.Below.heap_setCell _ _ _ _ (by simp; omega)]; exact d0
  have k4 : ((W3.setCell ⟨g2, 1, none⟩ (.int .u32 (q : Int))).setCell ⟨g2, 2, none⟩ (.int .u32 (s : Int))).heap[w.heap.size]? = some (.cells #[.bool e, .int .u32 (m : Int), .int .u32 (t : Int)] 25 (0, 0)) := by rw [RowKit.Below.heap_setCell _ _ _ _ (by simp; omega)]; exact k3
  have k5 : (W3.setCell ⟨g2, 1, none⟩ (.int .u32 (q : Int))).heap[g1]? = some (.cells #[.bool e, .int .u32 (q : Int), .int .u32 (t : Int)] 25 (0, 0)) := by rw [RowKit.Below.heap_setCell _ _ _ _ (by simp; omega)]; exact d1
  have k6 : ((W3.setCell ⟨g2, 1, none⟩ (.int .u32 (q : Int))).setCell ⟨g2, 2, none⟩ (.int .u32 (s : Int))).heap[g1]? = some (.cells #[.bool e, .int .u32 (q : Int), .int .u32 (t : Int)] 25 (0, 0)) := by rw [RowKit.Below.heap_setCell _ _ _ _ (by simp; omega)]; exact k5
  have kw : RowKit.Below W1.heap.size W1 ((W3.setCell ⟨g2, 1, none⟩ (.int .u32 (q : Int))).setCell ⟨g2, 2, none⟩ (.int .u32 (s : Int))) := RowKit.Below.setCell (RowKit.Below.setCell dw (by simp; omega) _) (by simp; omega) _
  have f3 := bx_thaw k1 2
  obtain ⟨z0, z1, z2⟩ := bx3 k3
  obtain ⟨v0, v1, v2⟩ := bx3 d2
  obtain ⟨u0, u1, u2⟩ := bx3 k1
  clear k1 k3 k5 d0 d1 d2 dw
  change Code.wp _ _ _ _ W3
  go_cut [9] (fun s9 wx => s9 = .pointer (some ⟨g1, 0, none⟩) ∧ wx.heap[g1]? = some (.cells #[.bool e, .int .u32 (q : Int), .int .u32 (t : Int)] 25 (0, 0)) ∧ wx.heap[g2]? = some (.cells #[.bool e, .int .u32 (q : Int), .int .u32 (s : Int)] 25 (0, 0)) ∧ wx.heap[w.heap.size]? = some (.cells #[.bool e, .int .u32 (m : Int), .int .u32 (t : Int)] 25 (0, 0)) ∧ RowKit.Below W1.heap.size W1 wx)
  case first =>
    clear c2'
    go_region
    all_goals
      clear x0 x1 x2 y0 y1 y2 z0 z1 z2 u0 u1 u2 v0 v1 v2 f1 f2 f3
      go_wp2
      go_meet
      exact ⟨rfl, k6, k2, k4, kw.drew⟩
  case rest =>
  obtain ⟨rfl, b1, b2, b0, bw⟩ := hcut
  clear x0 x1 x2 y0 y1 y2 z0 z1 z2 u0 u1 u2 v0 v1 v2 f1 f2 f3 k2 k4 k6 kw
  obtain ⟨x0, x1, x2⟩ := bx3 b0
  go_upto_region 13 with fail
  have bF := heap_alloc_new wc (.cells (fmV idt e false (.int .u8 0) (.slice none 0 0)) 30)
  have a1 := bx_alloc (.cells (fmV idt e false (.int .u8 0) (.slice none 0 0)) 30) b1
  have a2 := bx_alloc (.cells (fmV idt e false (.int .u8 0) (.slice none 0 0)) 30) b2
  have a0 := bx_alloc (.cells (fmV idt e false (.int .u8 0) (.slice none 0 0)) 30) b0
  have gg := (GG.out.trans (bw.mono GG.out.size)).alloc (GG.out.trans (bw.mono GG.out.size)).size (.cells (fmV idt e false (.int .u8 0) (.slice none 0 0)) 30)
  generalize wc.alloc (.cells (fmV idt e false (.int .u8 0) (.slice none 0 0)) 30) = W5 at *
  generalize wc.heap.size = gf at *
  clear b0 b1 b2 bw x0 x1 x2 c2' GG hor1 hor2 hand
  -- what is answered
  have K0 := hid (fun w a h => fiPass_any w a 1 1 [⟨e, m, t⟩] idt e false (.int .u8 0) (.slice none 0 0) h (fun x hx => by simp at hx; subst hx; exact HH.out.ok) (by omega) hidl)
  have K1 := hid (fun w a h => fiPass_any w a 1 1 [⟨e, q, t⟩] idt e false (.int .u8 0) (.slice none 0 0) h (fun x hx => by simp at hx; subst hx; rw [← HONE.out]; exact HH.out.ok1) (by omega) hidl)
  have K2 := hid (fun w a h => fiPass_any w a 1 1 [⟨e, q, s⟩] idt e false (.int .u8 0) (.slice none 0 0) h (fun x hx => by simp at hx; subst hx; rw [← HTWO.out]; exact HH.out.ok2) (by omega) hidl)
  have K3 := hid (fun w a h => fiPass_any w a 2 2 [⟨e, q, t⟩, ⟨e, q, s⟩] idt e false (.int .u8 0) (.slice none 0 0) h (fun x hx => by simp at hx; rcases hx with rfl | rfl; (rw [← HONE.out]; exact HH.out.ok1); (rw [← HTWO.out]; exact HH.out.ok2)) (by omega) hidl)
  have C1 := hid (fun w => covers_any ⟨e, m, t⟩ ⟨e, q, t⟩ HH.out.ok (by rw [← HONE.out]; exact HH.out.ok1) w)
  have C2 := hid (fun w => covers_any ⟨e, m, t⟩ ⟨e, q, s⟩ HH.out.ok (by rw [← HTWO.out]; exact HH.out.ok2) w)
  have C3 := hid (fun w => covers_any ⟨e, q, t⟩ ⟨e, m, t⟩ (by rw [← HONE.out]; exact HH.out.ok1) HH.out.ok w)
  have C4 := hid (fun w => covers_any ⟨e, q, s⟩ ⟨e, m, t⟩ (by rw [← HTWO.out]; exact HH.out.ok2) HH.out.ok w)
  have C5 := hid (fun w => covers_any ⟨e, q, t⟩ ⟨e, q, s⟩ (by rw [← HONE.out]; exact HH.out.ok1) (by rw [← HTWO.out]; exact HH.out.ok2) w)
  have c1v : coversF ⟨e, m, t⟩ ⟨e, q, t⟩ = true := by rw [← HONE.out]; exact HH.out.cov1
  rw [c1v] at C1
  have c2v : coversF ⟨e, m, t⟩ ⟨e, q, s⟩ = true := by rw [← HTWO.out]; exact HH.out.cov2
  rw [c2v] at C2
  have c3v : coversF ⟨e, q, t⟩ ⟨e, m, t⟩ = false := by rw [← HONE.out]; exact HH.out.cov3
  rw [c3v] at C3
  have c4v : coversF ⟨e, q, s⟩ ⟨e, m, t⟩ = false := by rw [← HTWO.out]; exact HH.out.cov4
  rw [c4v] at C4
  have c5v : coversF ⟨e, q, t⟩ ⟨e, q, s⟩ = false := by rw [← HTWO.out, ← HONE.out]; exact HH.out.cov5
  rw [c5v] at C5
  clear c1v c2v c3v c4v c5v
  have hA : passF idt e [⟨e, q, t⟩] = (letsF idt e ⟨e, m, t⟩ && !idt.testBit kb) := by rw [passF1, ← HONE.out, HH.out.lets1]
  have hB : passF idt e [⟨e, q, s⟩] = (letsF idt e ⟨e, m, t⟩ && idt.testBit kb) := by rw [passF1, ← HTWO.out, HH.out.lets2]
  have hAB : passF idt e [⟨e, q, t⟩, ⟨e, q, s⟩] = (passF idt e [⟨e, q, t⟩] || passF idt e [⟨e, q, s⟩]) := by rw [passF2, passF1, passF1]
  have hW : passF idt e [⟨e, m, t⟩] = letsF idt e ⟨e, m, t⟩ := passF1 _ _ _
  rw [hAB, hA, hB] at K3
  rw [hA] at K1
  rw [hB] at K2
  rw [hW] at K0
  clear hA hB hAB hW
  generalize letsF idt e ⟨e, m, t⟩ = L at *
  generalize idt.testBit kb = tb at *
  have hcs : (L = false ∧ (L && !tb) = false ∧ (L && tb) = false) ∨ (L = true ∧ (L && !tb) = true ∧ (L && tb) = false) ∨ (L = true ∧ (L && !tb) = false ∧ (L && tb) = true) := by cases L <;> cases tb <;> simp
  generalize (L && !tb) = A at *
  generalize (L && tb) = B at *
  have HCS := hid hcs
  clear hcs HONE HTWO HH HP
  have HFR := hid (And.intro a1 (And.intro a2 (And.intro a0 bF)))
  rw [hPv]
  clear hPv
  go_cut [12, 13] (fun s12 s13 wx => s12 = .bool A ∧ s13 = .bool B ∧ RowKit.Below W5.heap.size W5 wx)
  case first =>
    have hd1 : RowKit.Below W5.heap.size W5 W5.drew := (RowKit.Below.refl _ _).drew
    clear K0 K3 C1 C2 C3 C4 C5 HFR HCS gg
    go_region_held3 (fun w' => w'.cell? ⟨g1, 0, none⟩ = some (.bool e) ∧ w'.cell? ⟨g1, 1, none⟩ = some (.int .u32 (q : Int)) ∧ w'.cell? ⟨g1, 2, none⟩ = some (.int .u32 (t : Int)) ∧
        w'.cell? ⟨g2, 0, none⟩ = some (.bool e) ∧ w'.cell? ⟨g2, 1, none⟩ = some (.int .u32 (q : Int)) ∧ w'.cell? ⟨g2, 2, none⟩ = some (.int .u32 (s : Int)) ∧
        w'.cell? ⟨gf, 0, none⟩ = some (.int .u32 (idt : Int)) ∧ w'.cell? ⟨gf, 1, none⟩ = some (.bool e) ∧ w'.cell? ⟨gf, 2, none⟩ = some (.bool false) ∧ w'.cell? ⟨gf, 3, none⟩ = some (.int .u8 0) ∧ w'.cell? ⟨gf, 4, none⟩ = some (.slice none 0 0) ∧ RowKit.Below W5.heap.size W5 w')
      ((with_reducible exact held11 a1 a2 bF (by repeat' (first | (with_reducible assumption) | (with_reducible exact RowKit.Below.refl _ _) | (with_reducible refine RowKit.Below.drew ?_) | (with_reducible refine bnew ?_ _) | (with_reducible refine bstep ?_ (by with_reducible assumption))))))
      (first
        | (go_simp; go_at_call 13; with_reducible refine Calls.mono (K1.out _ _ (RK.drew (lit1Fi' _ ⟨e, q, t⟩ _ (by simp)))) ?_; rintro q5 w5 ⟨rfl, g5⟩)
        | (go_simp; go_at_call 13; with_reducible refine Calls.mono (K1.out _ _ (RK.drew (RK.below (lit1Fi' _ ⟨e, q, t⟩ _ (by simp)) (bnew0 _ _)))) ?_; rintro q5 w5 ⟨rfl, g5⟩)
        | (go_simp; go_at_call 13; with_reducible refine Calls.mono (K2.out _ _ (lit1Fi' _ ⟨e, q, s⟩ _ rfl)) ?_; rintro q6 w6 ⟨rfl, g6⟩)
        | (go_simp; go_at_call 13; with_reducible refine Calls.mono (K2.out _ _ (RK.below (RK.drew (lit1Fi' _ ⟨e, q, s⟩ _ (by simp))) g5)) ?_; rintro q6 w6 ⟨rfl, g6⟩)
        | (go_simp; go_at_call 13; with_reducible refine Calls.mono (K2.out _ _ (RK.below (RK.drew (RK.below (lit1Fi' _ ⟨e, q, s⟩ _ (by simp)) (bnew0 _ _))) g5)) ?_; rintro q6 w6 ⟨rfl, g6⟩))
    all_goals
      go_wp2
      go_meet
      refine ⟨rfl, rfl, ?_⟩
      first
        | with_reducible exact bstep (bnew (bstep ((bnew0 _ _).drew) g5) _) g6
        | with_reducible exact bstep (bstep ((bnew (bnew0 _ _) _).drew) g5) g6
  case rest =>
  obtain ⟨rfl, rfl, bw⟩ := hcut
  have a0 := bx_below HFR.out.1 bw
  have b0 := bx_below HFR.out.2.1 bw
  have x0 := bx_below HFR.out.2.2.1 bw
  have f0 := bx_below HFR.out.2.2.2 bw
  have gg0 := bstep gg bw
  clear a1 a2 bF HFR gg bw
  rcases HCS.out with ⟨rfl, rfl, rfl⟩ | ⟨rfl, rfl, rfl⟩ | ⟨rfl, rfl, rfl⟩
  all_goals
    go_wp2_with (first
      | (with_reducible refine wpList_loadR rowFi rfl _ rfl _ rfl x0 rfl ?_)
      | (with_reducible refine wpList_loadW rowFi (by simp [Region.wanted, yielded, Act.put]) _ rfl _ rfl x0 rfl ?_)
      | (with_reducible refine wpList_loadR rowFi rfl _ rfl _ rfl a0 rfl ?_)
      | (with_reducible refine wpList_loadW rowFi (by simp [Region.wanted, yielded, Act.put]) _ rfl _ rfl a0 rfl ?_)
      | (with_reducible refine wpList_loadR rowFi rfl _ rfl _ rfl b0 rfl ?_)
      | (with_reducible refine wpList_loadW rowFi (by simp [Region.wanted, yielded, Act.put]) _ rfl _ rfl b0 rfl ?_)
      | (with_reducible refine wpList_loadR rowF rfl _ rfl _ rfl (bx_alloc _ f0) rfl ?_)
      | (with_reducible refine wpList_loadW rowF (by simp [Region.wanted, yielded, Act.put]) _ rfl _ rfl (bx_alloc _ f0) rfl ?_)
      | (with_reducible refine wpList_loadR rowFi rfl _ rfl _ rfl x1 rfl ?_)
      | (with_reducible refine wpList_loadW rowFi (by simp [Region.wanted, yielded, Act.put]) _ rfl _ rfl x1 rfl ?_)
      | (with_reducible refine wpList_loadR rowFi rfl _ rfl _ rfl a1 rfl ?_)
      | (with_reducible refine wpList_loadW rowFi (by simp [Region.wanted, yielded, Act.put]) _ rfl _ rfl a1 rfl ?_)
      | (with_reducible refine wpList_loadR rowFi rfl _ rfl _ rfl b1 rfl ?_)
      | (with_reducible refine wpList_loadW rowFi (by simp [Region.wanted, yielded, Act.put]) _ rfl _ rfl b1 rfl ?_)
      | (with_reducible refine wpList_loadR rowF rfl _ rfl _ rfl (bx_alloc _ f1) rfl ?_)
      | (with_reducible refine wpList_loadW rowF (by simp [Region.wanted, yielded, Act.put]) _ rfl _ rfl (bx_alloc _ f1) rfl ?_)
      | (with_reducible refine wpList_loadR rowFi rfl _ rfl _ rfl x2 rfl ?_)
      | (with_reducible refine wpList_loadW rowFi (by simp [Region.wanted, yielded, Act.put]) _ rfl _ rfl x2 rfl ?_)
      | (with_reducible refine wpList_loadR rowFi rfl _ rfl _ rfl a2 rfl ?_)
      | (with_reducible refine wpList_loadW rowFi (by simp [Region.wanted, yielded, Act.put]) _ rfl _ rfl a2 rfl ?_)
      | (with_reducible refine wpList_loadR rowFi rfl _ rfl _ rfl b2 rfl ?_)
      | (with_reducible refine wpList_loadW rowFi (by simp [Region.wanted, yielded, Act.put]) _ rfl _ rfl b2 rfl ?_)
      | (with_reducible refine wpList_loadR rowFi rfl _ rfl _ rfl x3 rfl ?_)
      | (with_reducible refine wpList_loadW rowFi (by simp [Region.wanted, yielded, Act.put]) _ rfl _ rfl x3 rfl ?_)
      | (with_reducible refine wpList_loadR rowFi rfl _ rfl _ rfl a3 rfl ?_)
      | (with_reducible refine wpList_loadW rowFi (by simp [Region.wanted, yielded, Act.put]) _ rfl _ rfl a3 rfl ?_)
      | (with_reducible refine wpList_loadR rowFi rfl _ rfl _ rfl b3 rfl ?_)
      | (with_reducible refine wpList_loadW rowFi (by simp [Region.wanted, yielded, Act.put]) _ rfl _ rfl b3 rfl ?_)
      | (with_reducible refine wpList_loadR rowFi rfl _ rfl _ rfl x4 rfl ?_)
      | (with_reducible refine wpList_loadW rowFi (by simp [Region.wanted, yielded, Act.put]) _ rfl _ rfl x4 rfl ?_)
      | (with_reducible refine wpList_loadR rowFi rfl _ rfl _ rfl a4 rfl ?_)
      | (with_reducible refine wpList_loadW rowFi (by simp [Region.wanted, yielded, Act.put]) _ rfl _ rfl a4 rfl ?_)
      | (with_reducible refine wpList_loadR rowFi rfl _ rfl _ rfl b4 rfl ?_)
      | (with_reducible refine wpList_loadW rowFi (by simp [Region.wanted, yielded, Act.put]) _ rfl _ rfl b4 rfl ?_)
      | (with_reducible refine wpList_loadR rowFi rfl _ rfl _ rfl x5 rfl ?_)
      | (with_reducible refine wpList_loadW rowFi (by simp [Region.wanted, yielded, Act.put]) _ rfl _ rfl x5 rfl ?_)
      | (with_reducible refine wpList_loadR rowFi rfl _ rfl _ rfl a5 rfl ?_)
      | (with_reducible refine wpList_loadW rowFi (by simp [Region.wanted, yielded, Act.put]) _ rfl _ rfl a5 rfl ?_)
      | (with_reducible refine wpList_loadR rowFi rfl _ rfl _ rfl b5 rfl ?_)
      | (with_reducible refine wpList_loadW rowFi (by simp [Region.wanted, yielded, Act.put]) _ rfl _ rfl b5 rfl ?_)
      | (with_reducible refine wpList_loadR rowFi rfl _ rfl _ rfl x6 rfl ?_)
      | (with_reducible refine wpList_loadW rowFi (by simp [Region.wanted, yielded, Act.put]) _ rfl _ rfl x6 rfl ?_)
      | (with_reducible refine wpList_loadR rowFi rfl _ rfl _ rfl a6 rfl ?_)
      | (with_reducible refine wpList_loadW rowFi (by simp [Region.wanted, yielded, Act.put]) _ rfl _ rfl a6 rfl ?_)
      | (with_reducible refine wpList_loadR rowFi rfl _ rfl _ rfl b6 rfl ?_)
      | (with_reducible refine wpList_loadW rowFi (by simp [Region.wanted, yielded, Act.put]) _ rfl _ rfl b6 rfl ?_)
      | (with_reducible refine wpList_loadR rowFi rfl _ rfl _ rfl x7 rfl ?_)
      | (with_reducible refine wpList_loadW rowFi (by simp [Region.wanted, yielded, Act.put]) _ rfl _ rfl x7 rfl ?_)
      | (with_reducible refine wpList_loadR rowFi rfl _ rfl _ rfl a7 rfl ?_)
      | (with_reducible refine wpList_loadW rowFi (by simp [Region.wanted, yielded, Act.put]) _ rfl _ rfl a7 rfl ?_)
      | (with_reducible refine wpList_loadR rowFi rfl _ rfl _ rfl b7 rfl ?_)
      | (with_reducible refine wpList_loadW rowFi (by simp [Region.wanted, yielded, Act.put]) _ rfl _ rfl b7 rfl ?_)
      | (go_at_call 13; (with_reducible refine (K0.out _ _ (lit1Fi wc ⟨e, m, t⟩)).mono ?_); rintro r v1 ⟨rfl, p1⟩; have q1 := bstep (bnew0 _ _) p1; have x1 := bx_below x0 q1; have a1 := bx_below a0 q1; have b1 := bx_below b0 q1; have f1 := bx_below f0 q1; have gg1 := bstep gg0 q1; clear x0 a0 b0 f0 gg0 q1 p1)
      | (go_at_call 13; (with_reducible refine (K3.out _ _ ((lit_fi2 v1 ⟨e, q, t⟩ ⟨e, q, s⟩).rk eFi)).mono ?_); rintro r v2 ⟨rfl, p2⟩; have q2 := bstep (bnew0 _ _) p2; have x2 := bx_below x1 q2; have a2 := bx_below a1 q2; have b2 := bx_below b1 q2; have f2 := bx_below f1 q2; have gg2 := bstep gg1 q2; clear x1 a1 b1 f1 gg1 q2 p2)
      | (go_at_call 17; (with_reducible refine (C1.out v2).mono ?_); rintro r v3 ⟨rfl, p3⟩; have q3 := p3; have x3 := bx_below x2 q3; have a3 := bx_below a2 q3; have b3 := bx_below b2 q3; have f3 := bx_below f2 q3; have gg3 := bstep gg2 q3; clear x2 a2 b2 f2 gg2 q3)
      | (go_at_call 17; (with_reducible refine (C2.out v3).mono ?_); rintro r v4 ⟨rfl, p4⟩; have q4 := p4; have x4 := bx_below x3 q4; have a4 := bx_below a3 q4; have b4 := bx_below b3 q4; have f4 := bx_below f3 q4; have gg4 := bstep gg3 q4; clear x3 a3 b3 f3 gg3 q4)
      | (go_at_call 17; (with_reducible refine (C3.out v4).mono ?_); rintro r v5 ⟨rfl, p5⟩; have q5 := p5; have x5 := bx_below x4 q5; have a5 := bx_below a4 q5; have b5 := bx_below b4 q5; have f5 := bx_below f4 q5; have gg5 := bstep gg4 q5; clear x4 a4 b4 f4 gg4 q5)
      | (go_at_call 17; (with_reducible refine (C4.out v5).mono ?_); rintro r v6 ⟨rfl, p6⟩; have q6 := p6; have x6 := bx_below x5 q6; have a6 := bx_below a5 q6; have b6 := bx_below b5 q6; have f6 := bx_below f5 q6; have gg6 := bstep gg5 q6; clear x5 a5 b5 f5 gg5 q6)
      | (go_at_call 17; (with_reducible refine (C5.out v6).mono ?_); rintro r v7 ⟨rfl, p7⟩; have q7 := p7; have x7 := bx_below x6 q7; have a7 := bx_below a6 q7; have b7 := bx_below b6 q7; have f7 := bx_below f6 q7; have gg7 := bstep gg6 q7; clear x6 a6 b6 f6 gg6 q7)
      | (go_at_call 8; (with_reducible refine (awake11_any v7).mono ?_); rintro r v8 ⟨rfl, p8⟩; have gg8 := bstep gg7 p8))
    go_ret
    exact ⟨rfl, gg8⟩
end Go.Proofs.Ytmaklneiedljjaa
