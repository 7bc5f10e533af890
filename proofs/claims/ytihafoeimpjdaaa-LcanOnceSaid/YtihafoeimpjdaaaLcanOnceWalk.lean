/-
  LcanOnce, walked: a frame is sent once at most, and only one that was given; Silent is as many as were sent that were missing somewhere. Written by gen_lcanonce.py.
-/
import Derived.Test.YtihafoeimpjdaaaZ3
namespace Go.Proofs.Ytihafoeimpjdaaa
open Go.RowKit Go.Sort Go.Maps
set_option linter.unusedVariables false
set_option linter.unusedSimpArgs false

/-- A map that reads as a function. -/
structure FnD (D : DataW Unit) (f : Nat → Nat) : Prop where
  im : IsMap D
  at_ : ∀ t : Nat, D.atKey (.int .i64 (t : Int)) (.lit (.int .i64 0)) = .lit (.int .i64 (f t : Int))
theorem FnD.new : FnD (.map []) (fun _ => 0) := ⟨isMap_empty, fun t => rfl⟩
theorem FnD.put {D : DataW Unit} {f g : Nat → Nat} (h : FnD D f) (i : Nat) (hg : ∀ j, g j = if j = i then f j + 1 else f j) {v : Int} (hv : v = (f i : Int) + 1) : FnD (D.put (.int .i64 (i : Int)) (.lit (.int .i64 v))) g := by
  subst hv
  refine ⟨h.im.put _ _, fun t => ?_⟩
  rw [hg t]
  by_cases e : t = i
  · subst e
    rw [if_pos rfl, atKey_put_same h.im (show WideAt.IsKeyLit (.int .i64 (t : Int)) by simp [WideAt.IsKeyLit])]
    simp
  · rw [if_neg e, atKey_put_other (fun e' => e (by have := (Lit.int.inj e').2; omega))]
    exact h.at_ t

/-- One round behind another: the bus in a box, what was given, what is gone. -/
structure OcS (w wr : World) (kS bG bO k gN c : Nat) (hs : List Hol) (sil B : Nat) (s : Lb) (DG DO : DataW Unit) (gv gn : Nat → Nat) : Prop where
  bx : BxL B wr kS gN c hs sil s
  lk : LbK s
  sl : s.sil ≤ k
  mg : MI wr bG k DG
  fg : FnD DG gv
  mo : MI wr bO k DO
  fo : FnD DO gn
  on : OnL s gv gn
  bv : ∀ j, gv j ≤ k
  bn : ∀ j, gn j ≤ k
  n1 : bG ≠ bO
  n2 : kS ≠ bG
  n3 : kS ≠ bO
  zS : w.heap.size ≤ kS
  zG : w.heap.size ≤ bG
  zO : w.heap.size ≤ bO
  bel : Below w.heap.size w wr
section
variable {w wr w1 : World} {kS bG bO k gN c sil B : Nat} {hs : List Hol} {s : Lb} {DG DO : DataW Unit} {gv gn : Nat → Nat}
theorem OcS.below (h : OcS w wr kS bG bO k gN c hs sil B s DG DO gv gn) (g : Below wr.heap.size wr w1) : OcS w w1 kS bG bO k gN c hs sil B s DG DO gv gn :=
  ⟨h.bx.below g, h.lk, h.sl, h.mg.below g, h.fg, h.mo.below g, h.fo, h.on, h.bv, h.bn, h.n1, h.n2, h.n3, h.zS, h.zG, h.zO, bstep h.bel g⟩
theorem OcS.more (h : OcS w wr kS bG bO k gN c hs sil B s DG DO gv gn) : OcS w wr kS bG bO (k + 1) gN c hs sil B s DG DO gv gn :=
  ⟨h.bx, h.lk, Nat.le_succ_of_le h.sl, World.ownsMap.mono h.mg (Nat.le_succ _), h.fg, World.ownsMap.mono h.mo (Nat.le_succ _), h.fo, h.on, fun j => Nat.le_succ_of_le (h.bv j), fun j => Nat.le_succ_of_le (h.bn j), h.n1, h.n2, h.n3, h.zS, h.zG, h.zO, h.bel⟩
/-- Behind an event: the new bus, and the maps, are there. -/
theorem OcS.next {w6 : World} {kS bG bO k gN c sil B g5 c5 s5 B5 : Nat} {hs h5 : List Hol} {s t : Lb} {DG DO DG' DO' : DataW Unit} {gv gn gv' gn' : Nat → Nat} {old : Array Value}
    (h : OcS w wr kS bG bO k gN c hs sil B s DG DO gv gn) (hk : LbK t) (hsl : t.sil ≤ s.sil + 1) (ho : BuO B5 w6 g5 c5 h5) (hl : lbOf h5 s5 = t) (hbx : w6.heap[kS]? = some (.cells old 25 (0, 0))) (hB : wr.heap.size ≤ B5)
    (mg : MI w6 bG (k + 1) DG') (fg : FnD DG' gv') (mo : MI w6 bO (k + 1) DO') (fo : FnD DO' gn') (on : OnL t gv' gn') (bv : ∀ j, gv' j ≤ k + 1) (bn : ∀ j, gn' j ≤ k + 1) (bel : Below w.heap.size w w6) :
    OcS w (w6.setRow kS (lcV g5 h5.length c5 s5)) kS bG bO (k + 1) g5 c5 h5 s5 B5 t DG' DO' gv' gn' := by
  have lS : kS < wr.heap.size := bx_lt h.bx.box
  have kk : Ch (fun b => b = kS) w6 (w6.setRow kS (lcV g5 h5.length c5 s5)) := (Ch.refl (fun b => b = kS) w6).setRow (.inl rfl) _
  exact ⟨BxL.put ho hl hbx (by omega), hk, by have := h.sl; omega, mg.ch kk (Ne.symm h.n2), fg, mo.ch kk (Ne.symm h.n3), fo, on, bv, bn, h.n1, h.n2, h.n3, h.zS, h.zG, h.zO, below_setRow bel h.zS _⟩
end

set_option maxRecDepth 100000 in
set_option maxHeartbeats 16000000 in
theorem lcanOnce_walk (w : World) (y : Nat) (a : Option Addr) (n c : Nat) (ms : List Ma) (hy : y ≤ 255) (h : MysR w a n c ms) (hn : n ≤ 9223372036854775807) :
    Calls Try.prog 3 #[.int .u8 (y : Int), .slice a n c] w fun e w' => e = .returned (.bool true) ∧ Below w.heap.size w w' := by
  obtain ⟨r, hr⟩ : ∃ r, r = y % 31 := ⟨_, rfl⟩
  have hr31 : r < 31 := by omega
  have hr1 : (y : Int) % 31 = (r : Int) := by omega
  have hln := h.row.len
  have kN := new16_lit w (2 + (r : Int)) (2 + r) (by omega) (by omega) (by omega)
  have hmm := @run_makeMap Try.prog
  have HY := hid h
  clear h hr
  go_enter Try.func3, Try.ntmps3
  go_upto_region 2 with (first
    | (go_at_call 6; with_reducible refine kN.mono ?_; rintro e w1 ⟨g1, c1, h1, s1, rfl, o1, l1, b1⟩))
  have hS := BxL.new o1 l1
  have gS := bnew0 w1 (.cells (lcV g1 h1.length c1 s1) 25)
  obtain ⟨kS, hkS⟩ : ∃ kS, kS = w1.heap.size := ⟨_, rfl⟩
  rw [← hkS] at hS
  rw [← hkS]
  have B2 := bstep b1 gS
  have zS : w.heap.size ≤ kS := by have := b1.size; omega
  generalize w1.alloc (.cells (lcV g1 h1.length c1 s1) 25) = w2 at *
  have HS := hid hS
  clear o1 l1 b1 gS hkS kN hS
  by_cases h80 : (80 : Int) < (n : Int)
  · have d1 : decide ((n : Int) > 80) = true := decide_eq_true h80
    go_wp2_with (go_at_call 7; with_reducible refine (awake16_any _).mono ?_; rintro e w3 ⟨rfl, b3⟩)
    go_ret
    exact ⟨rfl, bstep B2 b3⟩
  · have hn80 : n ≤ 80 := by omega
    have d1 : decide ((n : Int) > 80) = false := decide_eq_false h80
    clear h80
    go_upto_region 6 with (fail)
    have hT0 : OcS w ((w2.alloc (.map #[] 0)).alloc (.map #[] 0)) kS w2.heap.size (w2.heap.size + 1) 0 g1 c1 h1 s1 w.heap.size (newL (2 + r)) (.map []) (.map []) (fun _ => 0) (fun _ => 0) := by
      have gm := bnew0 w2 (.map #[] 0)
      have gm2 := bnew0 (w2.alloc (.map #[] 0)) (.map #[] 0)
      have lS := bx_lt HS.out.box
      have m1 : MI (w2.alloc (.map #[] 0)) w2.heap.size 0 (.map []) := World.ownsMap_made w2 Try.prog 3 (plainElem Try.prog 3)
      have m2 : MI ((w2.alloc (.map #[] 0)).alloc (.map #[] 0)) (w2.heap.size + 1) 0 (.map []) := by
        have := World.ownsMap_made (H := Unit) (w2.alloc (.map #[] 0)) Try.prog 3 (plainElem Try.prog 3)
        rw [heap_size_alloc] at this; exact this
      exact ⟨(HS.out.below gm).below gm2, newL_K (by omega) (by omega), Nat.le_refl _, m1.below gm2, FnD.new, m2, FnD.new, OnL.start _, fun _ => Nat.le_refl _, fun _ => Nat.le_refl _, by omega, by omega, by omega, zS, B2.size, by have := B2.size; omega, bstep (bstep B2 gm) gm2⟩
    have HT0 := hid hT0
    obtain ⟨bG, hbG⟩ : ∃ bG, bG = w2.heap.size := ⟨_, rfl⟩
    obtain ⟨bO, hbO⟩ : ∃ bO, bO = w2.heap.size + 1 := ⟨_, rfl⟩
    rw [← hbO, ← hbG] at HT0
    rw [← hbO, ← hbG]
    generalize (w2.alloc (.map #[] 0)).alloc (.map #[] 0) = w3 at *
    clear hT0 B2 HS d1 hbG hbO hmm
    go_loopg [9, 41] n (fun gm vs vi wr => ∃ (k gN cc : Nat) (hs : List Hol) (sil B S : Nat) (s : Lb) (DG DO : DataW Unit) (gv gn : Nat → Nat), k ≤ n ∧ gm = n - k ∧ vi = .int .i64 (k : Int) ∧ vs = .int .i64 (S : Int) ∧ Hid (S = s.sil) ∧ S ≤ k ∧ Hid (OcS w wr kS bG bO k gN cc hs sil B s DG DO gv gn))
    case atStart => exact ⟨0, g1, c1, h1, s1, _, 0, newL (2 + r), _, _, _, _, by omega, by omega, rfl, rfl, rfl, by omega, HT0⟩
    case round =>
      obtain ⟨k, gN, cc, hs, sil, B, S, s, DG, DO, gv, gn, hk, rfl, rfl, rfl, hSS, hSk, hS⟩ := hrel
      by_cases hlt : k < n
      · have i1 : (k : Int) < (n : Int) := by omega
        obtain ⟨m, hmk⟩ : ∃ m, ms[k]? = some m := ⟨_, List.getElem?_eq_getElem (by omega)⟩
        obtain ⟨b0, off, hla, _, hrg⟩ := (HY.out.row.below hS.out.bel).range hmk
        subst hla
        have hm' := HY.out.each m (List.mem_of_getElem? hmk)
        go_upto_region 8 with (first
          | (with_reducible refine wpList_loadM rowMay rfl _ rfl _ _ rfl (mayV m) hrg rfl ?_))
        obtain ⟨kb, hkb⟩ : ∃ kb, kb = wr.heap.size := ⟨_, rfl⟩
        rw [← hkb]
        have hba := heap_alloc_new wr (.cells (mayV m) 36)
        rw [← hkb] at hba
        have hS4 := hS.out.below (bnew0 wr (.cells (mayV m) 36))
        have lGk : bG < kb := by rw [hkb]; exact hS.out.mg.lt
        have lOk : bO < kb := by rw [hkb]; exact hS.out.mo.lt
        clear hkb hrg hS hmk
        generalize wr.alloc (.cells (mayV m) 36) = w4 at *
        have hbx := hS4.bx.box
        have c1 := (may_cells hba).2.1
        have S4 := hid hS4
        have HM' := hid hm'
        have kM := missing16_lit hS4.bx.own.read hS4.bx.lb hS4.lk m.node _ rfl _ rfl
        clear hm' hS4
        cases hst : stL s m.ev with
        | none =>
          go_upto_region 9 with (first
            | (with_reducible refine wpList_loadR rowLc rfl _ rfl kS rfl hbx rfl ?_)
            | (go_at_call 8; with_reducible refine kM.mono ?_; rintro e w5 ⟨a5, c5, rfl, o5, b5⟩))
          have S5 := hid (S4.out.below b5)
          have hba5 := bx_below hba b5
          have hbx5 := S5.out.bx.box
          have kT := (step16_bx S5.out.bx S5.out.lk (HM'.out.below S5.out.bel) (by have := S5.out.sl; omega)).mono fun e w5 h => stp_none h hst
          clear o5 b5 hba hbx c1 kM S4
          go_upto_region 10 with (first
            | (with_reducible refine wpList_loadR rowLc rfl _ rfl kS rfl hbx5 rfl ?_)
            | (with_reducible refine wpList_loadR rowMay rfl _ rfl kb rfl hba5 rfl ?_)
            | (go_at_call 9; (with_reducible refine kT.mono ?_); rintro e w6 ⟨g6, c6, h6, s6, rfl, o6, l6, b6⟩))
          have hX := BxL.new o6 l6
          have gX := bnew0 w6 (.cells (lcV g6 h6.length c6 s6) 25)
          obtain ⟨kX, hkX⟩ : ∃ kX, kX = w6.heap.size := ⟨_, rfl⟩
          rw [← hkX] at hX
          rw [← hkX]
          have S7 := hid ((S5.out.below b6).below gX)
          clear o6 l6 b6 gX hkX hbx5 hba5 kT S5
          generalize w6.alloc (.cells (lcV g6 h6.length c6 s6) 25) = w7 at *
          have hbX := hX.box
          have hbS := S7.out.bx.box
          have kE := sameLcan_ex hX.own.read S7.out.bx.own.read (hX.lb.trans S7.out.bx.lb.symm) (hX.lb.symm ▸ S7.out.lk)
          clear hX hst
          go_wp2_with (first
            | (with_reducible refine wpList_loadW rowLc (by simp [Region.wanted, yielded, Act.put]) _ rfl kX rfl hbX rfl ?_)
            | (with_reducible refine wpList_loadW rowLc (by simp [Region.wanted, yielded, Act.put]) _ rfl kS rfl hbS rfl ?_)
            | (go_at_call 10; with_reducible refine kE.mono ?_; rintro e w8 ⟨rfl, b8⟩))
          go_roundg (n - (k + 1))
          case measure => omega
          case rel => exact ⟨k + 1, gN, cc, hs, sil, B, S, s, DG, DO, gv, gn, by omega, rfl, by first | rfl | simp, rfl, hSS, by omega, hid (S7.out.below b8).more⟩
        | some t =>
          obtain ⟨hi0, X, hX0, hcase⟩ := stL_cases hst
          obtain ⟨i, hi⟩ := Int.eq_ofNat_of_zero_le hi0
          replace hi : m.node = (i : Int) := hi
          have hil : i < s.ns.length := by
            have := (List.getElem?_eq_some_iff.1 hX0).1
            rw [show m.ev.node = (i : Int) from hi] at this
            simpa using this
          obtain ⟨M, hM⟩ : ∃ M, M = misL s i := ⟨_, rfl⟩
          have hMI : misI s m.node = M := by unfold misI; rw [hi, if_pos (by omega), hM]; rfl
          rw [hMI] at kM
          have hon := OnL.step S4.out.on hst
          have hK2 := S4.out.lk.step ev_len hst
          have HON := hid hon
          have HK2 := hid hK2
          have HC := hid hcase
          have HMi := hid hM
          have HI := hid hi
          have HIL := hid hil
          have HST := hid hst
          rw [hi] at kM c1
          clear hi0 hX0 hcase hM hMI hon hK2 hil
          go_upto_region 9 with (first
            | (with_reducible refine wpList_loadR rowLc rfl _ rfl kS rfl hbx rfl ?_)
            | (go_at_call 8; with_reducible refine kM.mono ?_; rintro e w5 ⟨a5, c5, rfl, o5, b5⟩))
          have S5 := hid (S4.out.below b5)
          have hba5 := bx_below hba b5
          have hbx5 := S5.out.bx.box
          have kT := (step16_bx S5.out.bx S5.out.lk (HM'.out.below S5.out.bel) (by have := S5.out.sl; omega)).mono fun e w5 h => stp_some h hst
          have lKb := bx_lt hba
          have z45 := b5.size
          clear o5 b5 hba hbx c1 kM hi
          go_upto_region 10 with (first
            | (with_reducible refine wpList_loadR rowLc rfl _ rfl kS rfl hbx5 rfl ?_)
            | (with_reducible refine wpList_loadR rowMay rfl _ rfl kb rfl hba5 rfl ?_)
            | (go_at_call 9; (with_reducible refine kT.mono ?_); rintro e w6 ⟨g6, c6, h6, s6, rfl, o6, l6, b6⟩))
          have hX := BxL.new o6 l6
          have gX := bnew0 w6 (.cells (lcV g6 h6.length c6 s6) 25)
          obtain ⟨kX, hkX⟩ : ∃ kX, kX = w6.heap.size := ⟨_, rfl⟩
          rw [← hkX] at hX
          rw [← hkX]
          have S7 := hid ((S5.out.below b6).below gX)
          have hba7 := bx_below (bx_below hba5 b6) gX
          obtain ⟨B5, hB5⟩ : ∃ B5, B5 = w5.heap.size := ⟨_, rfl⟩
          rw [← hB5] at hX
          have lX : B5 ≤ kX := by have := b6.size; omega
          have l45 : w4.heap.size ≤ B5 := by omega
          clear o6 l6 b6 gX hkX hbx5 hba5 kT z45 hB5 hst
          generalize w6.alloc (.cells (lcV g6 h6.length c6 s6) 25) = w7 at *
          have hbX := hX.box
          have hbS := S7.out.bx.box
          obtain ⟨c0, c1, c2⟩ := may_cells hba7
          rw [HI.out] at c1
          have HX := hid hX
          clear hX
          have hwf : (Lit.int .i64 (i : Int)).wf = true := wf64 _ (by omega) (by have := HIL.out; have := S7.out.lk.n32; omega)
          have i32 : i < 32 := by have := HIL.out; have := S7.out.lk.n32; omega
          have hnt : m.ev.node.toNat = i := by rw [show m.ev.node = (i : Int) from HI.out]; rfl
          have son := HON.out.1
          have ssl := HON.out.2.2
          rw [hnt] at son ssl
          rw [← HMi.out] at ssl
          obtain ⟨gv', hgv⟩ : ∃ gv' : Nat → Nat, gv' = fun j => if m.ev.what = 1 ∧ j = i then gv j + 1 else gv j := ⟨_, rfl⟩
          obtain ⟨gn', hgn⟩ : ∃ gn' : Nat → Nat, gn' = fun j => if (m.ev.what = 5 ∨ m.ev.what = 2) ∧ j = i then gn j + 1 else gn j := ⟨_, rfl⟩
          rw [← hgv, ← hgn] at son
          have GV : ∀ j, gv' j = if m.what = 1 ∧ j = i then gv j + 1 else gv j := fun j => by rw [hgv]; rfl
          have GN : ∀ j, gn' j = if (m.what = 5 ∨ m.what = 2) ∧ j = i then gn j + 1 else gn j := fun j => by rw [hgn]; rfl
          have bv' : ∀ j, gv' j ≤ k + 1 := fun j => by rw [GV]; have := S4.out.bv j; split <;> omega
          have bn' : ∀ j, gn' j ≤ k + 1 := fun j => by rw [GN]; have := S4.out.bn j; split <;> omega
          have SON := hid son
          have SSL := hid ssl
          have HGV := hid GV
          have HGN := hid GN
          have HBV := hid bv'
          have HBN := hid bn'
          have z7 := S7.out.bel.size
          clear son ssl hgv hgn GV GN bv' bn' hnt HON
          have hML : (M.length : Int) ≤ 32 := by
            have h1 : M.length ≤ s.ns.length := by
              rw [HMi.out]; unfold misL
              split
              · simp
              · split
                · exact Nat.le_trans (List.length_filter_le _ _) (by simp)
                · simp
            have := S7.out.lk.n32; omega

          rcases (show m.what = 1 ∨ m.what = 2 ∨ m.what = 5 ∨ m.what = 4 ∨ (m.what ≠ 1 ∧ m.what ≠ 2 ∧ m.what ≠ 5 ∧ m.what ≠ 4) by omega) with hw | hw | hw | hw | hw
          · have gnE : gn' = gn := funext fun j => by rw [HGN.out, if_neg (by omega)]
            have gvE : ∀ j, gv' j = if j = i then gv j + 1 else gv j := fun j => by rw [HGV.out]; simp [hw]
            have GE := hid gvE
            have NE := hid gnE
            have hl := mi_look S7.out.mg (S7.out.fg.at_ i) hwf
            obtain ⟨G, hG⟩ : ∃ G, G = gv i := ⟨_, rfl⟩
            rw [← hG] at hl
            have hG80 : G ≤ 80 := by have := S7.out.bv i; omega
            have hwv : (Lit.int .i64 ((G : Int) + 1)).wf = true := wf64 _ (by omega) (by omega)
            have hml : k < maxLen := by unfold maxLen; omega
            have HG := hid hG
            have ssl : t.sil = S := by rw [SSL.out, if_neg (by show ¬ (m.what = 5 ∧ M ≠ []); omega), hSS.out]; rfl
            have hSL := hid ssl
            rw [hw] at c0
            clear gvE gnE hG ssl hw
            go_wp2_with (first
              | (at_mapUpdate; refine wpList_mapUpdate_own _ rfl _ _ _ 30 rfl 3 3 lawI Try.underlying30 _ bG k DG rfl S7.out.mg hml _ _ (.int .i64 (i : Int)) rfl rfl (keyOf_int_mk Try.underlying3 hwf) (.lit (.int .i64 ((G : Int) + 1))) [] (plainElem_int Try.underlying3 hwv) ?_
                 intro w8 m8 t8
                 have kc : Ch (fun q => q = bG) w7 w8 := ⟨t8.os, t8.tape, t8.output, t8.size, fun q hq hn => t8.block q hq (fun e => hn (by cases e; rfl))⟩
                 have hbX8 := kc.bx hbX (show ¬ kX = bG by omega)
                 have hbS8 := kc.bx hbS S7.out.n2
                 have o8 : BuO B5 w8 g6 c6 h6 := HX.out.own.kept fun q hq hl => kc.block q hl (show ¬ q = bG by omega)
                 have x8 := S7.out.mo.ch kc (Ne.symm S7.out.n1)
                 have bel8 : Below w.heap.size w w8 := kc.below S7.out.bel (Nat.le_refl _) (fun q hq => by have := S7.out.zG; omega)
                 have d0 := (may_cells (kc.bx hba7 (show ¬ kb = bG by omega))).1)
              | (with_reducible refine wpList_loadR rowLc rfl _ rfl kX rfl hbX8 rfl ?_)
              | (with_reducible refine wpList_storeR rowLc rfl _ _ rfl kS (lcV g6 h6.length c6 s6) rfl rfl hbS8 rfl rfl (by kernel_rfl) ?_))
            go_roundg (n - (k + 1))
            case measure => omega
            case rel => exact ⟨k + 1, g6, c6, h6, s6, B5, S, t, _, _, gv', gn', by omega, rfl, by first | rfl | simp, by first | rfl | simp, hid (hSL.out.symm), by omega, hid (OcS.next S4.out HK2.out.1 HK2.out.2 o8 HX.out.lb hbS8 l45 m8 (FnD.put S7.out.fg i GE.out (by rw [HG.out])) (World.ownsMap.mono x8 (Nat.le_succ _)) (NE.out.symm ▸ S7.out.fo) SON.out HBV.out HBN.out bel8)⟩
          · have gvE : gv' = gv := funext fun j => by rw [HGV.out, if_neg (by omega)]
            have gnE : ∀ j, gn' j = if j = i then gn j + 1 else gn j := fun j => by rw [HGN.out]; simp [hw]
            have GE := hid gnE
            have NE := hid gvE
            have hl := mi_look S7.out.mo (S7.out.fo.at_ i) hwf
            obtain ⟨G, hG⟩ : ∃ G, G = gn i := ⟨_, rfl⟩
            rw [← hG] at hl
            have hG80 : G ≤ 80 := by have := S7.out.bn i; omega
            have hwv : (Lit.int .i64 ((G : Int) + 1)).wf = true := wf64 _ (by omega) (by omega)
            have hml : k < maxLen := by unfold maxLen; omega
            have HG := hid hG
            have ssl : t.sil = S := by rw [SSL.out, if_neg (by show ¬ (m.what = 5 ∧ M ≠ []); omega), hSS.out]; rfl
            have hSL := hid ssl
            rw [hw] at c0
            have hW := hid hw
            clear gvE gnE hG ssl hw
            go_wp2_with (first
              | (at_mapUpdate; refine wpList_mapUpdate_own _ rfl _ _ _ 30 rfl 3 3 lawI Try.underlying30 _ bO k DO rfl S7.out.mo hml _ _ (.int .i64 (i : Int)) rfl rfl (keyOf_int_mk Try.underlying3 hwf) (.lit (.int .i64 ((G : Int) + 1))) [] (plainElem_int Try.underlying3 hwv) ?_
                 intro w8 m8 t8
                 have kc : Ch (fun q => q = bO) w7 w8 := ⟨t8.os, t8.tape, t8.output, t8.size, fun q hq hn => t8.block q hq (fun e => hn (by cases e; rfl))⟩
                 have hbX8 := kc.bx hbX (show ¬ kX = bO by omega)
                 have hbS8 := kc.bx hbS S7.out.n3
                 have o8 : BuO B5 w8 g6 c6 h6 := HX.out.own.kept fun q hq hl => kc.block q hl (show ¬ q = bO by omega)
                 have x8 := S7.out.mg.ch kc S7.out.n1
                 have bel8 : Below w.heap.size w w8 := kc.below S7.out.bel (Nat.le_refl _) (fun q hq => by have := S7.out.zO; omega)
                 have d0 := (may_cells (kc.bx hba7 (show ¬ kb = bO by omega))).1
                 rw [hW.out] at d0)
              | (with_reducible refine wpList_loadR rowLc rfl _ rfl kX rfl hbX8 rfl ?_)
              | (with_reducible refine wpList_storeR rowLc rfl _ _ rfl kS (lcV g6 h6.length c6 s6) rfl rfl hbS8 rfl rfl (by kernel_rfl) ?_))
            go_roundg (n - (k + 1))
            case measure => omega
            case rel => exact ⟨k + 1, g6, c6, h6, s6, B5, S, t, _, _, gv', gn', by omega, rfl, by first | rfl | simp, by first | rfl | simp, hid (hSL.out.symm), by omega, hid (OcS.next S4.out HK2.out.1 HK2.out.2 o8 HX.out.lb hbS8 l45 (World.ownsMap.mono x8 (Nat.le_succ _)) (NE.out.symm ▸ S7.out.fg) m8 (FnD.put S7.out.fo i GE.out (by rw [HG.out])) SON.out HBV.out HBN.out bel8)⟩
          · have gvE : gv' = gv := funext fun j => by rw [HGV.out, if_neg (by omega)]
            have gnE : ∀ j, gn' j = if j = i then gn j + 1 else gn j := fun j => by rw [HGN.out]; simp [hw]
            have GE := hid gnE
            have NE := hid gvE
            have hl := mi_look S7.out.mo (S7.out.fo.at_ i) hwf
            obtain ⟨G, hG⟩ : ∃ G, G = gn i := ⟨_, rfl⟩
            rw [← hG] at hl
            have hG80 : G ≤ 80 := by have := S7.out.bn i; omega
            have hwv : (Lit.int .i64 ((G : Int) + 1)).wf = true := wf64 _ (by omega) (by omega)
            have hml : k < maxLen := by unfold maxLen; omega
            have HG := hid hG
            by_cases hMn : M = []
            · have ssl : t.sil = S := by rw [SSL.out, if_neg (by show ¬ (m.what = 5 ∧ M ≠ []); exact fun e => e.2 hMn), hSS.out]; rfl
              have hM0 : ¬ (0 < M.length) := by rw [hMn]; simp
              have hM1 : decide (0 < M.length) = false := decide_eq_false hM0
              have hSL := hid ssl
              rw [hw] at c0
              have hW := hid hw
              clear gvE gnE hG ssl hw hMn
              go_wp2_with (first
                | (at_mapUpdate; refine wpList_mapUpdate_own _ rfl _ _ _ 30 rfl 3 3 lawI Try.underlying30 _ bO k DO rfl S7.out.mo hml _ _ (.int .i64 (i : Int)) rfl rfl (keyOf_int_mk Try.underlying3 hwf) (.lit (.int .i64 ((G : Int) + 1))) [] (plainElem_int Try.underlying3 hwv) ?_
                   intro w8 m8 t8
                   have kc : Ch (fun q => q = bO) w7 w8 := ⟨t8.os, t8.tape, t8.output, t8.size, fun q hq hn => t8.block q hq (fun e => hn (by cases e; rfl))⟩
                   have hbX8 := kc.bx hbX (show ¬ kX = bO by omega)
                   have hbS8 := kc.bx hbS S7.out.n3
                   have o8 : BuO B5 w8 g6 c6 h6 := HX.out.own.kept fun q hq hl => kc.block q hl (show ¬ q = bO by omega)
                   have x8 := S7.out.mg.ch kc S7.out.n1
                   have bel8 : Below w.heap.size w w8 := kc.below S7.out.bel (Nat.le_refl _) (fun q hq => by have := S7.out.zO; omega)
                   have d0 := (may_cells (kc.bx hba7 (show ¬ kb = bO by omega))).1
                   rw [hW.out] at d0)
                | (with_reducible refine wpList_loadR rowLc rfl _ rfl kX rfl hbX8 rfl ?_)
                | (with_reducible refine wpList_storeR rowLc rfl _ _ rfl kS (lcV g6 h6.length c6 s6) rfl rfl hbS8 rfl rfl (by kernel_rfl) ?_))
              go_roundg (n - (k + 1))
              case measure => omega
              case rel => exact ⟨k + 1, g6, c6, h6, s6, B5, S, t, _, _, gv', gn', by omega, rfl, by first | rfl | simp, by first | rfl | simp, hid (hSL.out.symm), by omega, hid (OcS.next S4.out HK2.out.1 HK2.out.2 o8 HX.out.lb hbS8 l45 (World.ownsMap.mono x8 (Nat.le_succ _)) (NE.out.symm ▸ S7.out.fg) m8 (FnD.put S7.out.fo i GE.out (by rw [HG.out])) SON.out HBV.out HBN.out bel8)⟩
            · have ssl : t.sil = S + 1 := by rw [SSL.out, if_pos (by show m.what = 5 ∧ M ≠ []; exact ⟨hw, hMn⟩), hSS.out]
              have hM0 : 0 < M.length := List.length_pos_iff.2 hMn
              have hM1 : decide (0 < M.length) = true := decide_eq_true hM0
              have hSL := hid ssl
              rw [hw] at c0
              have hW := hid hw
              clear gvE gnE hG ssl hw hMn
              go_wp2_with (first
                | (at_mapUpdate; refine wpList_mapUpdate_own _ rfl _ _ _ 30 rfl 3 3 lawI Try.underlying30 _ bO k DO rfl S7.out.mo hml _ _ (.int .i64 (i : Int)) rfl rfl (keyOf_int_mk Try.underlying3 hwf) (.lit (.int .i64 ((G : Int) + 1))) [] (plainElem_int Try.underlying3 hwv) ?_
                   intro w8 m8 t8
                   have kc : Ch (fun q => q = bO) w7 w8 := ⟨t8.os, t8.tape, t8.output, t8.size, fun q hq hn => t8.block q hq (fun e => hn (by cases e; rfl))⟩
                   have hbX8 := kc.bx hbX (show ¬ kX = bO by omega)
                   have hbS8 := kc.bx hbS S7.out.n3
                   have o8 : BuO B5 w8 g6 c6 h6 := HX.out.own.kept fun q hq hl => kc.block q hl (show ¬ q = bO by omega)
                   have x8 := S7.out.mg.ch kc S7.out.n1
                   have bel8 : Below w.heap.size w w8 := kc.below S7.out.bel (Nat.le_refl _) (fun q hq => by have := S7.out.zO; omega)
                   have d0 := (may_cells (kc.bx hba7 (show ¬ kb = bO by omega))).1
                   rw [hW.out] at d0)
                | (with_reducible refine wpList_loadR rowLc rfl _ rfl kX rfl hbX8 rfl ?_)
                | (with_reducible refine wpList_storeR rowLc rfl _ _ rfl kS (lcV g6 h6.length c6 s6) rfl rfl hbS8 rfl rfl (by kernel_rfl) ?_))
              go_roundg (n - (k + 1))
              case measure => omega
              case rel => exact ⟨k + 1, g6, c6, h6, s6, B5, (S + 1), t, _, _, gv', gn', by omega, rfl, by first | rfl | simp, by first | rfl | simp, hid (hSL.out.symm), by omega, hid (OcS.next S4.out HK2.out.1 HK2.out.2 o8 HX.out.lb hbS8 l45 (World.ownsMap.mono x8 (Nat.le_succ _)) (NE.out.symm ▸ S7.out.fg) m8 (FnD.put S7.out.fo i GE.out (by rw [HG.out])) SON.out HBV.out HBN.out bel8)⟩
          · have gvE : gv' = gv := funext fun j => by rw [HGV.out, if_neg (by omega)]
            have gnE : gn' = gn := funext fun j => by rw [HGN.out, if_neg (by omega)]
            have GE := hid gvE
            have NE := hid gnE
            have ssl : t.sil = S := by rw [SSL.out, if_neg (by show ¬ (m.what = 5 ∧ M ≠ []); omega), hSS.out]; rfl
            have hSL := hid ssl
            obtain ⟨q1, q2, q3⟩ := (OnL.step S4.out.on HST.out).2.1 hw
            obtain ⟨j, hj⟩ := Int.eq_ofNat_of_zero_le q2
            replace hj : m.frm = (j : Int) := hj
            have hji : ((j : Int) == (i : Int)) = false := by
              have : m.frm ≠ m.node := q1
              rw [hj, HI.out] at this
              simp; omega
            have q4 : gv j = gn j + 1 := by
              have := q3
              rw [show m.ev.frm.toNat = j by rw [show m.ev.frm = (j : Int) from hj]; rfl] at this
              exact this
            have hj9 := HM'.out.fm
            rw [hj] at c2 hj9
            have hwj : (Lit.int .i64 (j : Int)).wf = true := wf64 _ (by omega) hj9.2
            have hl1 := mi_look S7.out.mg (S7.out.fg.at_ j) hwj
            have hl2 := mi_look S7.out.mo (S7.out.fo.at_ j) hwj
            obtain ⟨O, hO⟩ : ∃ O, O = gn j := ⟨_, rfl⟩
            rw [q4, ← hO] at hl1
            rw [← hO] at hl2
            have hO80 : O ≤ 80 := by have := S7.out.bn j; omega
            obtain ⟨G, hG⟩ : ∃ G, G = O + 1 := ⟨_, rfl⟩
            rw [← hG] at hl1
            have hGO : (O : Int) + 1 = (G : Int) := by omega
            have e0 : ((G : Int) != (G : Int)) = false := by simp
            rw [hw] at c0
            clear gvE gnE ssl hw q1 q2 q3 q4 hj9 hO hG hj
            go_wp2_with (first
              | (with_reducible refine wpList_loadR rowLc rfl _ rfl kX rfl hbX rfl ?_)
              | (with_reducible refine wpList_storeR rowLc rfl _ _ rfl kS (lcV g6 h6.length c6 s6) rfl rfl hbS rfl rfl (by kernel_rfl) ?_))
            go_roundg (n - (k + 1))
            case measure => omega
            case rel => exact ⟨k + 1, g6, c6, h6, s6, B5, S, t, DG, DO, gv', gn', by omega, rfl, by first | rfl | simp, by first | rfl | simp, hid (hSL.out.symm), by omega, hid (OcS.next S4.out HK2.out.1 HK2.out.2 HX.out.own HX.out.lb hbS l45 (World.ownsMap.mono S7.out.mg (Nat.le_succ _)) (GE.out.symm ▸ S7.out.fg) (World.ownsMap.mono S7.out.mo (Nat.le_succ _)) (NE.out.symm ▸ S7.out.fo) SON.out HBV.out HBN.out S7.out.bel)⟩
          · have gvE : gv' = gv := funext fun j => by rw [HGV.out, if_neg (by omega)]
            have gnE : gn' = gn := funext fun j => by rw [HGN.out, if_neg (by omega)]
            have GE := hid gvE
            have NE := hid gnE
            have ssl : t.sil = S := by rw [SSL.out, if_neg (by show ¬ (m.what = 5 ∧ M ≠ []); omega), hSS.out]; rfl
            have hSL := hid ssl
            have e1 : ((m.what : Int) == 1) = false := by simp; omega
            have e2 : ((m.what : Int) == 2) = false := by simp; omega
            have e5 : ((m.what : Int) == 5) = false := by simp; omega
            have e4 : ((m.what : Int) == 4) = false := by simp; omega
            clear gvE gnE ssl hw
            go_wp2_with (first
              | (with_reducible refine wpList_loadR rowLc rfl _ rfl kX rfl hbX rfl ?_)
              | (with_reducible refine wpList_storeR rowLc rfl _ _ rfl kS (lcV g6 h6.length c6 s6) rfl rfl hbS rfl rfl (by kernel_rfl) ?_))
            go_roundg (n - (k + 1))
            case measure => omega
            case rel => exact ⟨k + 1, g6, c6, h6, s6, B5, S, t, DG, DO, gv', gn', by omega, rfl, by first | rfl | simp, by first | rfl | simp, hid (hSL.out.symm), by omega, hid (OcS.next S4.out HK2.out.1 HK2.out.2 HX.out.own HX.out.lb hbS l45 (World.ownsMap.mono S7.out.mg (Nat.le_succ _)) (GE.out.symm ▸ S7.out.fg) (World.ownsMap.mono S7.out.mo (Nat.le_succ _)) (NE.out.symm ▸ S7.out.fo) SON.out HBV.out HBN.out S7.out.bel)⟩
      · obtain rfl : k = n := by omega
        have hbx := hS.out.bx.box
        have hsil := hS.out.bx.sl
        have S0 := hid (⟨hS.out, hS.out.bel⟩ : OcS w wr kS bG bO k gN cc hs sil B s DG DO gv gn ∧ Below w.heap.size w wr)
        have hsil2 : sil = S := by rw [hsil, hSS.out]
        rw [hsil2] at hbx
        have q0 := (two_lc hbx).1
        obtain ⟨N, hN⟩ : ∃ N, N = hs.length := ⟨_, rfl⟩
        rw [← hN] at q0
        have hN32 : N ≤ 32 := by have := S0.out.1.lk.n32; rw [← S0.out.1.bx.len] at this; omega
        have HN := hid hN
        have HSI := hid hsil2
        clear hbx hsil hS hsil2 hN
        obtain ⟨w20, rfl⟩ : ∃ w20, w20 = wr := ⟨_, rfl⟩
        go_wp2
        go_loopg [116] N (fun gm vi wr => ∃ q : Nat, q ≤ N ∧ gm = N - q ∧ vi = .int .i64 (q : Int) ∧ Below w20.heap.size w20 wr)
        case atStart => exact ⟨0, by omega, by omega, rfl, Below.refl _ _⟩
        case round =>
          obtain ⟨q, hq, rfl, rfl, hbq⟩ := hrel
          by_cases hlq : q < N
          · have i2 : (q : Int) < (N : Int) := by omega
            have T0 := S0.out.1.below hbq
            obtain ⟨p, hp⟩ : ∃ p, hs[q]? = some p := ⟨_, List.getElem?_eq_getElem (by have := HN.out; omega)⟩
            have hrg := T0.bx.own.row.range enHol_k hp
            have hpl : s.ns[q]? = some p.x := by rw [← T0.bx.lb]; exact lb_at hp
            have hho := T0.on.has q p.x hpl
            have hwf : (Lit.int .i64 (q : Int)).wf = true := wf64 _ (by omega) (by omega)
            have T1 := T0.below (bnew0 wr (.cells (holV p) 43))
            have hl1 := mi_look T1.mg (T1.fg.at_ q) hwf
            have hl2 := mi_look T1.mo (T1.fo.at_ q) hwf
            have hn80 := T0.bn q
            obtain ⟨O, hO⟩ : ∃ O, O = gn q := ⟨_, rfl⟩
            rw [← hO] at hl2 hho hn80
            rw [hho] at hl1
            obtain ⟨⟨has, fr, took, cr, off⟩, da, dc, ta, tc⟩ := p
            have B9 := hid (hbq.trans (bnew0 wr (.cells (holV ⟨⟨has, fr, took, cr, off⟩, da, dc, ta, tc⟩) 43) |>.mono hbq.size))
            clear T0 T1 hho hp hpl hO hbq
            cases has
            · rw [if_neg (by simp)] at hl1
              rw [Nat.add_zero] at hl1
              have e1 : ((O : Int) == (O : Int) + 1) = false := by simp; omega
              have e2 : decide ((O : Int) < (O : Int)) = false := decide_eq_false (by omega)
              go_wp2_with (first
                | (with_reducible refine wpList_loadM rowHol rfl _ rfl _ _ rfl (holV ⟨⟨false, fr, took, cr, off⟩, da, dc, ta, tc⟩) hrg rfl ?_))
              go_roundg (N - (q + 1))
              case measure => omega
              case rel => exact ⟨q + 1, by omega, rfl, by first | rfl | simp, B9.out⟩
            · rw [if_pos rfl] at hl1
              obtain ⟨G, hG⟩ : ∃ G, G = O + 1 := ⟨_, rfl⟩
              rw [← hG] at hl1
              have hGO : (O : Int) + 1 = (G : Int) := by omega
              have e1 : ((G : Int) == (G : Int)) = true := by simp
              have e2 : decide ((G : Int) < (O : Int)) = false := decide_eq_false (by omega)
              have hGO2 := hid hG
              clear hG
              go_wp2_with (first
                | (with_reducible refine wpList_loadM rowHol rfl _ rfl _ _ rfl (holV ⟨⟨true, fr, took, cr, off⟩, da, dc, ta, tc⟩) hrg rfl ?_))
              go_roundg (N - (q + 1))
              case measure => omega
              case rel => exact ⟨q + 1, by omega, rfl, by first | rfl | simp, B9.out⟩
          · obtain rfl : q = N := by omega
            have hb3 := (S0.out.1.below hbq).bx.box
            rw [HSI.out] at hb3
            have q1 := (two_lc hb3).2
            have e1 : ((S : Int) == (S : Int)) = true := by simp
            have B10 := bstep S0.out.2 hbq
            clear hb3
            go_wp2_with (go_at_call 7; with_reducible refine (awake16_any _).mono ?_; rintro e w3 ⟨rfl, b3⟩)
            go_ret
            exact ⟨rfl, bstep B10 b3⟩
end Go.Proofs.Ytihafoeimpjdaaa
