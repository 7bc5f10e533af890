/-
  The walk of the statement CtlUnheard: for any frame and any number of tries it returns true, and nothing that was there has changed.
-/
import Derived.Test.YtaagfaidjihjcaaM8k
namespace Go.Proofs.Ytaagfaidjihjcaa
open Go.RowKit Go.Sort
set_option linter.unusedVariables false

theorem ol_setRow8 {α : Type} {f : α → Value} {E : TypeId} {B : Nat} {w : World} {a : Option Addr} {n k : Nat} {l : List α} (h : OL f E B w a n k l) {p : Nat} (hp : p < B) (cs : Array Value) : OL f E B (w.setRow p cs) a n k l :=
  h.kept fun q hq => setRow_other _ _ _ _ (by have := (h.ltB hq).2; dsimp only at this; omega)

set_option maxRecDepth 100000 in
set_option maxHeartbeats 4000000 in
theorem ctlUnheard_wrong (w : World) (id : Nat) (ext rem : Bool) (dlc : Nat) (a : Option Addr) (n c : Nat) (y : Nat) (hi : id < 4294967296) (hd : dlc < 256) (hr : riF id ext rem dlc n = false) :
    Calls Try.prog 5 #[.agg #[.int .u32 (id : Int), .bool ext, .bool rem, .int .u8 (dlc : Int), .slice a n c], .int .u8 (y : Int)] w fun e w' => e = .returned (.bool true) ∧ Below w.heap.size w w' := by
  obtain ⟨w0, hw0, hbx, _, _, _, _, _, gg0⟩ := boxed w 25 (.int .u32 (id : Int)) (.bool ext) (.bool rem) (.int .u8 (dlc : Int)) (.slice a n c)
  have hW := fun w1 => wire_wrong w1 id ext rem dlc a n c hi hd hr
  have hG := fun w1 => give_wrong id ext rem dlc n a c w1 hi hd hr
  go_enter Try.func5, Try.ntmps5
  go_wp2_with (first
    | (go_at_call 11; rw [hw0.out]; (with_reducible refine (hG _).mono ?_); rintro e w2 ⟨rfl, g2⟩; have hz2 := heap_alloc_new w2 (.cells ctZ 37); have g3 := below_new (bstep gg0 g2) (bstep gg0 g2).size c0 sl0; have lf := bx_lt hbx; have ll := g2.size; obtain ⟨k0, k1, k2, k3, k4⟩ := bx5 ((setRow_other (w2.alloc (.cells ctZ 37)) w2.heap.size w.heap.size ctZ (by omega)).trans (bx_alloc _ (bx_below hbx g2))))
    | (with_reducible refine wpList_storeR rowC rfl _ _ rfl _ _ rfl rfl hz2 rfl rfl (by kernel_rfl) ?_)
    | (go_at_call 10; (with_reducible refine (hW _).mono ?_); rintro e w1 ⟨rfl, g1⟩)
    | (go_at_call 12; refine (awake8_any _).mono ?_; rintro e w3 ⟨rfl, g4⟩))
  go_ret
  exact ⟨rfl, bstep (bstep g3 g1) g4⟩

set_option maxRecDepth 100000 in
set_option maxHeartbeats 8000000 in
theorem ctlUnheard_right (w : World) (id : Nat) (ext rem : Bool) (dlc : Nat) (a : Option Addr) (n c : Nat) (l : List UInt8) (y : Nat) (hi : id < 4294967296) (hd : dlc < 256) (h : RL bv w a n c l) (hy : y < 256) (hr : riF id ext rem dlc n = true) :
    Calls Try.prog 5 #[.agg #[.int .u32 (id : Int), .bool ext, .bool rem, .int .u8 (dlc : Int), .slice a n c], .int .u8 (y : Int)] w fun e w' => e = .returned (.bool true) ∧ Below w.heap.size w w' := by
  obtain rfl : l.length = n := h.len
  obtain ⟨w0, hw0, hbx, _, _, _, _, _, gg0⟩ := boxed w 25 (.int .u32 (id : Int)) (.bool ext) (.bool rem) (.int .u8 (dlc : Int)) (.slice a l.length c)
  have h0 := h.below gg0
  have hg : Good ⟨id, ext, rem, dlc, l⟩ := (good_iff ⟨id, ext, rem, dlc, l⟩ _ rfl).1 hr
  have hW := fun (w1 : World) (h1 : RL bv w1 a l.length c l) => wire_any w1 id ext rem dlc a l.length c l hi hd h1 hr
  obtain ⟨F, hF⟩ : ∃ F : Fr, F = ⟨id, ext, rem, dlc, l⟩ := ⟨_, rfl⟩
  rw [← hF] at hg
  simp only [← hF] at hW
  have hG := fun (w1 : World) (h1 : RL bv w1 a l.length c l) => give_fr F id ext rem dlc l hF hg a c w1 h1
  have hP1 := P_pos F
  have hP2 := P_top hg
  have hwl := wiL_length F
  have tOk := fun (k i : Nat) (c : Ct) => ui_ok hg (k := k) (i := i) (c := c)
  have tDrv := fun (k i : Nat) (c : Ct) => ui_drive hg (k := k) (i := i) (c := c)
  have tStep := fun (k i : Nat) (c : Ct) => ui_step hg (k := k) (i := i) (c := c)
  have tEnd := fun (k : Nat) (c : Ct) => ui_end hg (k := k) (c := c)
  obtain ⟨P, hP⟩ : ∃ P, P = (putL (boL F)).length := ⟨_, rfl⟩
  simp only [← hP] at hW hP1 hP2 hwl tOk tDrv tStep tEnd
  obtain ⟨W, hWe⟩ : ∃ W, W = wiL F := ⟨_, rfl⟩
  simp only [← hWe] at hW hwl tDrv
  obtain ⟨N, hN⟩ : ∃ N, N = P + 10 := ⟨_, rfl⟩
  simp only [← hN] at hW hwl
  obtain ⟨q, hq⟩ : ∃ q, q = P + 2 := ⟨_, rfl⟩
  have hN160 : N ≤ 160 := by omega
  have i8 : (N : Int) - 8 = (q : Int) := by omega
  have i30 : ¬ (q : Int) < 30 := by omega
  obtain ⟨m, hm⟩ : ∃ m, m = y % 21 := ⟨_, rfl⟩
  have hki : (y : Int) % 21 = (m : Int) := by omega
  obtain ⟨M, hM⟩ : ∃ M, M = 20 + m := ⟨_, rfl⟩
  have i20 : 20 + (m : Int) = (M : Int) := by omega
  have hMb : 20 ≤ M ∧ M ≤ 40 := by omega
  have HK := hid (show N = P + 10 ∧ q = P + 2 from ⟨hN, hq⟩)
  have hqb : q ≤ 160 := by omega
  have HT := hid (And.intro tOk (And.intro tDrv (And.intro tStep tEnd)))
  have HLn := hid hwl
  have HS := hid (show ∃ e b, giC F = idF F (tkU 0) e b from ⟨false, false, rfl⟩)
  clear tOk tDrv tStep tEnd hwl hP hWe hN hF hr hP1 hP2 hg hm hM hq
  go_enter Try.func5, Try.ntmps5
  go_upto_region 6 with (first
    | (go_at_call 11; rw [hw0.out]; (with_reducible refine (hG _ h0).mono ?_); rintro e w2 ⟨s2, rfl, o2, g2⟩; have hz2 := heap_alloc_new w2 (.cells ctZ 37); have g3 := below_new (bstep gg0 g2) (bstep gg0 g2).size (giC F) s2; have lf := bx_lt hbx; have ll := g2.size; obtain ⟨k0, k1, k2, k3, k4⟩ := bx5 ((setRow_other (w2.alloc (.cells ctZ 37)) w2.heap.size w.heap.size (ctA (giC F) s2) (by omega)).trans (bx_alloc _ (bx_below hbx g2))); have C3 := cb_new o2; have h3 := h.below g3)
    | (with_reducible refine wpList_storeR rowC rfl _ _ rfl _ _ rfl rfl hz2 rfl rfl (ct_ones _ _) ?_)
    | (go_at_call 10; (with_reducible refine (hW _ h3).mono ?_); rintro e w4 ⟨a1, c1, rfl, ho4, g4⟩))
  have C4 := C3.below g4
  have g5 := bstep g3 g4
  have lpa : w.heap.size ≤ w2.heap.size := by have := gg0.size; omega
  have l3 := C3.lt
  have oW := ho4.mono (show w2.heap.size + 1 ≤ _ from l3)
  clear k0 k1 k2 k3 k4 hz2 hW hw0 hbx h0 gg0 g2 o2 hG h g3 C3 h3 ho4 g4 lf ll
  generalize w2.heap.size = pa at *
  go_wp2
  clear hki i8 i20 i30
  go_loopg [9, 46] M (fun gn s9 idx wr => ∃ (k : Nat) (cc : Ct) (s : Sl), k ≤ M ∧ gn = M - k ∧ idx = .int .i64 (k : Int) ∧ s9 = .int .i64 (k : Int) ∧ Cb wr pa cc s ∧ Below w.heap.size w wr ∧ OL .bool 4 (pa + 1) wr a1 N c1 W ∧ Hid (∃ e b, cc = idF F (tkU k) e b))
  case atStart => exact ⟨0, giC F, s2, by omega, by omega, rfl, rfl, C4, g5, oW, HS⟩
  case round =>
    clear C4 g5 oW HS
    obtain ⟨k, cc, s, hkM, rfl, rfl, rfl, hC, hbel, oW, HS⟩ := hrel
    by_cases hltk : k < M
    · obtain ⟨R, hR⟩ : ∃ R, R = reU k := ⟨_, rfl⟩
      have HR := hid hR
      have HU : Hid (UI F P k 0 cc) := .inl ⟨rfl, HS.out⟩
      have hRb : 17 ≤ R ∧ R ≤ 25 := by rw [hR]; unfold reU; split <;> omega
      clear hR HS
      go_upto_if 50 with fail
      go_cut [13] (fun s13 wx => s13 = .int .i64 (R : Int) ∧ wx = wr)
      case first =>
        clear hC hbel oW HU hRb
        by_cases e15 : 15 ≤ k
        · have i1 : decide ((15 : Int) ≤ (k : Int)) = true := by simp; omega
          have i2 : (15 : Int) ≤ (k : Int) := by omega
          have HF : Hid ((25 : Int) = (R : Int)) := by show _ = _; rw [HR.out]; unfold reU; rw [if_pos e15]; rfl
          clear HR e15
          go_wp2_with fail
          go_meet
          exact ⟨congrArg (Value.int .i64) HF.out, rfl⟩
        · have i1 : decide ((15 : Int) ≤ (k : Int)) = false := by simp; omega
          have i2 : ¬ (15 : Int) ≤ (k : Int) := by omega
          have HF : Hid ((17 : Int) = (R : Int)) := by show _ = _; rw [HR.out]; unfold reU; rw [if_neg e15]; rfl
          clear HR e15
          go_wp2_with fail
          go_meet
          exact ⟨congrArg (Value.int .i64) HF.out, rfl⟩
      case rest =>
      obtain ⟨rfl, rfl⟩ := hcut
      obtain ⟨D, hDD⟩ : ∃ D, D = q + R := ⟨_, rfl⟩
      have iD : (q : Int) + (R : Int) = (D : Int) := by omega
      have hDb : D ≤ 200 := by omega
      have HDD := hid hDD
      clear hDD
      go_wp2
      clear iD
      obtain ⟨w20, rfl⟩ : ∃ w20, w20 = wc := ⟨_, rfl⟩
      go_loopg [9, 56] D (fun gn s9 idx wr2 => ∃ (i : Nat) (cc : Ct) (s : Sl) (T : Int), i ≤ D ∧ gn = D - i ∧ idx = .int .i64 (i : Int) ∧ s9 = .int .i64 T ∧ Cb wr2 pa cc s ∧ Below w.heap.size w wr2 ∧ OL .bool 4 (pa + 1) wr2 a1 N c1 W ∧ Hid (UI F P k i cc) ∧ Hid (T = if q ≤ i then (k : Int) + 1 else (k : Int)))
      case atStart => exact ⟨0, cc, s, (k : Int), by omega, by omega, rfl, rfl, hC, hbel, oW, HU, hid (by rw [if_neg (by have := HK.out; omega)])⟩
      case round =>
        clear hC hbel oW HU
        obtain ⟨i, cc, s, T, hik, rfl, rfl, rfl, hC, hbel, oW, HU, HTd⟩ := hrel
        have hTb : 0 ≤ T ∧ T ≤ 100 := by rw [HTd.out]; split <;> omega
        by_cases hlt : i < D
        · have hDq := HDD.out
          have hltI : i < q + R := by omega
          clear hDq
          have hts := HU.out
          have hi' : i < P + 2 + reU k := by have := HK.out; have := HR.out; omega
          clear hltI
          have hok := HT.out.1 k i cc hi' hts
          have hDv := HT.out.2.1 k i cc hi' hts
          have hN2 := HT.out.2.2.1 k i cc hi' hts
          have hD := fun (w2 : World) (h1 : CtR w2 cc s) => drive_any w2 cc s h1 hok.ph (fun e1 e2 => (hok.sn e1 e2).pos)
          obtain ⟨b, hb⟩ : ∃ b, b = dvC cc := ⟨_, rfl⟩
          rw [← hb] at hDv hN2 hD
          have hS := fun (w2 : World) (h1 : CtR w2 cc s) => step_any w2 cc s b h1 hok
          have HN := hid hN2
          have HDv := hid hDv
          generalize stC cc b = r at hS HN
          have hC1 := hC.box
          have hcr := hC.r
          clear hts hok hDv hN2 hb HU
          go_upto_region 20 with (first
            | (with_reducible refine wpList_loadR rowC rfl _ rfl _ rfl hC1 rfl ?_)
            | (go_at_call 13; (with_reducible refine (hD _ hcr).mono ?_); rintro e w4 ⟨rfl, g4⟩))
          have hC2 := hC.below g4
          have hb4 := bstep hbel g4
          have oW4 := oW.below g4
          clear hC hC1 hcr g4 hD hbel oW
          have hr2 := hC2.r
          have hbx2 := hC2.box
          go_cut [71] (fun s71 wx => s71 = .bool false ∧ wx = w4)
          case first =>
            clear hS HN hC2 hr2 hbx2 hb4 HTd hTb
            by_cases e1 : i < q
            · obtain ⟨bb, off, yb, hbb, hyb, hck⟩ := oW4.rl.at (k := i) (by have := HK.out; omega)
              have i1 : decide ((i : Int) < (q : Int)) = true := by simp; omega
              have HF : Hid (b = yb) := by show _ = _; rw [HDv.out, if_pos (by have := HK.out; omega), hyb]; rfl
              obtain rfl := HF.out
              subst hbb
              have hiN : i < N := by have := HK.out; omega
              clear hyb HDv oW4 HF
              have q0 : (b != b) = false := by simp
              go_wp2_with fail
              go_meet
              exact ⟨rfl, rfl⟩
            · have i1 : decide ((i : Int) < (q : Int)) = false := by simp; omega
              clear HDv oW4
              go_wp2_with fail
              go_meet
              exact ⟨rfl, rfl⟩
          case rest =>
          obtain ⟨rfl, rfl⟩ := hcut
          go_upto_region 22 with fail
          go_cut [86] (fun s86 wx => s86 = .bool false ∧ wx = wc)
          case first =>
            clear hS HN hC2 hr2 hbx2 hb4 HTd hTb oW4
            by_cases e1 : i < q
            · have i1 : decide ((q : Int) ≤ (i : Int)) = false := by simp; omega
              clear HDv
              go_wp2_with fail
              go_meet
              exact ⟨rfl, rfl⟩
            · have i1 : decide ((q : Int) ≤ (i : Int)) = true := by simp; omega
              have HF : Hid (b = !decide (k < 16 ∧ i < P + 8)) := by show _ = _; rw [HDv.out, if_neg (by have := HK.out; omega)]
              by_cases e2 : k < 16
              · have i2 : decide ((k : Int) < 16) = true := by simp; omega
                by_cases e3 : i < P + 8
                · have i3 : i < q + 6 := by have := HK.out; omega
                  obtain rfl : b = false := by rw [HF.out]; simp; omega
                  clear HDv HF
                  go_wp2_with fail
                  go_meet
                  exact ⟨by first | rfl | (congr 1; simp; omega), rfl⟩
                · have i3 : ¬ i < q + 6 := by have := HK.out; omega
                  obtain rfl : b = true := by rw [HF.out]; simp; omega
                  clear HDv HF
                  go_wp2_with fail
                  go_meet
                  exact ⟨by first | rfl | (congr 1; simp; omega), rfl⟩
              · have i2 : decide ((k : Int) < 16) = false := by simp; omega
                obtain rfl : b = true := by rw [HF.out]; simp; omega
                clear HDv HF
                go_wp2_with fail
                go_meet
                exact ⟨rfl, rfl⟩
          case rest =>
          obtain ⟨rfl, rfl⟩ := hcut
          clear HDv
          go_upto_region 26 with (first
            | (with_reducible refine wpList_loadR rowC rfl _ rfl _ rfl hbx2 rfl ?_)
            | (go_at_call 15; (with_reducible refine (hS _ hr2).mono ?_); rintro e w5 ⟨s5, a5, n5, rfl, o5, y5, g5⟩
               have T8 := two8 w5 r s5 a5 n5
               obtain ⟨tz, tz1, th1, tc2, th2, tb⟩ := T8
               have hb5 := (hC2.below g5).box
               have hb7 := bx_below hb5 tb)
            | (with_reducible refine wpList_storeR rowC rfl _ _ rfl _ _ rfl rfl tz1 rfl rfl (ct_ones _ _) ?_)
            | (with_reducible refine wpList_storeR rowH rfl _ _ rfl _ _ rfl rfl th1 rfl rfl (hap_ones _ _ _) ?_)
            | (with_reducible refine wpList_loadR rowC rfl _ rfl _ rfl tc2 rfl ?_)
            | (with_reducible refine wpList_storeR rowC rfl _ _ rfl _ _ rfl rfl hb7 rfl rfl (ct_ones _ _) ?_))
          have o7 := o5.below tb
          have z4 := hC2.lt
          have z5 := g5.size
          have g7 := bstep (bstep hb4 g5) tb
          have oW7 := ol_setRow8 ((oW4.below g5).below tb) (p := pa) (Nat.lt_succ_self _) (ctA r.1 s5)
          have C8 : Cb (((((w5.alloc (.cells ctZ 37)).alloc (.cells hap0 44)).setRow w5.heap.size (ctA r.1 s5)).setRow (w5.heap.size + 1) (hapA r.2 a5 n5)).setRow pa (ctA r.1 s5)) pa r.1 s5 := Cb.put hb7 o7 (o7.nbs z4)
          have g8 : Below w.heap.size w (((((w5.alloc (.cells ctZ 37)).alloc (.cells hap0 44)).setRow w5.heap.size (ctA r.1 s5)).setRow (w5.heap.size + 1) (hapA r.2 a5 n5)).setRow pa (ctA r.1 s5)) := below_setRow g7 lpa _
          have qh : (((((w5.alloc (.cells ctZ 37)).alloc (.cells hap0 44)).setRow w5.heap.size (ctA r.1 s5)).setRow (w5.heap.size + 1) (hapA r.2 a5 n5)).setRow pa (ctA r.1 s5)).cell? ⟨w5.heap.size + 1, 0, none⟩ = some (.int .u8 (r.2.1 : Int)) := (cell_setRow_other _ _ _ _ (by show w5.heap.size + 1 ≠ pa; omega)).trans (cell_of_row _ _ 0 _ _ _ th2)
          clear tz tz1 th1 tc2 hb5 o5 y5 g5 tb hC2 hr2 hbx2 hb4 hS hb7 th2 o7 g7 oW4
          change Code.wp _ _ _ _ (((((w5.alloc (.cells ctZ 37)).alloc (.cells hap0 44)).setRow w5.heap.size (ctA r.1 s5)).setRow (w5.heap.size + 1) (hapA r.2 a5 n5)).setRow pa (ctA r.1 s5))
          generalize ((((w5.alloc (.cells ctZ 37)).alloc (.cells hap0 44)).setRow w5.heap.size (ctA r.1 s5)).setRow (w5.heap.size + 1) (hapA r.2 a5 n5)).setRow pa (ctA r.1 s5) = W8 at *
          have HSn := hid HN.out.1
          have HWh := hid HN.out.2
          clear HN
          by_cases he : i = P + 1
          · have q1 : ((i : Int) == (q : Int) - 1) = true := by have := HK.out; simp; omega
            have qh2 : W8.cell? ⟨w5.heap.size + 1, 0, none⟩ = some (.int .u8 7) := by rw [qh, show r.2.1 = 7 from by rw [HWh.out, if_pos he]]; rfl
            have HTn : Hid (T + 1 = if q ≤ i + 1 then (k : Int) + 1 else (k : Int)) := by show _ = _; have := HK.out; rw [HTd.out, if_neg (by omega), if_pos (by omega)]
            clear qh HWh he HTd
            go_wp2
            go_roundg (D - (i + 1))
            case measure => go_light; omega
            case rel => go_light; exact ⟨i + 1, r.1, s5, T + 1, by omega, rfl, by go_num, rfl, C8, g8, oW7, HSn, HTn⟩
          · have q1 : ((i : Int) == (q : Int) - 1) = false := by have := HK.out; simp; omega
            have qh2 : W8.cell? ⟨w5.heap.size + 1, 0, none⟩ = some (.int .u8 0) := by rw [qh, show r.2.1 = 0 from by rw [HWh.out, if_neg he]]; rfl
            have HTn : Hid (T = if q ≤ i + 1 then (k : Int) + 1 else (k : Int)) := by
              show _ = _
              have := HK.out
              rw [HTd.out]
              by_cases e : q ≤ i
              · rw [if_pos e, if_pos (by omega)]
              · rw [if_neg e, if_neg (by omega)]
            clear qh HWh he HTd
            go_wp2
            go_roundg (D - (i + 1))
            case measure => go_light; omega
            case rel => go_light; exact ⟨i + 1, r.1, s5, T, by omega, rfl, by go_num, rfl, C8, g8, oW7, HSn, HTn⟩
        · have hiD : q + R = i := by have := HDD.out; omega
          have hqi : q ≤ i := by omega
          have HE := hid (HT.out.2.2.2 k cc (by have h1 := HK.out.2; have h2 := HR.out; rw [← h2, ← h1, hiD]; exact HU.out))
          clear hiD
          obtain ⟨mm, hmm⟩ : ∃ mm, mm = min (k + 1) 16 := ⟨_, rfl⟩
          have hmin : ∀ (ts : Array TypeId) (t : TypeId) (w' : World), (Builtin.min_ ts t #[.int .i64 ((k : Int) + 1), .int .i64 16]).run Try.prog w' = .ok (.int .i64 (mm : Int)) w' := fun ts t w' => by
            rw [run_min_int2]; congr 2; split <;> omega
          have hmb : mm ≤ 16 := by omega
          have HTk : Hid (T = (k : Int) + 1) := by show _ = _; rw [HTd.out, if_pos hqi]
          clear hqi
          obtain rfl := HTk.out
          have hCb := hC.box
          have x0 : wr.cell? ⟨pa, 0, none⟩ = some (.int .u8 0) := (bxC hCb 0).trans (by obtain ⟨e, b, rfl⟩ := HE.out; rfl)
          have x7 : wr.cell? ⟨pa, 7, none⟩ = some (.bool true) := (bxC hCb 7).trans (by obtain ⟨e, b, rfl⟩ := HE.out; rfl)
          have x2 : wr.cell? ⟨pa, 2, none⟩ = some (.int .i64 (8 * (mm : Int))) := (bxC hCb 2).trans (by obtain ⟨e, b, rfl⟩ := HE.out; show some (Value.int .i64 (tkU (k + 1))) = _; rw [hmm]; rfl)
          clear hmm HU HTd HTk hTb hCb
          go_wp2
          go_roundg (M - (k + 1))
          case measure => go_light; omega
          case rel => go_light; exact ⟨k + 1, cc, s, by omega, rfl, by go_num, by go_num, hC, hbel, oW, HE⟩
    · obtain rfl : k = M := by omega
      have hMo : ∀ w, Calls Try.prog 19 #[.agg #[.int .i64 128, .int .i64 0, .bool false, .int .i64 0, .int .i64 0]] w fun e w' => e = .returned (.int .u8 1) ∧ Below w.heap.size w w' := fun w => by
        have := mode_cf w (cfT 128)
        rw [show moC (cfT 128) = 1 by decide] at this
        exact this
      have hCb := hC.box
      have h128 : tkU k = 128 := by unfold tkU; omega
      have x2 : wr.cell? ⟨pa, 2, none⟩ = some (.int .i64 128) := (bxC hCb 2).trans (by obtain ⟨e, b, rfl⟩ := HS.out; show some (Value.int .i64 (tkU k)) = _; rw [h128])
      have x3 : wr.cell? ⟨pa, 3, none⟩ = some (.int .i64 0) := (bxC hCb 3).trans (by obtain ⟨e, b, rfl⟩ := HS.out; rfl)
      have x4 : wr.cell? ⟨pa, 4, none⟩ = some (.bool false) := (bxC hCb 4).trans (by obtain ⟨e, b, rfl⟩ := HS.out; rfl)
      have x5 : wr.cell? ⟨pa, 5, none⟩ = some (.int .i64 0) := (bxC hCb 5).trans (by obtain ⟨e, b, rfl⟩ := HS.out; rfl)
      have x6 : wr.cell? ⟨pa, 6, none⟩ = some (.int .i64 0) := (bxC hCb 6).trans (by obtain ⟨e, b, rfl⟩ := HS.out; rfl)
      clear hCb hC HS HT oW h128
      go_wp2_with (first
        | (go_at_call 19; (with_reducible refine (hMo _).mono ?_); rintro e w8 ⟨rfl, g8⟩)
        | (go_at_call 12; (with_reducible refine (awake8_any _).mono ?_); rintro e w9 ⟨rfl, g9⟩))
      go_ret
      exact ⟨rfl, bstep (bstep hbel g8) g9⟩

theorem ctlUnheard_walk (w : World) (id : Nat) (ext rem : Bool) (dlc : Nat) (a : Option Addr) (n c : Nat) (l : List UInt8) (y : Nat) (hi : id < 4294967296) (hd : dlc < 256) (h : RL bv w a n c l) (hy : y < 256) (m1 : n ≤ 9223372036854775807) :
    Calls Try.prog 5 #[.agg #[.int .u32 (id : Int), .bool ext, .bool rem, .int .u8 (dlc : Int), .slice a n c], .int .u8 (y : Int)] w fun e w' => e = .returned (.bool true) ∧ Below w.heap.size w w' := by
  cases hr : riF id ext rem dlc n
  · exact ctlUnheard_wrong w id ext rem dlc a n c y hi hd hr
  · exact ctlUnheard_right w id ext rem dlc a n c l y hi hd h hy hr
end Go.Proofs.Ytaagfaidjihjcaa
