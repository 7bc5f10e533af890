/-
  The walk of the statement CtlBreaks: for any frame and any bit it returns true, and nothing that was there has changed.
-/
import Derived.Test.YtaagfaidjihjcaaB1
namespace Go.Proofs.Ytaagfaidjihjcaa
open Go.RowKit Go.Sort
set_option linter.unusedVariables false
set_option linter.unusedSectionVars false

/-- A sender that samples the bit k turned about, behind so many bits. -/
def BS (F : Fr) (P k i : Nat) (c : Ct) : Prop :=
  (i = 0 ∧ c = giC F) ∨ (1 ≤ i ∧ i ≤ k ∧ ∃ s, c = sndAt F zeC s i ∧ Rd (ackL F) P i s) ∨ (k < i ∧ ∃ C : Ct, C.cf = cfT 8 ∧ C.has = true ∧ C.give = F ∧ C.sender = true ∧ c = if i = k + 18 then phC C 0 0 true else flSt C 2 true (i - (k + 1)))

section
variable {F : Fr} (hg : Good F) {k i : Nat} {c : Ct} (h40 : 40 ≤ k) (hk : k < (putL (boL F)).length + 10)
include hg h40 hk

theorem bs_ok (hi : i < k + 18) (h : BS F (putL (boL F)).length k i c) : StepOK c := by
  have hd := good_len hg
  rcases h with ⟨_, rfl⟩ | ⟨h1, h2, s, rfl, hr⟩ | ⟨h1, C, e1, e2, e3, e4, rfl⟩
  · exact ok_gi hg
  · exact ok_snd hg (by decide) h1 (by omega) hr (rd_len hg h1 (by omega) hr)
  · rw [if_neg (by omega)]
    exact ok_fl (by rw [e1, mo_8]; omega) (fun _ => by rw [e3]; exact hg) (by rw [e3]; omega) (.inl rfl) true (by omega)

theorem bs_drive (hi : i < k + 18) (h : BS F (putL (boL F)).length k i c) {x : Bool} (hx : i ≤ k → (ackL F)[i]? = some x) :
    (i ≤ k → (if i = (putL (boL F)).length + 1 then false else dvC c) = x) ∧ (k < i → dvC c = decide (k + 6 < i)) := by
  rcases h with ⟨rfl, rfl⟩ | ⟨h1, h2, s, rfl, hr⟩ | ⟨h1, C, e1, e2, e3, e4, rfl⟩
  · refine ⟨fun _ => ?_, fun e => by omega⟩
    have := hx (by omega)
    rw [ack_first] at this
    rw [if_neg (by omega)]
    exact Option.some.inj this
  · refine ⟨fun _ => ?_, fun e => by omega⟩
    obtain ⟨d1, _, d3, _⟩ := sends_step hg h1 (by omega) hr (hx h2) zeC false zeroFr
    rw [d1, d3]
    by_cases e : i = (putL (boL F)).length + 1
    · rw [if_pos e, decide_eq_true e]; simp
    · rw [if_neg e, decide_eq_false e]; simp
  · refine ⟨fun e => by omega, fun _ => ?_⟩
    rw [if_neg (by omega)]
    by_cases e : i - (k + 1) < 16
    · rw [(fl_step C (.inl rfl) true e).2]
      rw [Bool.eq_iff_iff]; simp; omega
    · rw [show i - (k + 1) = 16 by omega, (fl_last C 2 true).2, decide_eq_true (by omega)]

theorem bs_step (hi : i < k + 18) (h : BS F (putL (boL F)).length k i c) {x b : Bool} (hx : i ≤ k → (ackL F)[i]? = some x) (hb : b = if i < k then x else if i = k then !x else decide (k + 6 < i)) :
    BS F (putL (boL F)).length k (i + 1) (stC c b).1 ∧ (stC c b).2.1 = if i = k then (if k = (putL (boL F)).length + 1 then 7 else 4) else 0 := by
  have hP := P_pos F
  rcases h with ⟨rfl, rfl⟩ | ⟨h1, h2, s, rfl, hr⟩ | ⟨h1, C, e1, e2, e3, e4, rfl⟩
  · have := hx (by omega)
    rw [ack_first] at this
    obtain rfl := Option.some.inj this
    rw [if_pos (by omega)] at hb
    subst hb
    rw [(sends_begin F).1, if_neg (by omega)]
    exact ⟨.inr (.inl ⟨by omega, by omega, _, rfl, rd_one hg⟩), rfl⟩
  · by_cases e : i < k
    · rw [if_pos e] at hb
      subst hb
      obtain ⟨_, _, _, d4, _, d6⟩ := sends_step hg h1 (by omega) hr (hx h2) zeC false zeroFr
      rw [d4, if_pos (by omega), if_neg (by omega)]
      exact ⟨.inr (.inl ⟨by omega, by omega, _, rfl, d6⟩), rfl⟩
    · obtain rfl : i = k := by omega
      rw [if_neg (by omega), if_pos rfl] at hb
      subst hb
      rw [break_turn hg h40 hk hr (hx (by omega)), if_pos rfl]
      exact ⟨.inr (.inr ⟨by omega, sndAt F (cfT 8) s i, rfl, rfl, rfl, rfl, by rw [if_neg (show ¬ i + 1 = i + 18 by omega), show i + 1 - (i + 1) = 0 by omega]; rfl⟩), rfl⟩
  · rw [if_neg (by omega), if_neg (by omega)] at hb
    subst hb
    rw [if_neg (show ¬ i = k + 18 by omega), if_neg (show ¬ i = k by omega)]
    by_cases e : i - (k + 1) < 16
    · rw [show decide (k + 6 < i) = decide (6 ≤ i - (k + 1)) by rw [Bool.eq_iff_iff]; simp; omega, (fl_step C (.inl rfl) true e).1]
      exact ⟨.inr (.inr ⟨by omega, C, e1, e2, e3, e4, by rw [if_neg (show ¬ i + 1 = k + 18 by omega), show i + 1 - (k + 1) = i - (k + 1) + 1 by omega]⟩), rfl⟩
    · rw [decide_eq_true (by omega), show i - (k + 1) = 16 by omega, (fl_last C 2 true).1]
      have hh : holdC C = false := by unfold holdC; rw [e1, mo_8]; simp
      rw [hh]
      exact ⟨.inr (.inr ⟨by omega, C, e1, e2, e3, e4, by rw [if_pos (show i + 1 = k + 18 by omega)]; rfl⟩), rfl⟩

theorem bs_end (h : BS F (putL (boL F)).length k (k + 18) c) : c.ph = 0 ∧ c.has = true ∧ c.cf = cfT 8 ∧ c.sends = false := by
  rcases h with ⟨h, _⟩ | ⟨_, h, _⟩ | ⟨h1, C, e1, e2, e3, e4, rfl⟩
  · omega
  · omega
  · rw [if_pos rfl]; exact ⟨rfl, e2, e1, rfl⟩
end

set_option maxRecDepth 100000 in
set_option maxHeartbeats 4000000 in
theorem ctlBreaks_wrong (w : World) (id : Nat) (ext rem : Bool) (dlc : Nat) (a : Option Addr) (n c : Nat) (y : Nat) (hi : id < 4294967296) (hd : dlc < 256) (hr : riF id ext rem dlc n = false) :
    Calls Try.prog 7 #[.agg #[.int .u32 (id : Int), .bool ext, .bool rem, .int .u8 (dlc : Int), .slice a n c], .int .u16 (y : Int)] w fun e w' => e = .returned (.bool true) ∧ Below w.heap.size w w' := by
  obtain ⟨w0, hw0, hbx, _, _, _, _, _, gg0⟩ := boxed w 25 (.int .u32 (id : Int)) (.bool ext) (.bool rem) (.int .u8 (dlc : Int)) (.slice a n c)
  have hW := wire_wrong w0 id ext rem dlc a n c hi hd hr
  have hG := fun w1 => give_wrong id ext rem dlc n a c w1 hi hd hr
  go_enter Try.func7, Try.ntmps7
  go_wp2_with (first
    | (go_at_call 10; rw [hw0.out]; (with_reducible refine hW.mono ?_); rintro e w1 ⟨rfl, g1⟩; obtain ⟨k0, k1, k2, k3, k4⟩ := bx5 (bx_below hbx g1))
    | (go_at_call 11; (with_reducible refine (hG _).mono ?_); rintro e w2 ⟨rfl, g2⟩; have hz2 := heap_alloc_new w2 (.cells ctZ 37))
    | (with_reducible refine wpList_storeR rowC rfl _ _ rfl _ _ rfl rfl hz2 rfl rfl (by kernel_rfl) ?_)
    | (go_at_call 12; refine (awake8_any _).mono ?_; rintro e w3 ⟨rfl, g3⟩))
  go_ret
  exact ⟨rfl, bstep (below_new (bstep (bstep gg0 g1) g2) (bstep (bstep gg0 g1) g2).size c0 sl0) g3⟩

set_option maxRecDepth 100000 in
set_option maxHeartbeats 8000000 in
theorem ctlBreaks_right (w : World) (id : Nat) (ext rem : Bool) (dlc : Nat) (a : Option Addr) (n c : Nat) (l : List UInt8) (y : Nat) (hi : id < 4294967296) (hd : dlc < 256) (h : RL bv w a n c l) (hy : y < 65536) (hr : riF id ext rem dlc n = true) :
    Calls Try.prog 7 #[.agg #[.int .u32 (id : Int), .bool ext, .bool rem, .int .u8 (dlc : Int), .slice a n c], .int .u16 (y : Int)] w fun e w' => e = .returned (.bool true) ∧ Below w.heap.size w w' := by
  obtain rfl : l.length = n := h.len
  obtain ⟨w0, hw0, hbx, _, _, _, _, _, gg0⟩ := boxed w 25 (.int .u32 (id : Int)) (.bool ext) (.bool rem) (.int .u8 (dlc : Int)) (.slice a l.length c)
  have h0 := h.below gg0
  have hg : Good ⟨id, ext, rem, dlc, l⟩ := (good_iff ⟨id, ext, rem, dlc, l⟩ _ rfl).1 hr
  have hW := wire_any w0 id ext rem dlc a l.length c l hi hd h0 hr
  obtain ⟨F, hF⟩ : ∃ F : Fr, F = ⟨id, ext, rem, dlc, l⟩ := ⟨_, rfl⟩
  rw [← hF] at hg hW
  have hG := fun (w1 : World) (h1 : RL bv w1 a l.length c l) => give_fr F id ext rem dlc l hF hg a c w1 h1
  have hP1 := P_pos F
  have hP2 := P_top hg
  have hwl := wiL_length F
  have hal : (ackL F).length = (putL (boL F)).length + 10 := by unfold ackL; rw [List.length_set, hwl]
  have tOk := fun (k i : Nat) (c : Ct) a b => bs_ok hg (k := k) (i := i) (c := c) a b
  have tDrv := fun (k i : Nat) (c : Ct) (x : Bool) a b => bs_drive hg (k := k) (i := i) (c := c) a b (x := x)
  have tStep := fun (k i : Nat) (c : Ct) (x b : Bool) a b' => bs_step hg (k := k) (i := i) (c := c) a b' (x := x) (b := b)
  have tEnd := fun (k : Nat) (c : Ct) a b => bs_end hg (k := k) (c := c) a b
  obtain ⟨P, hP⟩ : ∃ P, P = (putL (boL F)).length := ⟨_, rfl⟩
  simp only [← hP] at hW hP1 hP2 hwl hal tOk tDrv tStep tEnd
  obtain ⟨L, hL⟩ : ∃ L, L = ackL F := ⟨_, rfl⟩
  obtain ⟨W, hWe⟩ : ∃ W, W = wiL F := ⟨_, rfl⟩
  simp only [← hL, ← hWe] at hW hwl hal tDrv tStep
  obtain ⟨N, hN⟩ : ∃ N, N = P + 10 := ⟨_, rfl⟩
  rw [← hN] at hW hwl hal
  obtain ⟨M, hM⟩ : ∃ M, M = N - 40 := ⟨_, rfl⟩
  obtain ⟨j, hj⟩ : ∃ j, j = y % M := ⟨_, rfl⟩
  have hjM : j < M := by rw [hj]; exact Nat.mod_lt _ (by omega)
  have i40 : (N : Int) - 40 = (M : Int) := by omega
  have hM0 : ¬ (M : Int) = 0 := by omega
  have hki : (y : Int) % (M : Int) = (j : Int) := by rw [hj]; omega
  obtain ⟨k, hk⟩ : ∃ k, k = 40 + j := ⟨_, rfl⟩
  have i10 : 40 + (j : Int) = (k : Int) := by omega
  have hN44 : ¬ (N : Int) < 44 := by omega
  have hN160 : N ≤ 160 := by omega
  have hkN : k < N := by omega
  have h40 : 40 ≤ k := by omega
  have HK := hid (show N = P + 10 ∧ 40 ≤ k ∧ k < P + 10 from ⟨hN, h40, by omega⟩)
  have HT := hid (And.intro (tOk k) (And.intro (tDrv k) (And.intro (tStep k) (tEnd k))))
  have HLn := hid (And.intro hwl hal)
  have HS := hid (show BS F P k 0 (giC F) from .inl ⟨rfl, rfl⟩)
  clear tOk tDrv tStep tEnd hwl hal hP hL hWe hN hk hj hF hr hP1 hP2 hM hg
  go_enter Try.func7, Try.ntmps7
  go_wp2_with (first
    | (go_at_call 10; rw [hw0.out]; (with_reducible refine hW.mono ?_); rintro e w1 ⟨a1, c1, rfl, ho1, g1⟩; obtain ⟨k0, k1, k2, k3, k4⟩ := bx5 (bx_below hbx g1); have gg1 := bstep gg0 g1; have h1 := h0.below g1)
    | (go_at_call 11; (with_reducible refine (hG _ h1).mono ?_); rintro e w2 ⟨s2, rfl, o2, g2⟩; have gg2 := bstep gg1 g2; have hz2 := heap_alloc_new w2 (.cells ctZ 37))
    | (with_reducible refine wpList_storeR rowC rfl _ _ rfl _ _ rfl rfl hz2 rfl rfl (ct_ones _ _) ?_))
  have g3 : Below w.heap.size w ((w2.alloc (.cells ctZ 37)).setRow w2.heap.size (ctA (giC F) s2)) := below_new gg2 gg2.size _ _
  have C3 := cb_new o2
  have lw : w.heap.size ≤ w2.heap.size := gg2.size
  clear k0 k1 k2 k3 k4 hz2 ho1 g1 hW hw0 hbx h0 gg0 h1 gg1 g2 gg2 o2 hG h hki i10 i40 hM0 hjM
  change Code.wp _ _ _ _ ((w2.alloc (.cells ctZ 37)).setRow w2.heap.size (ctA (giC F) s2))
  generalize (w2.alloc (.cells ctZ 37)).setRow w2.heap.size (ctA (giC F) s2) = w3 at *
  go_loopg [50] (k + 18) (fun gn idx wr => ∃ (i : Nat) (cc : Ct) (s : Sl), i ≤ k + 18 ∧ gn = k + 18 - i ∧ idx = .int .i64 (i : Int) ∧ Cb wr w2.heap.size cc s ∧ Below w.heap.size w wr ∧ Hid (BS F P k i cc))
  case atStart => exact ⟨0, giC F, s2, by omega, by omega, rfl, C3, g3, HS⟩
  case round =>
    clear C3 HS g3
    obtain ⟨i, cc, s, hik, rfl, rfl, hC, hbel, HS⟩ := hrel
    by_cases hlt : i < k + 18
    · have hts := HS.out
      have hok := HT.out.1 i cc HK.out.2.1 HK.out.2.2 hlt hts
      obtain ⟨x, hx⟩ : ∃ x, i ≤ k → L[i]? = some x := by
        by_cases e : i ≤ k
        · exact ⟨L[i]'(by rw [HLn.out.2]; omega), fun _ => by simp⟩
        · exact ⟨false, fun e' => absurd e' e⟩
      have HDv := hid (HT.out.2.1 i cc x HK.out.2.1 HK.out.2.2 hlt hts hx)
      have hD := fun (w2 : World) (h1 : CtR w2 cc s) => drive_any w2 cc s h1 hok.ph (fun e1 e2 => (hok.sn e1 e2).pos)
      obtain ⟨b2, hb2⟩ : ∃ b2, b2 = if i < k then x else if i = k then !x else decide (k + 6 < i) := ⟨_, rfl⟩
      have hS := fun (w2 : World) (h1 : CtR w2 cc s) => step_any w2 cc s b2 h1 hok
      have HN := hid (HT.out.2.2.1 i cc x b2 HK.out.2.1 HK.out.2.2 hlt hts hx hb2)
      have HB2 := hid hb2
      generalize stC cc b2 = r at hS HN
      generalize dvC cc = dv at hD HDv
      have hC1 := hC.box
      have hcr := hC.r
      clear hts hx hok hb2 HS
      obtain ⟨b1, hb1⟩ : ∃ b1, b1 = if i = N - 9 ∧ i ≤ k then false else dv := ⟨_, rfl⟩
      have HB1 := hid hb1
      obtain ⟨v1, hv1⟩ : ∃ v1, v1 = decide (i = N - 9 ∧ i ≤ k) := ⟨_, rfl⟩
      have HV1 := hid hv1
      have HB3 : Hid (b2 = if i = k then !b1 else b1) := by
        show _ = _
        have hP := HK.out.1
        rw [HB2.out, HB1.out]
        by_cases e : i ≤ k
        · have hq := HDv.out.1 e
          have hq2 : (if i = N - 9 ∧ i ≤ k then false else dv) = x := by
            rw [← hq]
            by_cases e9 : i = P + 1
            · rw [if_pos ⟨by omega, e⟩, if_pos e9]
            · rw [if_neg (by omega), if_neg e9]
          rw [hq2]
          by_cases e2 : i = k
          · rw [if_neg (by omega), if_pos e2, if_pos e2]
          · rw [if_pos (by omega), if_neg e2]
        · rw [if_neg (by omega), if_neg (by omega), if_neg (by omega), if_neg (by omega), HDv.out.2 (by omega)]
      have HB4 : Hid (k < i → b2 = decide (k + 6 < i)) := fun e => by rw [HB2.out, if_neg (by omega), if_neg (by omega)]
      clear hb1 hv1 HDv HB2
      go_upto_region 13 with (first
        | (with_reducible refine wpList_loadR rowC rfl _ rfl _ rfl hC1 rfl ?_)
        | (go_at_call 13; (with_reducible refine (hD _ hcr).mono ?_); rintro e w4 ⟨rfl, g4⟩))
      have hC2 := hC.below g4
      have hb4 := bstep hbel g4
      clear hC hC1 hcr g4 hD hbel
      have hr2 := hC2.r
      have hbx2 := hC2.box
      go_cut [63] (fun s63 wx => s63 = .bool v1 ∧ wx = w4)
      case first =>
        clear hS HN hC2 hr2 hbx2 hb4 HB1 HB3 HB4
        by_cases e1 : i = N - 9
        · have i1 : ((i : Int) == (N : Int) - 9) = true := by simp; omega
          by_cases e2 : i ≤ k
          · have i2 : decide ((i : Int) ≤ (k : Int)) = true := by simp; omega
            have HF : Hid (true = v1) := by show _ = _; rw [HV1.out]; exact (decide_eq_true ⟨e1, e2⟩).symm
            clear HV1 e1
            go_wp2_with fail
            go_meet
            exact ⟨congrArg Value.bool HF.out, rfl⟩
          · have i2 : decide ((i : Int) ≤ (k : Int)) = false := by simp; omega
            have HF : Hid (false = v1) := by show _ = _; rw [HV1.out]; exact (decide_eq_false (fun h => e2 h.2)).symm
            clear HV1 e1
            go_wp2_with fail
            go_meet
            exact ⟨congrArg Value.bool HF.out, rfl⟩
        · have i1 : ((i : Int) == (N : Int) - 9) = false := by simp; omega
          have HF : Hid (false = v1) := by show _ = _; rw [HV1.out]; exact (decide_eq_false (fun h => e1 h.1)).symm
          clear HV1 e1
          go_wp2_with fail
          go_meet
          exact ⟨congrArg Value.bool HF.out, rfl⟩
      case rest =>
      obtain ⟨rfl, rfl⟩ := hcut
      have HB5 : Hid (b1 = if v1 then false else dv) := by show _ = _; rw [HB1.out, HV1.out]; by_cases e : i = N - 9 ∧ i ≤ k <;> simp [e]
      clear HB1 HV1
      go_upto_if 63 with fail
      go_cut [12] (fun s12 wx => s12 = .bool b1 ∧ wx = wc)
      case first =>
        clear hS HN hC2 hr2 hbx2 hb4 HB3 HB4
        cases v1
        · have HF : Hid (dv = b1) := by show _ = _; rw [HB5.out]; rfl
          clear HB5
          go_wp2_with fail
          go_meet
          exact ⟨congrArg Value.bool HF.out, rfl⟩
        · have HF : Hid (false = b1) := by show _ = _; rw [HB5.out]; rfl
          clear HB5
          go_wp2_with fail
          go_meet
          exact ⟨congrArg Value.bool HF.out, rfl⟩
      case rest =>
      obtain ⟨rfl, rfl⟩ := hcut
      clear HB5
      go_upto_if 66 with fail
      go_cut [12] (fun s12 wx => s12 = .bool b2 ∧ wx = wc)
      case first =>
        clear hS HN hC2 hr2 hbx2 hb4 HB4
        by_cases he : i = k
        · have qe : ((i : Int) == (k : Int)) = true := by simp; omega
          have HF : Hid ((!b1) = b2) := by show _ = _; rw [HB3.out, if_pos he]
          clear HB3 he
          go_wp2_with fail
          go_meet
          exact ⟨congrArg Value.bool HF.out, rfl⟩
        · have qe : ((i : Int) == (k : Int)) = false := by simp; omega
          have HF : Hid (b1 = b2) := by show _ = _; rw [HB3.out, if_neg he]
          clear HB3 he
          go_wp2_with fail
          go_meet
          exact ⟨congrArg Value.bool HF.out, rfl⟩
      case rest =>
      obtain ⟨rfl, rfl⟩ := hcut
      clear HB3
      go_upto_region 17 with fail
      go_cut [79] (fun s79 wx => s79 = .bool false ∧ wx = wc)
      case first =>
        clear hS HN hC2 hr2 hbx2 hb4
        by_cases he : k < i
        · have i1 : decide ((k : Int) < (i : Int)) = true := by simp; omega
          have HF := hid (HB4.out he)
          by_cases e6 : k + 6 < i
          · have i2 : decide ((k : Int) + 6 < (i : Int)) = true := by simp; omega
            obtain rfl : b2 = true := by rw [HF.out]; exact decide_eq_true e6
            clear HB4 HF
            go_wp2_with fail
            go_meet
            exact ⟨rfl, rfl⟩
          · have i2 : decide ((k : Int) + 6 < (i : Int)) = false := by simp; omega
            obtain rfl : b2 = false := by rw [HF.out]; exact decide_eq_false e6
            clear HB4 HF
            go_wp2_with fail
            go_meet
            exact ⟨rfl, rfl⟩
        · have i1 : decide ((k : Int) < (i : Int)) = false := by simp; omega
          clear HB4
          go_wp2_with fail
          go_meet
          exact ⟨rfl, rfl⟩
      case rest =>
      obtain ⟨rfl, rfl⟩ := hcut
      clear HB4
      go_upto_region 21 with (first
        | (with_reducible refine wpList_loadR rowC rfl _ rfl _ rfl hbx2 rfl ?_)
        | (go_at_call 15; (with_reducible refine (hS _ hr2).mono ?_); rintro e w5 ⟨s5, a5, n5, rfl, o5, y5, g5⟩
           have T := two8 w5 r s5 a5 n5
           obtain ⟨tz, tz1, th1, tc2, th2, tb⟩ := T
           have hb5 := (hC2.below g5).box
           have hb7 := bx_below hb5 tb)
        | (with_reducible refine wpList_storeR rowC rfl _ _ rfl _ _ rfl rfl tz1 rfl rfl (ct_ones _ _) ?_)
        | (with_reducible refine wpList_storeR rowH rfl _ _ rfl _ _ rfl rfl th1 rfl rfl (hap_ones _ _ _) ?_)
        | (with_reducible refine wpList_loadR rowC rfl _ rfl _ rfl tc2 rfl ?_)
        | (with_reducible refine wpList_storeR rowC rfl _ _ rfl _ _ rfl rfl hb7 rfl rfl (ct_ones _ _) ?_))
      have o7 := o5.below tb
      have z4 := hC2.lt
      have z5 := g5.size
      have g7 := bstep (bstep hb4 g5) tb
      have C8 : Cb (((((w5.alloc (.cells ctZ 37)).alloc (.cells hap0 44)).setRow w5.heap.size (ctA r.1 s5)).setRow (w5.heap.size + 1) (hapA r.2 a5 n5)).setRow w2.heap.size (ctA r.1 s5)) w2.heap.size r.1 s5 := Cb.put hb7 o7 (o7.nbs z4)
      have g8 : Below w.heap.size w (((((w5.alloc (.cells ctZ 37)).alloc (.cells hap0 44)).setRow w5.heap.size (ctA r.1 s5)).setRow (w5.heap.size + 1) (hapA r.2 a5 n5)).setRow w2.heap.size (ctA r.1 s5)) := below_setRow g7 lw _
      have qh : (((((w5.alloc (.cells ctZ 37)).alloc (.cells hap0 44)).setRow w5.heap.size (ctA r.1 s5)).setRow (w5.heap.size + 1) (hapA r.2 a5 n5)).setRow w2.heap.size (ctA r.1 s5)).cell? ⟨w5.heap.size + 1, 0, none⟩ = some (.int .u8 (r.2.1 : Int)) := (cell_setRow_other _ _ _ _ (by show w5.heap.size + 1 ≠ w2.heap.size; omega)).trans (cell_of_row _ _ 0 _ _ _ th2)
      clear tz tz1 th1 tc2 hb5 o5 y5 g5 tb hC2 hr2 hbx2 hb4 hS hb7 th2 o7 g7
      change Code.wp _ _ _ _ (((((w5.alloc (.cells ctZ 37)).alloc (.cells hap0 44)).setRow w5.heap.size (ctA r.1 s5)).setRow (w5.heap.size + 1) (hapA r.2 a5 n5)).setRow w2.heap.size (ctA r.1 s5))
      generalize ((((w5.alloc (.cells ctZ 37)).alloc (.cells hap0 44)).setRow w5.heap.size (ctA r.1 s5)).setRow (w5.heap.size + 1) (hapA r.2 a5 n5)).setRow w2.heap.size (ctA r.1 s5) = W8 at *
      have HSn := hid HN.out.1
      have HWh := hid HN.out.2
      clear HN
      by_cases he : i = k
      · have q1 : ((i : Int) == (k : Int)) = true := by simp; omega
        by_cases h8 : k = P + 1
        · have q2 : ((i : Int) == (N : Int) - 9) = true := by have := HK.out; simp; omega
          have qh2 : W8.cell? ⟨w5.heap.size + 1, 0, none⟩ = some (.int .u8 7) := by rw [qh, show r.2.1 = 7 from by rw [HWh.out]; rw [if_pos he, if_pos h8]]; rfl
          clear qh HWh he h8
          go_wp2
          go_roundg (k + 18 - (i + 1))
          case measure => go_light; omega
          case rel => go_light; exact ⟨i + 1, r.1, s5, by omega, rfl, by go_num, C8, g8, HSn⟩
        · have q2 : ((i : Int) == (N : Int) - 9) = false := by have := HK.out; simp; omega
          have qh2 : W8.cell? ⟨w5.heap.size + 1, 0, none⟩ = some (.int .u8 4) := by rw [qh, show r.2.1 = 4 from by rw [HWh.out]; rw [if_pos he, if_neg h8]]; rfl
          clear qh HWh he h8
          go_wp2
          go_roundg (k + 18 - (i + 1))
          case measure => go_light; omega
          case rel => go_light; exact ⟨i + 1, r.1, s5, by omega, rfl, by go_num, C8, g8, HSn⟩
      · have q1 : ((i : Int) == (k : Int)) = false := by simp; omega
        have qh2 : W8.cell? ⟨w5.heap.size + 1, 0, none⟩ = some (.int .u8 0) := by rw [qh, show r.2.1 = 0 from by rw [HWh.out]; rw [if_neg he]]; rfl
        clear qh HWh he
        go_wp2
        go_roundg (k + 18 - (i + 1))
        case measure => go_light; omega
        case rel => go_light; exact ⟨i + 1, r.1, s5, by omega, rfl, by go_num, C8, g8, HSn⟩
    · obtain rfl : i = k + 18 := by omega
      obtain ⟨e1, e2, e3, e4⟩ := HT.out.2.2.2 cc HK.out.2.1 HK.out.2.2 HS.out
      have hC1 := hC.box
      have hcr := hC.r
      have hD := fun (w2 : World) (h1 : CtR w2 cc s) => drive_any w2 cc s h1 (by omega) (fun e _ => by omega)
      have hdv : dvC cc = false := by unfold dvC; rw [if_pos e1, e2]; rfl
      rw [hdv] at hD
      clear HS HT hC hdv
      have x0 : wr.cell? ⟨w2.heap.size, 0, none⟩ = some (.int .u8 0) := (bxC hC1 0).trans (by show some (Value.int .u8 (cc.ph : Int)) = _; rw [e1]; rfl)
      have x7 : wr.cell? ⟨w2.heap.size, 7, none⟩ = some (.bool true) := (bxC hC1 7).trans (by show some (Value.bool cc.has) = _; rw [e2])
      have HC3 := hid e3
      clear e1 e2 e3 e4
      go_wp2_with (first
        | (with_reducible refine wpList_loadW rowC (by simp [Region.wanted, yielded]) _ rfl _ rfl hC1 rfl ?_)
        | (go_at_call 13; (with_reducible refine (hD _ hcr).mono ?_); rintro e w4 ⟨rfl, g4⟩
           have hC4 := bx_below hC1 g4
           have x2 : w4.cell? ⟨w2.heap.size, 2, none⟩ = some (.int .i64 8) := (bxC hC4 2).trans (by show some (Value.int .i64 cc.cf.t) = _; rw [HC3.out]; rfl)
           have x3 : w4.cell? ⟨w2.heap.size, 3, none⟩ = some (.int .i64 0) := (bxC hC4 3).trans (by show some (Value.int .i64 cc.cf.r) = _; rw [HC3.out]; rfl)
           have x4 : w4.cell? ⟨w2.heap.size, 4, none⟩ = some (.bool false) := (bxC hC4 4).trans (by show some (Value.bool cc.cf.o) = _; rw [HC3.out]; rfl)
           have x5 : w4.cell? ⟨w2.heap.size, 5, none⟩ = some (.int .i64 0) := (bxC hC4 5).trans (by show some (Value.int .i64 cc.cf.n) = _; rw [HC3.out]; rfl)
           have x6 : w4.cell? ⟨w2.heap.size, 6, none⟩ = some (.int .i64 0) := (bxC hC4 6).trans (by show some (Value.int .i64 cc.cf.m) = _; rw [HC3.out]; rfl))
        | (go_at_call 12; (with_reducible refine (awake8_any _).mono ?_); rintro e w9 ⟨rfl, g9⟩))
      go_ret
      exact ⟨rfl, bstep (bstep hbel g4) g9⟩

theorem ctlBreaks_walk (w : World) (id : Nat) (ext rem : Bool) (dlc : Nat) (a : Option Addr) (n c : Nat) (l : List UInt8) (y : Nat) (hi : id < 4294967296) (hd : dlc < 256) (h : RL bv w a n c l) (hy : y < 65536) (m1 : n ≤ 9223372036854775807) :
    Calls Try.prog 7 #[.agg #[.int .u32 (id : Int), .bool ext, .bool rem, .int .u8 (dlc : Int), .slice a n c], .int .u16 (y : Int)] w fun e w' => e = .returned (.bool true) ∧ Below w.heap.size w w' := by
  cases hr : riF id ext rem dlc n
  · exact ctlBreaks_wrong w id ext rem dlc a n c y hi hd hr
  · exact ctlBreaks_right w id ext rem dlc a n c l y hi hd h hy hr
end Go.Proofs.Ytaagfaidjihjcaa
