/-
  The walk of the statement FrameFinds: for any frame, place, burst and bits more it returns true, and nothing that was there has changed.
-/
import Derived.Test.YtcgpdldccfpjgaaB4w
import Derived.Test.YtcgpdldccfpjgaaM4d
import Derived.Deep.Light
namespace Go.Proofs.Ytcgpdldccfpjgaa
open Go.RowKit Go.Sort
set_option linter.unusedVariables false

theorem finds_zero (w : World) :
    Calls Try.prog 28 #[.agg #[.int .u32 0, .bool false, .bool false, .int .u8 0, .slice none 0 0], .agg #[.int .u32 0, .bool false, .bool false, .int .u8 0, .slice none 0 0]] w fun e w' => e = .returned (.bool true) ∧ Below w.heap.size w w' := by
  have := sameFrame_any w 0 false false 0 none 0 0 [] 0 false false 0 none 0 0 [] (RL.nil _ _ _ _) (RL.nil _ _ _ _)
  rw [decide_eq_true rfl] at this
  exact this

theorem finds_wrong (w : World) (id : Nat) (ext rem : Bool) (dlc : Nat) (a : Option Addr) (n c : Nat) (u : Nat) (a2 : Option Addr) (n2 c2 : Nat) (a3 : Option Addr) (n3 c3 : Nat) (hi : id < 4294967296) (hd : dlc < 256) (hr : riF id ext rem dlc n = false) :
    Calls Try.prog 6 #[.agg #[.int .u32 (id : Int), .bool ext, .bool rem, .int .u8 (dlc : Int), .slice a n c], .int .u16 (u : Int), .slice a2 n2 c2, .slice a3 n3 c3] w fun e w' => e = .returned (.bool true) ∧ Below w.heap.size w w' := by
  obtain ⟨w0, hw0, hbx, _, _, _, _, _, gg0⟩ := boxed w 25 (.int .u32 (id : Int)) (.bool ext) (.bool rem) (.int .u8 (dlc : Int)) (.slice a n c)
  have hB := body_wrong w0 id ext rem dlc a n c hi hd hr
  go_enter Try.func6, Try.ntmps6
  go_wp2_with (first
    | (go_at_call 19; rw [hw0.out]; (with_reducible refine hB.mono ?_); rintro e w1 ⟨rfl, g1⟩)
    | (go_at_call 10; refine (awake4_any w1).mono ?_; rintro e w3 ⟨rfl, g3⟩))
  go_ret
  exact ⟨rfl, bstep (bstep gg0 g1) g3⟩

set_option maxRecDepth 100000 in
set_option maxHeartbeats 4000000 in
theorem finds_right (w : World) (id : Nat) (ext rem : Bool) (dlc : Nat) (a : Option Addr) (n c : Nat) (l : List UInt8) (u : Nat) (a2 : Option Addr) (n2 c2 : Nat) (lb : List Bool) (a3 : Option Addr) (n3 c3 : Nat) (lm : List Bool)
    (hi : id < 4294967296) (hd : dlc < 256) (h : RL bv w a n c l) (hu : u < 65536) (h2 : RL .bool w a2 n2 c2 lb) (h3 : RL .bool w a3 n3 c3 lm) (m2 : n2 ≤ 9223372036854775807) (m3 : n3 ≤ 140737488351232) (hr : riF id ext rem dlc n = true) :
    Calls Try.prog 6 #[.agg #[.int .u32 (id : Int), .bool ext, .bool rem, .int .u8 (dlc : Int), .slice a n c], .int .u16 (u : Int), .slice a2 n2 c2, .slice a3 n3 c3] w fun e w' => e = .returned (.bool true) ∧ Below w.heap.size w w' := by
  obtain ⟨w0, hw0, hbx, _, _, _, _, _, gg0⟩ := boxed w 25 (.int .u32 (id : Int)) (.bool ext) (.bool rem) (.int .u8 (dlc : Int)) (.slice a n c)
  have h0 := h.below gg0
  have h20 := h2.below gg0
  have h30 := h3.below gg0
  obtain ⟨hn1, hn8, _, _⟩ := riF_long hr
  have hB := body_any w0 id ext rem dlc a n c l hi hd h0 hr
  have hg : Good ⟨id, ext, rem, dlc, l⟩ := (good_iff ⟨id, ext, rem, dlc, l⟩ n h.len).1 hr
  obtain ⟨N, hN⟩ : ∃ N, N = heN ext + 8 * n + 15 := ⟨_, rfl⟩
  rw [← hN] at hB
  have hN2 : 34 ≤ N ∧ N ≤ 118 := by rw [hN]; unfold heN; split <;> omega
  obtain ⟨B, hBs⟩ : ∃ B, B = boL ⟨id, ext, rem, dlc, l⟩ := ⟨_, rfl⟩
  have hBl : B.length = N := by rw [hBs, boL_length, h.len, hN]
  have hall := bo_all _ hg
  obtain ⟨hp1, hp2, hp3, hp4, _⟩ := hall
  rw [← hBs] at hB hp1 hp2 hp3 hp4
  obtain ⟨k0, hk0⟩ : ∃ k0, k0 = u % (N - 1) := ⟨_, rfl⟩
  have hki : (u : Int) % ((N : Int) - 1) = (k0 : Int) := by rw [hk0, show ((N : Int) - 1) = ((N - 1 : Nat) : Int) from by omega]; norm_cast
  have hkn : k0 < N - 1 := by rw [hk0]; exact Nat.mod_lt u (by omega)
  obtain ⟨k, hk⟩ : ∃ k, k = 1 + k0 := ⟨_, rfl⟩
  have hk1 : (1 : Int) + (k0 : Int) = (k : Int) := by omega
  have hkN : 1 ≤ k ∧ k < N := by omega
  have hn0 : ¬ (N : Int) - 1 = 0 := by omega
  have i34 : ¬ (N : Int) < 34 := by omega
  obtain ⟨p, hp⟩ : ∃ p, p = min n2 15 := ⟨_, rfl⟩
  have hp15 : p ≤ n2 ∧ p ≤ 15 := by omega
  have hmin : ∀ (ts : Array TypeId) (t : TypeId) (w' : World), (Builtin.min_ ts t #[.int .i64 (n2 : Int), .int .i64 15]).run Try.prog w' = .ok (.int .i64 (p : Int)) w' := fun ts t w' => by
    rw [run_min_int2]; congr 2; split <;> omega
  -- what Parse says of each row that it is asked
  have cShort : paK (B.take k) = false := by rw [hBs]; exact pa_short _ hg k (by rw [← hBs, hBl]; omega)
  have cLong : paK (B ++ lm) = decide (n3 = 0) := by rw [hBs, pa_long _ hg lm, h3.len]
  have cLong0 : n3 = 0 → B ++ lm = B := fun e => by rw [List.eq_nil_of_length_eq_zero (h3.len.trans e), List.append_nil]
  have cStart : paK (B.set 0 true) = false := pa_start _ (by rw [List.getElem?_set_self (by omega)])
  have HBAD : Hid (∀ (j : Nat) (m : List Bool), Burst B lb k j m true → suV m ≠ 0#15) := fun j m hbu => by rw [hBs] at hbu; exact hbu.bad hg (by rw [← hBs, hBl]; omega)
  have HCS := hid cShort; have HCL := hid cLong; have HCL0 := hid cLong0; have HCT := hid cStart; have HBL := hid hBl
  have HP := hid (And.intro hp1 (And.intro hp2 (And.intro hp3 hp4)))
  have hlf : lonF rem dlc = n := hn1.symm
  have HLF := hid hlf
  clear cShort cLong cLong0 cStart hBl hp1 hp2 hp3 hp4 hN hBs hk0 hk hp hn1 hlf hg
  go_enter Try.func6, Try.ntmps6
  go_wp2_with (first
    | (go_at_call 19; rw [hw0.out]; (with_reducible refine hB.mono ?_); rintro e w1 ⟨a4, c4, rfl, hol1, g1⟩; have hr1 := hol1.rl; have gg1 := bstep gg0 g1; have h21 := h20.below g1; have h31 := h30.below g1)
    | (go_at_call 12; refine (anew_any w1 a4 N c4 B hr1 (by omega)).mono ?_; rintro e w2 ⟨a5, c5, rfl, hol5, g2⟩; obtain ⟨a6, pp1, pp2, h6⟩ := run_cutTo tB h21 .i64 p hp15.1))
  clear hmin
  try simp only [hki]
  clear hki hk1
  rcases hol5.ex with ⟨_, h9, _⟩ | ⟨g, cur, rfl, hg0, _, _⟩
  · omega
  go_loopg [13, 50] p (fun gn t i wr => ∃ (j : Nat) (m : List Bool) (tb : Bool), j ≤ p ∧ gn = p - j ∧ i = .int .i64 j ∧ t = .bool tb ∧ OL .bool 4 w1.heap.size wr (some ⟨g, 0, none⟩) N c5 m ∧ Below w1.heap.size w1 wr ∧ Burst B lb k j m tb)
  case atStart => exact ⟨0, B, false, Nat.zero_le _, rfl, rfl, rfl, hol5, g2, Burst.start _ _ _⟩
  case round =>
    clear hol5 g2
    obtain ⟨j, m, tb, hj, rfl, rfl, rfl, hol, hb, hbu⟩ := hrel
    have HBU := hid hbu; clear hbu
    by_cases hlt : j < p
    · obtain ⟨b, off, x, rfl, hx, hck⟩ := (h6.below hb).at hlt
      rw [List.getElem?_take, if_pos hlt] at hx
      have HX := hid hx; clear hx
      cases x
      · have HN := hid (HBU.out.skip HX.out (by simp))
        go_wp2
        go_roundg (p - (j + 1))
        case rel => exact ⟨j + 1, m, tb, by omega, rfl, by go_num, rfl, hol, hb, HN.out⟩
        case measure => omega
      · by_cases hkj : k + j < N
        · obtain ⟨v, hv⟩ : ∃ v, m[k + j]? = some v := ⟨_, HBU.out.get (by have := HBL.out; omega)⟩
          have HN := hid (HBU.out.turn HX.out (by omega) (by have := HBL.out; omega) hv)
          obtain ⟨hcv, hfv⟩ := hol.cellAt hv
          clear hv
          have i1 : (k : Int) + (j : Int) < (N : Int) := by omega
          go_wp2
          go_roundg (p - (j + 1))
          case rel => exact ⟨j + 1, _, true, by omega, rfl, by go_num, rfl, hol.set (!v), hb.setCell (p := ⟨g, k + j, none⟩) hg0 _, HN.out⟩
          case measure => omega
        · have HN := hid (HBU.out.skip HX.out (by have := HBL.out; omega))
          have i1 : ¬ (k : Int) + (j : Int) < (N : Int) := by omega
          go_wp2
          go_roundg (p - (j + 1))
          case rel => exact ⟨j + 1, m, tb, by omega, rfl, by go_num, rfl, hol, hb, HN.out⟩
          case measure => omega
    · obtain rfl : j = p := by omega
      obtain ⟨hp1, hp2, hp3, hp4⟩ := HP.out
      have hok : ∀ w9 a9 c9, RL .bool w9 a9 N c9 B → Calls Try.prog 26 #[.slice a9 N c9] w9 fun e w' => ∃ a' c', e = .returned (.tuple #[.agg #[.int .u32 (id : Int), .bool ext, .bool rem, .int .u8 (dlc : Int), .slice a' n c'], .int .i64 0]) ∧ Below w9.heap.size w9 w' := fun w9 a9 c9 h9 => by
        have := parse_ok w9 a9 N c9 B h9 hp1 hp2
        rw [hp3] at this
        dsimp only at this
        rw [HLF.out] at this
        exact this.mono fun e w' ⟨a', c', he, _, hb⟩ => ⟨a', c', he, hb⟩
      have cS : ∀ w9 a9 c9, RL .bool w9 a9 k c9 (B.take k) → Calls Try.prog 26 #[.slice a9 k c9] w9 fun e w' => e = .returned (.tuple #[.agg #[.int .u32 0, .bool false, .bool false, .int .u8 0, .slice none 0 0], .int .i64 41]) ∧ Below w9.heap.size w9 w' := fun w9 a9 c9 h9 => parse_bits w9 a9 k c9 _ h9 (by omega) HCS.out
      have cT : ∀ w9 a9 c9, RL .bool w9 a9 N c9 (B.set 0 true) → Calls Try.prog 26 #[.slice a9 N c9] w9 fun e w' => e = .returned (.tuple #[.agg #[.int .u32 0, .bool false, .bool false, .int .u8 0, .slice none 0 0], .int .i64 41]) ∧ Below w9.heap.size w9 w' := fun w9 a9 c9 h9 => parse_bits w9 a9 N c9 _ h9 (by omega) HCT.out
      clear hp1 hp2 hp3 hp4
      obtain ⟨b00, hb00⟩ : ∃ b00, B[0]? = some b00 := ⟨_, List.getElem?_eq_getElem (by have := HBL.out; omega)⟩
      have HB00 := hid hb00; clear hb00
      obtain ⟨a7, q1, q2, hr7⟩ := run_cutTo tB hr1 .i64 k (by omega)
      have hsw : w1.heap.size ≤ wr.heap.size := hb.size
      cases tb
      · by_cases hz : n3 = 0
        · skip
          rw [HBU.out.calm] at hol
          have cP := hok wr (some ⟨g, 0, none⟩) c5 hol.rl
          have hz1 : N + n3 = N := by omega
          have hz2 : B ++ lm = B := HCL0.out hz
          have cL : ∀ w9 a9 c9, RL .bool w9 a9 (N + n3) c9 (B ++ lm) → Calls Try.prog 26 #[.slice a9 (N + n3) c9] w9 fun e w' => ∃ a' c', e = .returned (.tuple #[.agg #[.int .u32 (id : Int), .bool ext, .bool rem, .int .u8 (dlc : Int), .slice a' n c'], .int .i64 0]) ∧ Below w9.heap.size w9 w' := fun w9 a9 c9 h9 => by
            rw [hz1, hz2] at h9
            rw [hz1]
            exact hok w9 a9 c9 h9
          have i3 : ¬ (0 : Int) < (n3 : Int) := by omega
          clear hz1 hz2 hz
          go_wp2_with (first
            | (go_at_call 26; (with_reducible refine cP.mono ?_); rintro e w3 ⟨a8, c8, rfl, g3⟩; have gD := bnew (bstep hb g3) (.cells #[.int .u32 (id : Int), .bool ext, .bool rem, .int .u8 (dlc : Int), .slice a8 n c8] 25); have hr74 := hr7.below gD)
            | (go_at_call 26; (with_reducible refine (cS _ a7 c4 hr74).mono ?_); rintro e w5 ⟨rfl, g5⟩; have gE := bnew (bstep gD g5) (.cells #[.int .u32 0, .bool false, .bool false, .int .u8 0, .slice none 0 0] 25); have hr1E := hr1.below gE; have h3E := h31.below gE)
            | (go_at_call 12; (with_reducible refine (anew_any _ a4 N c4 B hr1E (by omega)).mono ?_); rintro e w6 ⟨a9, c9, rfl, hol9, g6⟩; have gF := bstep gE g6; have h3F := h3E.below g6; have hsF := g6.size)
            | (at_builtin; refine wpList_appL (w := w6) tB rfl _ _ rfl rfl hol9 rfl h3F (by omega) (by omega) hsF ?_; intro w7 a10 c10 hol10 g7; have gG := gF.trans (g7.mono gE.size))
            | (go_at_call 26; (with_reducible refine (cL w7 a10 c10 hol10.rl).mono ?_); rintro e w8 ⟨a11, c11, rfl, g8⟩; have gH := bnew (bstep gG g8) (.cells #[.int .u32 (id : Int), .bool ext, .bool rem, .int .u8 (dlc : Int), .slice a11 n c11] 25); have hr1H := hr1.below gH)
            | (go_at_call 12; (with_reducible refine (anew_any _ a4 N c4 B hr1H (by omega)).mono ?_); rintro e w10 ⟨a12, c12, rfl, hol12, g10⟩; have gI := bstep gH g10; have hB12 := hol12.mono gH.size; rcases hol12.ex with ⟨_, h9, _⟩ | ⟨gm, cur2, rfl, hgm, _, _⟩; (omega); obtain ⟨hcv, hfv⟩ := hol12.cellAt HB00.out; have hol13 := hol12.set (i := 0) true; have gJ := gI.setCell (p := ⟨gm, 0, none⟩) (Nat.le_trans gH.size hgm) (.bool true))
            | (go_at_call 26; (with_reducible refine (cT _ _ c12 hol13.rl).mono ?_); rintro e w11 ⟨rfl, g11⟩; have gK := bnew (bstep gJ g11) (.cells #[.int .u32 0, .bool false, .bool false, .int .u8 0, .slice none 0 0] 25))
            | (go_at_call 10; refine (awake4_any _).mono ?_; rintro e w12 ⟨rfl, g12⟩))
          go_ret
          exact ⟨rfl, bstep (bstep gg1 gK) g12⟩
        · skip
          rw [HBU.out.calm] at hol
          have cP := hok wr (some ⟨g, 0, none⟩) c5 hol.rl
          have hKL : paK (B ++ lm) = false := by rw [HCL.out]; exact decide_eq_false hz
          have cL : ∀ w9 a9 c9, RL .bool w9 a9 (N + n3) c9 (B ++ lm) → Calls Try.prog 26 #[.slice a9 (N + n3) c9] w9 fun e w' => e = .returned (.tuple #[.agg #[.int .u32 0, .bool false, .bool false, .int .u8 0, .slice none 0 0], .int .i64 41]) ∧ Below w9.heap.size w9 w' := fun w9 a9 c9 h9 => parse_bits w9 a9 (N + n3) c9 _ h9 (by omega) hKL
          have i3 : (0 : Int) < (n3 : Int) := by omega
          clear hKL
          go_wp2_with (first
            | (go_at_call 26; (with_reducible refine cP.mono ?_); rintro e w3 ⟨a8, c8, rfl, g3⟩; have gD := bnew (bstep hb g3) (.cells #[.int .u32 (id : Int), .bool ext, .bool rem, .int .u8 (dlc : Int), .slice a8 n c8] 25); have hr74 := hr7.below gD)
            | (go_at_call 26; (with_reducible refine (cS _ a7 c4 hr74).mono ?_); rintro e w5 ⟨rfl, g5⟩; have gE := bnew (bstep gD g5) (.cells #[.int .u32 0, .bool false, .bool false, .int .u8 0, .slice none 0 0] 25); have hr1E := hr1.below gE; have h3E := h31.below gE)
            | (go_at_call 12; (with_reducible refine (anew_any _ a4 N c4 B hr1E (by omega)).mono ?_); rintro e w6 ⟨a9, c9, rfl, hol9, g6⟩; have gF := bstep gE g6; have h3F := h3E.below g6; have hsF := g6.size)
            | (at_builtin; refine wpList_appL (w := w6) tB rfl _ _ rfl rfl hol9 rfl h3F (by omega) (by omega) hsF ?_; intro w7 a10 c10 hol10 g7; have gG := gF.trans (g7.mono gE.size))
            | (go_at_call 26; (with_reducible refine (cL w7 a10 c10 hol10.rl).mono ?_); rintro e w8 ⟨rfl, g8⟩; have gH := bnew (bstep gG g8) (.cells #[.int .u32 0, .bool false, .bool false, .int .u8 0, .slice none 0 0] 25); have hr1H := hr1.below gH)
            | (go_at_call 12; (with_reducible refine (anew_any _ a4 N c4 B hr1H (by omega)).mono ?_); rintro e w10 ⟨a12, c12, rfl, hol12, g10⟩; have gI := bstep gH g10; have hB12 := hol12.mono gH.size; rcases hol12.ex with ⟨_, h9, _⟩ | ⟨gm, cur2, rfl, hgm, _, _⟩; (omega); obtain ⟨hcv, hfv⟩ := hol12.cellAt HB00.out; have hol13 := hol12.set (i := 0) true; have gJ := gI.setCell (p := ⟨gm, 0, none⟩) (Nat.le_trans gH.size hgm) (.bool true))
            | (go_at_call 26; (with_reducible refine (cT _ _ c12 hol13.rl).mono ?_); rintro e w11 ⟨rfl, g11⟩; have gK := bnew (bstep gJ g11) (.cells #[.int .u32 0, .bool false, .bool false, .int .u8 0, .slice none 0 0] 25))
            | (go_at_call 10; refine (awake4_any _).mono ?_; rintro e w12 ⟨rfl, g12⟩))
          go_ret
          exact ⟨rfl, bstep (bstep gg1 gK) g12⟩
      · by_cases hz : n3 = 0
        · skip
          obtain ⟨pe, hpe⟩ : ∃ pe : Int, pe = (if paK m then 42 else 41) := ⟨_, rfl⟩
          have hpe0 : (pe == 0) = false := by rw [hpe]; cases paK m <;> rfl
          have hpe1 : (pe != 0) = true := by rw [hpe]; cases paK m <;> rfl
          have cP := parse_bad wr (some ⟨g, 0, none⟩) N c5 m hol.rl (by omega) (HBAD.out _ _ HBU.out)
          rw [← hpe] at cP
          clear hpe
          have hz1 : N + n3 = N := by omega
          have hz2 : B ++ lm = B := HCL0.out hz
          have cL : ∀ w9 a9 c9, RL .bool w9 a9 (N + n3) c9 (B ++ lm) → Calls Try.prog 26 #[.slice a9 (N + n3) c9] w9 fun e w' => ∃ a' c', e = .returned (.tuple #[.agg #[.int .u32 (id : Int), .bool ext, .bool rem, .int .u8 (dlc : Int), .slice a' n c'], .int .i64 0]) ∧ Below w9.heap.size w9 w' := fun w9 a9 c9 h9 => by
            rw [hz1, hz2] at h9
            rw [hz1]
            exact hok w9 a9 c9 h9
          have i3 : ¬ (0 : Int) < (n3 : Int) := by omega
          clear hz1 hz2 hz
          go_wp2_with (first
            | (go_at_call 26; (with_reducible refine cP.mono ?_); rintro e w3 ⟨rfl, g3⟩; have gC := bnew (bstep hb g3) (.cells #[.int .u32 0, .bool false, .bool false, .int .u8 0, .slice none 0 0] 25))
            | (go_at_call 28; (with_reducible refine (finds_zero _).mono ?_); rintro e w4 ⟨rfl, g4⟩; have gD := bstep gC g4; have hr74 := hr7.below gD)
            | (go_at_call 26; (with_reducible refine (cS _ a7 c4 hr74).mono ?_); rintro e w5 ⟨rfl, g5⟩; have gE := bnew (bstep gD g5) (.cells #[.int .u32 0, .bool false, .bool false, .int .u8 0, .slice none 0 0] 25); have hr1E := hr1.below gE; have h3E := h31.below gE)
            | (go_at_call 12; (with_reducible refine (anew_any _ a4 N c4 B hr1E (by omega)).mono ?_); rintro e w6 ⟨a9, c9, rfl, hol9, g6⟩; have gF := bstep gE g6; have h3F := h3E.below g6; have hsF := g6.size)
            | (at_builtin; refine wpList_appL (w := w6) tB rfl _ _ rfl rfl hol9 rfl h3F (by omega) (by omega) hsF ?_; intro w7 a10 c10 hol10 g7; have gG := gF.trans (g7.mono gE.size))
            | (go_at_call 26; (with_reducible refine (cL w7 a10 c10 hol10.rl).mono ?_); rintro e w8 ⟨a11, c11, rfl, g8⟩; have gH := bnew (bstep gG g8) (.cells #[.int .u32 (id : Int), .bool ext, .bool rem, .int .u8 (dlc : Int), .slice a11 n c11] 25); have hr1H := hr1.below gH)
            | (go_at_call 12; (with_reducible refine (anew_any _ a4 N c4 B hr1H (by omega)).mono ?_); rintro e w10 ⟨a12, c12, rfl, hol12, g10⟩; have gI := bstep gH g10; have hB12 := hol12.mono gH.size; rcases hol12.ex with ⟨_, h9, _⟩ | ⟨gm, cur2, rfl, hgm, _, _⟩; (omega); obtain ⟨hcv, hfv⟩ := hol12.cellAt HB00.out; have hol13 := hol12.set (i := 0) true; have gJ := gI.setCell (p := ⟨gm, 0, none⟩) (Nat.le_trans gH.size hgm) (.bool true))
            | (go_at_call 26; (with_reducible refine (cT _ _ c12 hol13.rl).mono ?_); rintro e w11 ⟨rfl, g11⟩; have gK := bnew (bstep gJ g11) (.cells #[.int .u32 0, .bool false, .bool false, .int .u8 0, .slice none 0 0] 25))
            | (go_at_call 10; refine (awake4_any _).mono ?_; rintro e w12 ⟨rfl, g12⟩))
          go_ret
          exact ⟨rfl, bstep (bstep gg1 gK) g12⟩
        · skip
          obtain ⟨pe, hpe⟩ : ∃ pe : Int, pe = (if paK m then 42 else 41) := ⟨_, rfl⟩
          have hpe0 : (pe == 0) = false := by rw [hpe]; cases paK m <;> rfl
          have hpe1 : (pe != 0) = true := by rw [hpe]; cases paK m <;> rfl
          have cP := parse_bad wr (some ⟨g, 0, none⟩) N c5 m hol.rl (by omega) (HBAD.out _ _ HBU.out)
          rw [← hpe] at cP
          clear hpe
          have hKL : paK (B ++ lm) = false := by rw [HCL.out]; exact decide_eq_false hz
          have cL : ∀ w9 a9 c9, RL .bool w9 a9 (N + n3) c9 (B ++ lm) → Calls Try.prog 26 #[.slice a9 (N + n3) c9] w9 fun e w' => e = .returned (.tuple #[.agg #[.int .u32 0, .bool false, .bool false, .int .u8 0, .slice none 0 0], .int .i64 41]) ∧ Below w9.heap.size w9 w' := fun w9 a9 c9 h9 => parse_bits w9 a9 (N + n3) c9 _ h9 (by omega) hKL
          have i3 : (0 : Int) < (n3 : Int) := by omega
          clear hKL
          go_wp2_with (first
            | (go_at_call 26; (with_reducible refine cP.mono ?_); rintro e w3 ⟨rfl, g3⟩; have gC := bnew (bstep hb g3) (.cells #[.int .u32 0, .bool false, .bool false, .int .u8 0, .slice none 0 0] 25))
            | (go_at_call 28; (with_reducible refine (finds_zero _).mono ?_); rintro e w4 ⟨rfl, g4⟩; have gD := bstep gC g4; have hr74 := hr7.below gD)
            | (go_at_call 26; (with_reducible refine (cS _ a7 c4 hr74).mono ?_); rintro e w5 ⟨rfl, g5⟩; have gE := bnew (bstep gD g5) (.cells #[.int .u32 0, .bool false, .bool false, .int .u8 0, .slice none 0 0] 25); have hr1E := hr1.below gE; have h3E := h31.below gE)
            | (go_at_call 12; (with_reducible refine (anew_any _ a4 N c4 B hr1E (by omega)).mono ?_); rintro e w6 ⟨a9, c9, rfl, hol9, g6⟩; have gF := bstep gE g6; have h3F := h3E.below g6; have hsF := g6.size)
            | (at_builtin; refine wpList_appL (w := w6) tB rfl _ _ rfl rfl hol9 rfl h3F (by omega) (by omega) hsF ?_; intro w7 a10 c10 hol10 g7; have gG := gF.trans (g7.mono gE.size))
            | (go_at_call 26; (with_reducible refine (cL w7 a10 c10 hol10.rl).mono ?_); rintro e w8 ⟨rfl, g8⟩; have gH := bnew (bstep gG g8) (.cells #[.int .u32 0, .bool false, .bool false, .int .u8 0, .slice none 0 0] 25); have hr1H := hr1.below gH)
            | (go_at_call 12; (with_reducible refine (anew_any _ a4 N c4 B hr1H (by omega)).mono ?_); rintro e w10 ⟨a12, c12, rfl, hol12, g10⟩; have gI := bstep gH g10; have hB12 := hol12.mono gH.size; rcases hol12.ex with ⟨_, h9, _⟩ | ⟨gm, cur2, rfl, hgm, _, _⟩; (omega); obtain ⟨hcv, hfv⟩ := hol12.cellAt HB00.out; have hol13 := hol12.set (i := 0) true; have gJ := gI.setCell (p := ⟨gm, 0, none⟩) (Nat.le_trans gH.size hgm) (.bool true))
            | (go_at_call 26; (with_reducible refine (cT _ _ c12 hol13.rl).mono ?_); rintro e w11 ⟨rfl, g11⟩; have gK := bnew (bstep gJ g11) (.cells #[.int .u32 0, .bool false, .bool false, .int .u8 0, .slice none 0 0] 25))
            | (go_at_call 10; refine (awake4_any _).mono ?_; rintro e w12 ⟨rfl, g12⟩))
          go_ret
          exact ⟨rfl, bstep (bstep gg1 gK) g12⟩

theorem frameFinds_walk (w : World) (id : Nat) (ext rem : Bool) (dlc : Nat) (a : Option Addr) (n c : Nat) (l : List UInt8) (u : Nat) (a2 : Option Addr) (n2 c2 : Nat) (lb : List Bool) (a3 : Option Addr) (n3 c3 : Nat) (lm : List Bool)
    (hi : id < 4294967296) (hd : dlc < 256) (h : RL bv w a n c l) (hu : u < 65536) (h2 : RL .bool w a2 n2 c2 lb) (h3 : RL .bool w a3 n3 c3 lm) (m1 : n ≤ 9223372036854775807) (m2 : n2 ≤ 9223372036854775807) (m3 : n3 ≤ 140737488351232) :
    Calls Try.prog 6 #[.agg #[.int .u32 (id : Int), .bool ext, .bool rem, .int .u8 (dlc : Int), .slice a n c], .int .u16 (u : Int), .slice a2 n2 c2, .slice a3 n3 c3] w fun e w' => e = .returned (.bool true) ∧ Below w.heap.size w w' := by
  cases hr : riF id ext rem dlc n
  · exact finds_wrong w id ext rem dlc a n c u a2 n2 c2 a3 n3 c3 hi hd hr
  · exact finds_right w id ext rem dlc a n c l u a2 n2 c2 lb a3 n3 c3 lm hi hd h hu h2 h3 m2 m3 hr
end Go.Proofs.Ytcgpdldccfpjgaa
