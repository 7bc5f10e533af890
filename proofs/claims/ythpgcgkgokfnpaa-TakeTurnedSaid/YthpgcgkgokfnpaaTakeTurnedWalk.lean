/-
  The walk of the statement TakeTurned: for any frame and any bit it returns true, and nothing that was there has changed.
-/
import Derived.Test.YthpgcgkgokfnpaaB7i
import Derived.Test.YthpgcgkgokfnpaaM7b
namespace Go.Proofs.Ythpgcgkgokfnpaa
open Go.RowKit
set_option linter.unusedVariables false

set_option maxRecDepth 100000 in
set_option maxHeartbeats 4000000 in
theorem takeTurned_wrong (w : World) (id : Nat) (ext rem : Bool) (dlc : Nat) (a : Option Addr) (n c : Nat) (y : Nat) (hi : id < 4294967296) (hd : dlc < 256) (hr : riF id ext rem dlc n = false) :
    Calls Try.prog 5 #[.agg #[.int .u32 (id : Int), .bool ext, .bool rem, .int .u8 (dlc : Int), .slice a n c], .int .u16 (y : Int)] w fun e w' => e = .returned (.bool true) ∧ Below w.heap.size w w' := by
  obtain ⟨w0, hw0, hbx, _, _, _, _, _, gg0⟩ := boxed w 36 (.int .u32 (id : Int)) (.bool ext) (.bool rem) (.int .u8 (dlc : Int)) (.slice a n c)
  have hW := wire_wrong w0 id ext rem dlc a n c hi hd hr
  have hB := fun w1 => body_wrong w1 id ext rem dlc a n c hi hd hr
  go_enter Try.func5, Try.ntmps5
  go_wp2_with (first
    | (go_at_call 15; rw [hw0.out]; (with_reducible refine hW.mono ?_); rintro e w1 ⟨rfl, g1⟩; obtain ⟨k0, k1, k2, k3, k4⟩ := bx5 (bx_below hbx g1))
    | (go_at_call 16; (with_reducible refine (hB w1).mono ?_); rintro e w2 ⟨rfl, g2⟩)
    | (go_at_call 7; refine (awake7_any w2).mono ?_; rintro e w3 ⟨rfl, g3⟩))
  go_ret
  exact ⟨rfl, bstep (bstep (bstep gg0 g1) g2) g3⟩

theorem own_any {B : Nat} {w : World} {a : Option Addr} {n c : Nat} {l : List Bool} (h : OL .bool 4 B w a n c l) (hn : 0 < n) : ∃ g, a = some ⟨g, 0, none⟩ ∧ B ≤ g := by
  rcases h.ex with ⟨_, h0, _⟩ | ⟨g, cur, hg, hB, _⟩
  · omega
  · exact ⟨g, hg, hB⟩

theorem turned_body {w1 w2 w4 : World} {a2 : Option Addr} {n2 c2 g : Nat} {B : List Bool} (ho2 : OL .bool 4 w1.heap.size w2 a2 n2 c2 B) (hg : (⟨g, 0, none⟩ : Addr).block < w1.heap.size) (k : Nat) (x : Bool)
    (g4 : Below (w2.setCell ⟨g, k, none⟩ (.bool x)).heap.size (w2.setCell ⟨g, k, none⟩ (.bool x)) w4) : RL .bool w4 a2 n2 c2 B := by
  refine RL.below (w := w2.setCell ⟨g, k, none⟩ (.bool x)) (OL.rl (ho2.kept fun j hj => heap_setCell_other _ _ _ _ ?_)) g4
  have := (ho2.ltB hj).2
  dsimp only at this hg ⊢
  omega

theorem alT_bits (l : List Bool) : ∀ s, (alT s l).1.l.length ≤ s.l.length + l.length := by
  induction l with
  | nil => intro s; simp [alT]
  | cons x l ih =>
    intro s
    have h1 := nxT_len s x
    rw [alT]
    split
    · have := ih (nxT s x).1; simp only [List.length_cons]; omega
    · simp only [List.length_cons]; omega

theorem mem_step {O : List Nat} {i d : Nat} (h : O[i]? = some d) : decide (4 ∈ O.take (i + 1)) = (decide (4 ∈ O.take i) || (d == 4)) := by
  rw [take_snoc h, Bool.eq_iff_iff]
  simp
  constructor
  · rintro (h | h)
    · exact .inl h
    · exact .inr h.symm
  · rintro (h | h)
    · exact .inl h
    · exact .inr h.symm

set_option maxRecDepth 100000 in
set_option maxHeartbeats 8000000 in
theorem takeTurned_right (w : World) (id : Nat) (ext rem : Bool) (dlc : Nat) (a : Option Addr) (n c : Nat) (l : List UInt8) (y : Nat) (hi : id < 4294967296) (hd : dlc < 256) (h : RL bv w a n c l) (hy : y < 65536) (hr : riF id ext rem dlc n = true) :
    Calls Try.prog 5 #[.agg #[.int .u32 (id : Int), .bool ext, .bool rem, .int .u8 (dlc : Int), .slice a n c], .int .u16 (y : Int)] w fun e w' => e = .returned (.bool true) ∧ Below w.heap.size w w' := by
  obtain ⟨w0, hw0, hbx, _, _, _, _, _, gg0⟩ := boxed w 36 (.int .u32 (id : Int)) (.bool ext) (.bool rem) (.int .u8 (dlc : Int)) (.slice a n c)
  have h0 := h.below gg0
  have hg : Good ⟨id, ext, rem, dlc, l⟩ := (good_iff ⟨id, ext, rem, dlc, l⟩ n h.len).1 hr
  have hn8 := (riF_long hr).2.1
  have hW := wire_any w0 id ext rem dlc a n c l hi hd h0 hr
  have hBd := fun w1 h1 => body_any w1 id ext rem dlc a n c l hi hd h1 hr
  obtain ⟨F, hF⟩ : ∃ F : Fr, F = ⟨id, ext, rem, dlc, l⟩ := ⟨_, rfl⟩
  rw [← hF] at hg hW hBd
  have hBl : (boL F).length = heN ext + 8 * n + 15 := by rw [hF, boL_length, h.len]
  have hput := putL_len (boL F)
  have hBb : 34 ≤ heN ext + 8 * n + 15 ∧ heN ext + 8 * n + 15 ≤ 118 := by unfold heN; split <;> omega
  obtain ⟨P, hP⟩ : ∃ P, P = (putL (boL F)).length := ⟨_, rfl⟩
  have hPb : 34 ≤ P ∧ P ≤ 150 := by omega
  have hTn := fun k x => turned_facts hg (k := k) (x := x)
  rw [← hP] at hW hTn
  rw [← hBl] at hBd
  have hWl : (wiL F).length = P + 10 := by rw [wiL_length, hP]
  obtain ⟨B, hB⟩ : ∃ B, B = boL F := ⟨_, rfl⟩
  rw [← hB] at hBd hTn
  have hBn : B.length ≤ 118 := by rw [hB]; omega
  obtain ⟨W, hWe⟩ : ∃ W, W = wiL F := ⟨_, rfl⟩
  rw [← hWe] at hW hTn hWl
  clear hP hput hBl hWe hB hg hF
  obtain ⟨N, hN⟩ : ∃ N, N = P + 10 := ⟨_, rfl⟩
  rw [← hN] at hW hWl
  obtain ⟨k, hk⟩ : ∃ k, k = y % N := ⟨_, rfl⟩
  have hkN : k < N := by rw [hk]; exact Nat.mod_lt _ (by omega)
  have hki : (y : Int) % (N : Int) = (k : Int) := by rw [hk]; omega
  obtain ⟨x, hx⟩ : ∃ x, W[k]? = some x := ⟨W[k], by simp⟩
  have hT := hTn k x hx
  have HL := hid (show (alT s0 (W.set k (!x))).1.l.length ≤ 1000 from Nat.le_trans (alT_bits _ s0) (by rw [List.length_set, hWl]; simp [s0]; omega))
  have hall := fun (w1 : World) (a1 : Option Addr) (c1 : Nat) (h1 : RL .bool w1 a1 N c1 (W.set k (!x))) => all_any w1 a1 N c1 (W.set k (!x)) h1 (by omega)
  have hOl : (alT s0 (W.set k (!x))).2.length ≤ N := by have := alT_len (W.set k (!x)) s0; rw [List.length_set, hWl] at this; exact this
  generalize (alT s0 (W.set k (!x))).1 = T at hT hall HL
  generalize (alT s0 (W.set k (!x))).2 = O at hT hall hOl
  obtain ⟨NO, hNO⟩ : ∃ NO, O.length = NO + 1 := ⟨O.length - 1, by have : 0 < O.length := by { cases O with | nil => exact absurd rfl hT.pos | cons => simp }; omega⟩
  rw [hNO] at hall hOl
  have HT := hid hT
  have HNO := hid hNO
  have HX := hid hx
  have HN := hid hN
  clear hT hNO hTn hk hx hN hr
  have hN44 : ¬ (N : Int) < 44 := by have := HN.out; omega
  have hN0 : ¬ (N : Int) = 0 := by omega
  have hN160 : N ≤ 160 := by have := HN.out; omega
  go_enter Try.func5, Try.ntmps5
  go_wp2_with (first
    | (go_at_call 15; rw [hw0.out]; (with_reducible refine hW.mono ?_); rintro e w1 ⟨a1, c1, rfl, ho1, g1⟩; obtain ⟨k0, k1, k2, k3, k4⟩ := bx5 (bx_below hbx g1); have h1 := h0.below g1; have gg1 := bstep gg0 g1)
    | (go_at_call 16; (with_reducible refine (hBd w1 h1).mono ?_); rintro e w2 ⟨a2, c2, rfl, ho2, g2⟩; clear k0 k1 k2 k3 k4; have gg2 := bstep gg1 g2; have ho12 := ho1.below g2; obtain ⟨g, rfl, hgB⟩ := own_any ho12 (by omega); obtain ⟨qk, fk⟩ := ho12.cellAt HX.out; have ho3 := ho12.set (i := k) (!x))
    | (go_at_call 17; (with_reducible refine (hall _ _ _ ho3.rl).mono ?_); rintro e w4 ⟨a4, c4, ao, co, rfl, hr4, ho4, g4⟩; clear qk fk; have ht5 := heap_alloc_new w4 (.cells #[.bool T.b, .int .u8 (T.m : Int), .slice a4 T.l.length c4, .int .u8 (T.p : Int), .bool T.fi] 29); have ho5 := (ho4.alloc (.cells #[.bool T.b, .int .u8 (T.m : Int), .slice a4 T.l.length c4, .int .u8 (T.p : Int), .bool T.fi] 29)).rl; have hr5 := (hr4.alloc (.cells #[.bool T.b, .int .u8 (T.m : Int), .slice a4 T.l.length c4, .int .u8 (T.p : Int), .bool T.fi] 29)).rl; have hb5 := (turned_body ho2 (ho1.ltB rfl).1 k (!x) g4).below (bnew0 w4 (.cells #[.bool T.b, .int .u8 (T.m : Int), .slice a4 T.l.length c4, .int .u8 (T.p : Int), .bool T.fi] 29)); have gg5 : Below w.heap.size w (w4.alloc (.cells #[.bool T.b, .int .u8 (T.m : Int), .slice a4 T.l.length c4, .int .u8 (T.p : Int), .bool T.fi] 29)) := bnew (bstep (gg2.setCell (by show w.heap.size ≤ g; have := (ho1.ltB rfl).2; have := gg0.size; dsimp only at *; omega) _) g4) _))
  clear hall hW hBd hr4 ho4 ho3 ho2 ho1 ho12 g1 g2 g4 h1 h0 hbx hw0 h hgB gg0 gg1 gg2
  obtain ⟨w5, hw5⟩ : ∃ w5, w5 = w4.alloc (.cells #[.bool T.b, .int .u8 (T.m : Int), .slice a4 T.l.length c4, .int .u8 (T.p : Int), .bool T.fi] 29) := ⟨_, rfl⟩
  rw [← hw5] at ht5 ho5 hr5 hb5 gg5 ⊢
  clear hw5
  obtain ⟨t0, t1, t2, t3, t4⟩ := bx5 ht5
  go_loop [13, 53] (fun v i => ∃ j : Nat, j ≤ NO + 1 ∧ i = .int .i64 (j : Int) ∧ ∃ gv : Bool, v = .bool gv ∧ Hid (gv = decide (4 ∈ O.take j))) (fun _ i => NO + 1 - (intOf i).toNat)
  case atStart => exact ⟨0, by omega, rfl, false, rfl, hid rfl⟩
  case round =>
    obtain ⟨j, hj, rfl, gv, rfl, HG⟩ := hrel
    by_cases hlt : j < NO + 1
    · obtain ⟨b, off, d, rfl, hx, hck⟩ := ho5.at hlt
      have HD := hid (mem_step hx)
      have hck' : w5.cell? ⟨b, off + j, none⟩ = some (.int .u8 (d : Int)) := hck
      clear hck hx
      cases gv
      · go_wp2
        go_round
        case rel => exact ⟨j + 1, by omega, by go_num, _, rfl, hid (by rw [HD.out, ← HG.out, Bool.false_or]; rw [Bool.eq_iff_iff]; simp; omega)⟩
        case measure => simp [intOf]; omega
      · go_wp2
        go_round
        case rel => exact ⟨j + 1, by omega, by go_num, _, rfl, hid (by rw [HD.out, ← HG.out]; rfl)⟩
        case measure => simp [intOf]; omega
    · obtain rfl : j = NO + 1 := by omega
      obtain ⟨b, off, d, rfl, hx, hck⟩ := ho5.at (k := NO) (by omega)
      have HG2 := hid (show gv = decide (4 ∈ O) from by rw [HG.out, List.take_of_length_le (by rw [HNO.out]; omega)])
      have HD := hid hx
      clear hx HG
      by_cases hc1 : k < P
      · have hc : (k : Int) < (N : Int) - 10 := by have := HN.out; omega
        have hck' : w5.cell? ⟨b, off + NO, none⟩ = some (.int .u8 (d : Int)) := hck
        clear hck
        cases gv
        · clear hb5 hr5
          go_wp2_with (go_at_call 7; (with_reducible refine (awake7_any _).mono ?_); rintro e w9 ⟨rfl, g9⟩)
          go_ret
          exact ⟨rfl, bstep gg5 g9⟩
        · have hsame := same_any w5 a4 _ c4 T.l a2 _ c2 B hr5 hb5 (by have := hr5.len; have := HL.out; omega)
          rw [decide_eq_false (HT.out.lo hc1 (of_decide_eq_true HG2.out.symm))] at hsame
          clear hb5 hr5
          go_wp2_with (first
            | (go_at_call 18; (with_reducible refine hsame.mono ?_); rintro e w8 ⟨rfl, rfl⟩)
            | (go_at_call 7; (with_reducible refine (awake7_any _).mono ?_); rintro e w9 ⟨rfl, g9⟩))
          go_ret
          exact ⟨rfl, bstep gg5 g9⟩
      · have hc : ¬ (k : Int) < (N : Int) - 10 := by have := HN.out; omega
        clear hb5 hr5
        by_cases hc2 : k = P + 1
        · obtain ⟨f1, f2, f3⟩ := HT.out.ack hc2
          have hq9 : ((k : Int) == (N : Int) - 9) = true := by have := HN.out; simp; omega
          have hnn : ((NO : Int) + 1 == (N : Int)) = true := by have := HN.out; have := HNO.out; simp; omega
          have hck' : w5.cell? ⟨b, off + NO, none⟩ = some (.int .u8 6) := by
            have e : NO = P + 9 := by have := HNO.out; omega
            have := HD.out; rw [e, f3] at this
            obtain rfl : (6 : Nat) = d := by simpa using this
            exact hck
          obtain rfl : gv = true := by rw [HG2.out]; exact decide_eq_true f1
          clear f1 f2 f3 hck hc1 hc2
          go_wp2_with (go_at_call 7; (with_reducible refine (awake7_any _).mono ?_); rintro e w9 ⟨rfl, g9⟩)
          go_ret
          exact ⟨rfl, bstep gg5 g9⟩
        · have hq9 : ((k : Int) == (N : Int) - 9) = false := by have := HN.out; simp; omega
          by_cases hc3 : k = P + 9
          · obtain ⟨f1, f2, f3⟩ := HT.out.late hc3
            have hq1 : ((k : Int) == (N : Int) - 1) = true := by have := HN.out; simp; omega
            have hnn : ((NO : Int) + 1 == (N : Int)) = true := by have := HN.out; have := HNO.out; simp; omega
            have hck' : w5.cell? ⟨b, off + NO, none⟩ = some (.int .u8 5) := by
              have e : NO = P + 9 := by have := HNO.out; omega
              have := HD.out; rw [e, f3] at this
              obtain rfl : (5 : Nat) = d := by simpa using this
              exact hck
            obtain rfl : gv = true := by rw [HG2.out]; exact decide_eq_true f1
            clear f1 f2 f3 hck hc1 hc2 hc3
            go_wp2_with (go_at_call 7; (with_reducible refine (awake7_any _).mono ?_); rintro e w9 ⟨rfl, g9⟩)
            go_ret
            exact ⟨rfl, bstep gg5 g9⟩
          · obtain ⟨f1, f2, f3⟩ := HT.out.form (by omega) hc2 hc3
            have hq1 : ((k : Int) == (N : Int) - 1) = false := by have := HN.out; simp; omega
            have hnn : ((NO : Int) + 1 == (k : Int) + 1) = true := by have := HNO.out; simp; omega
            have hck' : w5.cell? ⟨b, off + NO, none⟩ = some (.int .u8 2) := by
              have e : NO = k := by have := HNO.out; omega
              have := HD.out; rw [e, f3] at this
              obtain rfl : (2 : Nat) = d := by simpa using this
              exact hck
            obtain rfl : gv = false := by rw [HG2.out]; exact decide_eq_false f1
            clear f1 f2 f3 hck hc1 hc2 hc3
            go_wp2_with (go_at_call 7; (with_reducible refine (awake7_any _).mono ?_); rintro e w9 ⟨rfl, g9⟩)
            go_ret
            exact ⟨rfl, bstep gg5 g9⟩

theorem takeTurned_walk (w : World) (id : Nat) (ext rem : Bool) (dlc : Nat) (a : Option Addr) (n c : Nat) (l : List UInt8) (y : Nat) (hi : id < 4294967296) (hd : dlc < 256) (h : RL bv w a n c l) (hy : y < 65536) (m1 : n ≤ 9223372036854775807) :
    Calls Try.prog 5 #[.agg #[.int .u32 (id : Int), .bool ext, .bool rem, .int .u8 (dlc : Int), .slice a n c], .int .u16 (y : Int)] w fun e w' => e = .returned (.bool true) ∧ Below w.heap.size w w' := by
  cases hr : riF id ext rem dlc n
  · exact takeTurned_wrong w id ext rem dlc a n c y hi hd hr
  · exact takeTurned_right w id ext rem dlc a n c l y hi hd h hy hr
end Go.Proofs.Ythpgcgkgokfnpaa
