/-
  FlipsNodes, walked: without a node a list turns about nothing of it, and of all others as ahead; what a node samples is turned about just where its bit is in the mask; turned about twice it is as it was.
-/
import Derived.Test.YtoeeaohgihipgaaM5g
namespace Go.Proofs.Ytoeeaohgihipgaa
open Go.RowKit Go.Sort
set_option linter.unusedVariables false

theorem right_part {m : List Fl} (h : MadeP m) (p : Fl → Bool) : RightP (m.filter p) :=
  ⟨by have := h.len; have := List.length_filter_le p m; omega, fun x hx => h.all x ((List.mem_filter.1 hx).1), sor_filter h.sor p⟩

theorem right_without {m : List Fl} (h : MadeP m) (N : Nat) : RightP (woL m N) := right_part h _
theorem right_len {m : List Fl} (h : RightP m) {k : Nat} (hk : m.length = k) : k ≤ 100000 := by have := h.1; omega

theorem mask_without {f : List Fl} (hf : AllF f) (s : Int) (N : Nat) (hN : N < 32) : bits BinOp.andNot IntKind.u32 (maskL f s : Int) (2 ^ N % 4294967296) = (maskL (woL f N) s : Int) := by
  have hM := maskL_u32 hf s
  have hW : maskL (woL f N) s < 4294967296 := maskL_u32 (fun x hx => hf x ((List.mem_filter.1 hx).1)) s
  have hp : 2 ^ N < 4294967296 := Nat.lt_of_le_of_lt (Nat.pow_le_pow_right (n := 2) (j := 31) (by decide) (by omega)) (by decide)
  have e : ((2 : Int) ^ N % 4294967296) = ((2 ^ N : Nat) : Int) := by
    rw [show (2 : Int) ^ N = ((2 ^ N : Nat) : Int) by simp]
    generalize 2 ^ N = q at hp ⊢
    omega
  rw [e]
  show IntKind.u32.wrap ((BitVec.ofInt 32 (maskL f s : Int) &&& ~~~ BitVec.ofInt 32 ((2 ^ N : Nat) : Int)).toNat : Int) = _
  have e2 : (BitVec.ofInt 32 (maskL f s : Int) &&& ~~~ BitVec.ofInt 32 ((2 ^ N : Nat) : Int)).toNat = maskL (woL f N) s := by
    apply Nat.eq_of_testBit_eq
    intro j
    rw [BitVec.ofInt_natCast, BitVec.ofInt_natCast, BitVec.testBit_toNat, BitVec.getLsbD_and, BitVec.getLsbD_not, BitVec.getLsbD_ofNat, BitVec.getLsbD_ofNat]
    show _ = (maskL (f.filter _) s).testBit j
    rw [mask_filter, Nat.testBit_two_pow]
    by_cases hj : j < 32
    · by_cases hjn : N = j
      · subst hjn; simp [hj]
      · have : ¬ j = N := fun e => hjn e.symm
        simp [hj, hjn, this]
    · have : (maskL f s).testBit j = false := Nat.testBit_lt_two_pow (Nat.lt_of_lt_of_le hM (Nat.pow_le_pow_right (n := 2) (i := 32) (j := j) (by decide) (by omega)))
      simp [hj, this]
  rw [e2]
  exact IntWalk.u32_in _ (by omega)

theorem turn_num' (m j : Nat) (hm : m < 4294967296) (hj : j < 32) : (bits BinOp.and IntKind.u32 ((m : Int) / 2 ^ j) 1 == 1) = m.testBit j := by
  have := turn_num m j hm
  rwa [Nat.min_eq_left (by omega)] at this

theorem litT (w : World) (t : Int) : RK fe 2 (w.alloc (.cells #[.int .i64 t, .int .u8 0] 38)) (some ⟨w.heap.size, 0, none⟩) 1 1 [(t, 0)] := lit1F w t 0

set_option maxRecDepth 100000 in
set_option maxHeartbeats 4000000 in
theorem flipsNodes_walk (w : World) (a : Option Addr) (n c : Nat) (l : List Fl) (j : Nat) (t : Int) (bit : Bool) (h : RK fe 2 w a n c l) (hu : ∀ x ∈ l, x.2 < 256) (hj : j < 256) (ht : -9223372036854775808 ≤ t ∧ t ≤ 9223372036854775807) (hn : n ≤ 9223372036854775807) :
    Calls Try.prog 6 #[.slice a n c, .int .u8 (j : Int), .int .i64 t, .bool bit] w fun e w' => e = .returned (.bool true) ∧ Below w.heap.size w w' := by
  clear ht
  have HU := hid hu; clear hu
  obtain ⟨N, hN⟩ : ∃ N, N = j % 32 := ⟨_, rfl⟩
  have e1 : (j : Int).tmod 32 = (N : Int) := by rw [Int.tmod_eq_emod_of_nonneg (by omega)]; omega
  have e1' : (j : Int) % 32 = (N : Int) := by omega
  have hN1 : N ≤ 31 := by omega
  clear hN
  go_enter Try.func6, Try.ntmps6
  go_wp2_with (first
    | (go_at_call 22; with_reducible refine (made_any w a n c l h hn HU.out).mono ?_; rintro e w1 ⟨a1, m1, c1, f, rfl, ho1, hP, g1⟩; have HP := hid hP; clear hP; have hr1 := ho1.rk eF; have hl1 := ho1.len; have hm1 : m1 ≤ 150 := (by have := HP.out.len; omega); clear ho1)
    | (go_at_call 20; with_reducible refine (without_any w1 a1 m1 c1 f N hr1 (by omega) (by omega)).mono ?_; rintro e w2 ⟨a2, m2, c2, rfl, ho2, g2⟩; have hr2 := ho2.rk eF; have hl2 := ho2.len; have hR2 := right_without HP.out N; have hm2 := right_len hR2 hl2; have HR2 := hid hR2; clear hR2 ho2 hl2; have hq1 := hr1.below g2; have gg2 := bstep g1 g2; clear hr1 g1 g2)
    | (go_at_call 11; with_reducible refine (right_any w2 a2 m2 c2 _ hr2 (by omega)).mono ?_; rw [rightB_true HR2.out]; rintro e w3 ⟨rfl, g3⟩; have hq3 := hq1.below g3; have hr3 := hr2.below g3; have gg3 := bstep gg2 g3; clear hq1 hr2 gg2 g3; have ho3 := ok_lit eF 38 w3.heap.size w3 [] #[] 0 rfl rfl (by omega) (Nat.le_refl _); have hq4 := hq3.below (bnew0 w3 (.cells #[] 38)))
    | (at_builtin; refine wpList_appK (o := ⟨some 29, _, _, _, _, _⟩) (enc := fe) tF eF rfl _ _ rfl rfl ho3 rfl hq4 (by omega) (by omega) (by simp) ?_; intro w5 a5 c5 ho5 hb5; rw [Nat.zero_add, List.nil_append] at ho5; have hb5 := (bnew0 w3 _).trans hb5; have hsz5 := hb5.size)
    | (at_builtin; refine wpList_appK (o := ⟨some 33, _, _, _, _, _⟩) (enc := fe) tF eF rfl _ _ rfl rfl (ho5.alloc _) rfl (litT w5 t) (by omega) (by omega) (by simp; omega) ?_; intro w6 a6 c6 ho6 hb6; have hb6 := ((hb5.alloc (by omega) _).trans hb6); have hs6 := ho6.rk eF; have hq6 := hq3.below hb6; have hr6 := hr3.below hb6; have gg6 := bstep gg3 hb6; clear ho3 hq4 ho5 hb5 ho6 hb6 hq3 hr3 gg3 hsz5))
  go_loopg [35] (m1 + 1) (fun gn vi wr => ∃ k : Nat, k ≤ m1 + 1 ∧ gn = m1 + 1 - k ∧ vi = .int .i64 (k : Int) ∧ Below w6.heap.size w6 wr)
  case atStart => exact ⟨0, by omega, by omega, rfl, Below.refl _ _⟩
  case round =>
    obtain ⟨k, hk, rfl, rfl, hb⟩ := hrel
    by_cases hlt : k < m1 + 1
    · obtain ⟨bk, off, s, u, rfl, hx, hbk, hc0, hc1⟩ := rf_at (hs6.below hb) hlt
      clear hx
      have i5 : (k : Int) < (m1 : Int) + 1 := by omega
      have hgw := bnew hb (.cells #[.int .i64 s, .int .u8 (u : Int)] 38)
      have hbx7 := heap_alloc_new wr (.cells #[.int .i64 s, .int .u8 (u : Int)] 38)
      have hM := maskL_u32 HP.out.all s
      have hW := maskL_u32 HR2.out.2.1 s
      have hWE := mask_without HP.out.all s N (by omega)
      have hTB := turn_num' (maskL f s) N hM (by omega)
      have hT1 := fun w => turn_any w bit (maskL f s) N hM (by omega)
      have hT2 := fun w => turn_any w (turnB bit (maskL f s) N) (maskL f s) N hM (by omega)
      have hT3 := fun w => turn_any w bit (maskL f s) (32 + N) hM (by omega)
      have e32 : turnB bit (maskL f s) (32 + N) = bit := by
        have : (maskL f s).testBit (32 + N) = false := Nat.testBit_lt_two_pow (Nat.lt_of_lt_of_le hM (Nat.pow_le_pow_right (n := 2) (i := 32) (j := 32 + N) (by decide) (by omega)))
        simp [turnB, this]
      rw [e32] at hT3
      clear e32
      unfold turnB at hT1 hT2
      obtain ⟨tb, htb⟩ : ∃ tb, tb = (maskL f s).testBit N := ⟨_, rfl⟩
      rw [← htb] at hTB hT1 hT2
      clear htb
      have km : ∀ w7, Below w6.heap.size w6 w7 → ∀ d os, Calls Try.prog 16 #[.slice a1 m1 c1, .int .i64 s] (grow (redrawn w7 d) os) fun e w'' => e = .returned (.int .u32 (maskL f s : Int)) ∧ ∃ p : Regrown, w'' = grow (redrawn w7 p.d) p.os := fun w7 g7 d os =>
        Calls.regrown_of (mask_any _ a1 m1 c1 f s ((hq6.below g7).below (below_regrown _ _ _)) (by omega) HP.out.sor HP.out.all)
      have kw : ∀ w7, Below w6.heap.size w6 w7 → ∀ d os, Calls Try.prog 16 #[.slice a2 m2 c2, .int .i64 s] (grow (redrawn w7 d) os) fun e w'' => e = .returned (.int .u32 (maskL (woL f N) s : Int)) ∧ ∃ p : Regrown, w'' = grow (redrawn w7 p.d) p.os := fun w7 g7 d os =>
        Calls.regrown_of (mask_any _ a2 m2 c2 _ s ((hr6.below g7).below (below_regrown _ _ _)) (by omega) HR2.out.2.2 HR2.out.2.1)
      generalize maskL f s = M at *
      generalize maskL (woL f N) s = W at *
      have hT3' : ∀ w, Calls Try.prog 14 #[.bool bit, .int .u32 (M : Int), .int .u8 (32 + (N : Int))] w fun e w' => e = .returned (.bool bit) ∧ w = w' := fun w => by
        have := hT3 w
        rwa [show ((32 + N : Nat) : Int) = 32 + (N : Int) by omega] at this
      have KM := hid km
      have KW := hid kw
      have K1 := hid hT1
      have K2 := hid hT2
      have K3 := hid hT3'
      clear km kw hT1 hT2 hT3 hT3'
      cases bit <;> cases tb
      all_goals
        simp only [bne_self_eq_false, Bool.false_bne, Bool.true_bne, Bool.bne_false, Bool.bne_true, Bool.not_true, Bool.not_false] at K1 K2
        go_wp2
        generalize hw7 : wr.alloc (.cells #[.int .i64 s, .int .u8 (u : Int)] 38) = w7 at *
        clear hw7
        obtain ⟨p0, p1, p2, p3⟩ := bx hbx7
        have p0 := cell_regrown p0
        clear p1 p2 p3 hc0 hc1
        have km := KM.out w7 hgw
        have kw := KW.out w7 hgw
        refine wp_region_quiet_below (by kernel_rfl) (by kernel_rfl) ?_
        repeat (go_big_quiet_step (first | (go_at_call 16; with_reducible exact km _ _) | (go_at_call 16; with_reducible exact kw _ _)))
        refine wpQuiet_nil ?_
        intro w9 hw9
        have g9 : Below w7.heap.size w7 w9 := by obtain ⟨p9, rfl⟩ := hw9; exact below_regrown _ _ _
        clear hw9 km kw p0 hbx7
        go_wp2_with (first | (go_at_call 14; with_reducible refine (K1.out w9).mono ?_; rintro e w' ⟨rfl, rfl⟩) | (go_at_call 14; with_reducible refine (K2.out w9).mono ?_; rintro e w' ⟨rfl, rfl⟩) | (go_at_call 14; with_reducible refine (K3.out w9).mono ?_; rintro e w' ⟨rfl, rfl⟩))
        go_roundg (m1 + 1 - (k + 1))
        case measure => omega
        case rel => exact ⟨k + 1, by omega, rfl, by go_num, bstep hgw g9⟩
    · go_wp2_with (first | (go_at_call 8; with_reducible refine (awake_any wr).mono ?_; rintro e w9 ⟨rfl, g9⟩))
      go_ret
      exact ⟨rfl, bstep gg6 (bstep hb g9)⟩
end Go.Proofs.Ytoeeaohgihipgaa
