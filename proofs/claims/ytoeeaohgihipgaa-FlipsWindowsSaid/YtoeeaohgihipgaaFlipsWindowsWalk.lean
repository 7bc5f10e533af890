/-
  FlipsWindows, walked: a wider window has no fewer flips; a window as wide as two has no more than both; the widest one has all of them; a window of one step has as many as a mask has nodes, at most.
-/
import Derived.Test.YtoeeaohgihipgaaM5g
namespace Go.Proofs.Ytoeeaohgihipgaa
open Go.RowKit Go.Sort
set_option linter.unusedVariables false

set_option maxRecDepth 100000 in
set_option maxHeartbeats 4000000 in
theorem flipsWindows_walk (w : World) (a : Option Addr) (n c : Nat) (l : List Fl) (v0 w0 : Nat) (h : RK fe 2 w a n c l) (hu : ∀ x ∈ l, x.2 < 256) (hv : v0 < 18446744073709551616) (hw : w0 < 18446744073709551616) (hn : n ≤ 9223372036854775807) :
    Calls Try.prog 5 #[.slice a n c, .int .u64 (v0 : Int), .int .u64 (w0 : Int)] w fun e w' => e = .returned (.bool true) ∧ Below w.heap.size w w' := by
  have HU := hid hu; clear hu
  obtain ⟨x, hx⟩ : ∃ x, x = v0 % 2199023255552 := ⟨_, rfl⟩
  obtain ⟨y, hy⟩ : ∃ y, y = w0 % 2199023255552 := ⟨_, rfl⟩
  have e1 : (v0 : Int).tmod 2199023255552 = (x : Int) := by rw [Int.tmod_eq_emod_of_nonneg (by omega)]; omega
  have e2 : (w0 : Int).tmod 2199023255552 = (y : Int) := by rw [Int.tmod_eq_emod_of_nonneg (by omega)]; omega
  have e1' : (v0 : Int) % 2199023255552 = (x : Int) := by omega
  have e2' : (w0 : Int) % 2199023255552 = (y : Int) := by omega
  have lx : x < 2199023255552 := by omega
  have ly : y < 2199023255552 := by omega
  clear hx hy
  have hmxc : ∀ p q r : Nat, p ≤ r → q ≤ r → decide ((r : Int) < max (p : Int) (q : Int)) = false := fun p q r h1 h2 => by simp; omega
  have HMX := hid hmxc; clear hmxc
  have hAT : ∀ (f : List Fl) (s : Int), Sor f → AllF f → popN (maskL f s) = (atL f s).length := fun f s h1 h2 => popN_mask h1 h2 s
  have HAT := hid hAT; clear hAT
  by_cases hxy : x ≤ y
  all_goals
    go_enter Try.func5, Try.ntmps5
    go_wp2_with (first
      | (go_at_call 22; with_reducible refine (made_any w a n c l h hn HU.out).mono ?_; rintro e w1 ⟨a1, m1, c1, f, rfl, ho1, hP, g1⟩; have HP := hid hP; clear hP; have hr1 := ho1.rk eF; have hl1 := ho1.len; have hm1 : m1 ≤ 150 := (by have := HP.out.len; omega); clear ho1)
      | (go_at_call 18; with_reducible refine (most_any w1 a1 m1 c1 f (x : Int) hr1 (by omega) HP.out.sor HP.out.all).mono ?_; rintro e w2 ⟨p, rfl, hp, hpm, g2⟩; have HPP := hid hp; clear hp; have hr2 := hr1.below g2; have gg2 := bstep g1 g2; clear hr1 g1 g2)
      | (go_at_call 18; with_reducible refine (most_any w2 a1 m1 c1 f (y : Int) hr2 (by omega) HP.out.sor HP.out.all).mono ?_; rintro e w3 ⟨q, rfl, hq, hqm, g3⟩; have HQQ := hid hq; clear hq; have hr3 := hr2.below g3; have gg3 := bstep gg2 g3; clear hr2 gg2 g3)
      | (go_at_call 18; with_reducible refine (most_any w3 a1 m1 c1 f ((x : Int) + (y : Int)) hr3 (by omega) HP.out.sor HP.out.all).mono ?_; rintro e w4 ⟨r, rfl, hr, hrm, g4⟩; have hr4 := hr3.below g4; have gg4 := bstep gg3 g4; have k1 := isMost_mono HPP.out hr (by omega); have k2 := isMost_mono HQQ.out hr (by omega); have k3 := isMost_add HPP.out HQQ.out hr; have k4 := HMX.out p q r k1 k2; have k5 : decide ((p : Int) + (q : Int) < (r : Int)) = false := (by simp; omega); (first | (have k7 : decide (q < p) = false := decide_eq_false (by have := isMost_mono HPP.out HQQ.out (by omega); omega)) | skip); clear hr hr3 gg3 g4 k1 k2 k3)
      | (go_at_call 18; with_reducible refine (most_any w4 a1 m1 c1 f 2199023255552 hr4 (by omega) HP.out.sor HP.out.all).mono ?_; rintro e w5 ⟨r5, rfl, hr, _, g5⟩; obtain rfl : m1 = r5 := ((isMost_unique hr (isMost_all (T := 1099511627776) HP.out.bnd (by omega))).trans hl1).symm; have hr5 := hr4.below g5; have gg5 := bstep gg4 g5; clear hr hr4 gg4 g5)
      | (go_at_call 18; with_reducible refine (most_any w5 a1 m1 c1 f 0 hr5 (by omega) HP.out.sor HP.out.all).mono ?_; rintro e w6 ⟨r6, rfl, hr, _, g6⟩; obtain rfl : r6 = 0 := isMost_unique hr (isMost_zero HP.out.sor (by omega)); have hr6 := hr5.below g6; have gg6 := bstep gg5 g6; clear hr hr5 gg5 g6)
      | (go_at_call 18; with_reducible refine (most_any w6 a1 m1 c1 f (-(x : Int)) hr6 (by omega) HP.out.sor HP.out.all).mono ?_; rintro e w7 ⟨r7, rfl, hr, _, g7⟩; obtain rfl : r7 = 0 := isMost_unique hr (isMost_zero HP.out.sor (by omega)); have hr7 := hr6.below g7; have gg7 := bstep gg6 g7; clear hr hr6 gg6 g7))
    clear k4 k5 hpm hqm hrm
    have HL1 := hid hl1; clear hl1
    go_loopg [13, 82] m1 (fun gn vb vi wr => ∃ k b : Nat, k ≤ m1 ∧ gn = m1 - k ∧ vi = .int .i64 (k : Int) ∧ vb = .int .i64 (b : Int) ∧ (∀ (i : Nat) (z : Fl), i < k → f[i]? = some z → (atL f z.1).length ≤ b) ∧ (b = 0 ∨ ∃ (i : Nat) (z : Fl), f[i]? = some z ∧ (atL f z.1).length = b) ∧ Below w7.heap.size w7 wr)
    case atStart => exact ⟨0, 0, by omega, by omega, rfl, rfl, fun i z hi => by omega, .inl rfl, Below.refl _ _⟩
    case round =>
      obtain ⟨k, b, hk, rfl, rfl, rfl, h1, h2, hb⟩ := hrel
      have H1 := hid h1; clear h1
      have H2 := hid h2; clear h2
      by_cases hlt : k < m1
      · obtain ⟨bk, off, s, u, rfl, hx, hbk, hc0, hc1⟩ := rf_at (hr7.below hb) hlt
        have HX := hid hx; clear hx
        have hb2 := bnew hb (.cells #[.int .i64 s, .int .u8 (u : Int)] 38)
        have km := mask_any _ _ m1 c1 f s (hr7.below hb2) (by omega) HP.out.sor HP.out.all
        have hM := maskL_u32 HP.out.all s
        have ko := fun w8 => ones_any w8 (maskL f s) hM
        rw [HAT.out f s HP.out.sor HP.out.all] at ko
        generalize maskL f s = M at km ko hM
        obtain ⟨N, hN⟩ : ∃ N, N = (atL f s).length := ⟨_, rfl⟩
        rw [← hN] at ko
        have HN := hid (show (∀ (i : Nat) (z : Fl), i < k + 1 → f[i]? = some z → (atL f z.1).length ≤ max b N) ∧ (max b N = 0 ∨ ∃ (i : Nat) (z : Fl), f[i]? = some z ∧ (atL f z.1).length = max b N) by
          constructor
          · intro i z hi hz
            by_cases e : i = k
            · subst e
              rw [HX.out] at hz
              simp at hz
              subst hz
              show (atL f s).length ≤ _
              omega
            · have := H1.out i z (by omega) hz
              omega
          · by_cases hbn : b ≤ N
            · exact .inr ⟨k, (s, u), HX.out, by show (atL f s).length = _; omega⟩
            · rcases H2.out with h0 | ⟨i, z, hz, hzb⟩
              · omega
              · exact .inr ⟨i, z, hz, by omega⟩)
        clear hN
        go_wp2_with (first
          | (go_at_call 16; with_reducible refine km.mono ?_; rintro e w8 ⟨rfl, g8⟩)
          | (go_at_call 23; with_reducible refine (ko w8).mono ?_; rintro e w9 ⟨rfl, g9⟩))
        all_goals
          go_roundg (m1 - (k + 1))
          case measure => omega
          case rel => exact ⟨k + 1, max b N, by omega, rfl, by go_num, vint (by omega), HN.out.1, HN.out.2, bstep (bstep hb2 g8) g9⟩
      · have HB := hid (isMost_one (b := b) HP.out.sor (fun i z hz => H1.out i z (by have := (List.getElem?_eq_some_iff.1 hz).1; rw [HL1.out] at this; omega) hz) H2.out)
        have hrw := hr7.below hb
        go_wp2_with (first
          | (go_at_call 18; with_reducible refine (most_any wr a1 m1 c1 f 1 hrw (by omega) HP.out.sor HP.out.all).mono ?_; rintro e w8 ⟨r8, rfl, hr, _, g8⟩; obtain rfl : b = r8 := isMost_unique HB.out hr)
          | (go_at_call 8; with_reducible refine (awake_any w8).mono ?_; rintro e w9 ⟨rfl, g9⟩))
        go_ret
        exact ⟨rfl, bstep gg7 (bstep (bstep hb g8) g9)⟩
end Go.Proofs.Ytoeeaohgihipgaa
