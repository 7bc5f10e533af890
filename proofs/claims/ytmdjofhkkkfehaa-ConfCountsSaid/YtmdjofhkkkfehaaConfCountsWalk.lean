/-
  The walk of the statement ConfCounts: for any numbers of events it returns true, and nothing that was there has changed.
-/
import Derived.Test.YtmdjofhkkkfehaaB6j
namespace Go.Proofs.Ytmdjofhkkkfehaa
open Go.RowKit Go.Sort
set_option linter.unusedVariables false

set_option maxHeartbeats 4000000 in
theorem confCounts_walk (w : World) (u1 u2 u3 u4 : Nat) (h1 : u1 < 256) (h2 : u2 < 256) (h3 : u3 < 256) (h4 : u4 < 256) :
    Calls Try.prog 6 #[.int .u8 (u1 : Int), .int .u8 (u2 : Int), .int .u8 (u3 : Int), .int .u8 (u4 : Int)] w fun e w' => e = .returned (.bool true) ∧ Below w.heap.size w w' := by
  obtain ⟨a, ha⟩ : ∃ a : Nat, a = u1 % 41 := ⟨_, rfl⟩
  obtain ⟨b, hb⟩ : ∃ b : Nat, b = u2 % 41 := ⟨_, rfl⟩
  obtain ⟨x, hx⟩ : ∃ x : Nat, x = u3 % 31 := ⟨_, rfl⟩
  obtain ⟨y, hy⟩ : ∃ y : Nat, y = u4 % 41 := ⟨_, rfl⟩
  have ea : (u1 : Int) % 41 = (a : Int) := by omega
  have eb : (u2 : Int) % 41 = (b : Int) := by omega
  have ex : (u3 : Int) % 31 = (x : Int) := by omega
  have ey : (u4 : Int) % 41 = (y : Int) := by omega
  have a1 : a < 41 := by omega
  have b1 : b < 41 := by omega
  have x1 : x < 31 := by omega
  have y1 : y < 41 := by omega
  clear ha hb hx hy
  go_enter Try.func6, Try.ntmps6
  go_wp2
  clear ea eb ex ey
  go_loopg [27] a (fun gn i wr => ∃ (j : Nat) (T R : Int), j ≤ a ∧ gn = a - j ∧ i = .int .i64 (j : Int) ∧ T = 0 ∧ R = ((j : Nat) : Int) ∧ Bc wr w.heap.size ⟨T, R, false, 0, 0⟩ ∧ Below w.heap.size w wr)
  case atStart => exact ⟨0, 0, 0, by omega, by omega, rfl, rfl, rfl, Bc.new w 0 0 false 0 0, bnew0 w _⟩
  case round =>
    obtain ⟨j, T, R, hj, rfl, rfl, hT, hR, hB, hg⟩ := hrel
    obtain ⟨c0, c1, c2, c3, c4, cf⟩ := hB.all
    by_cases hlt : j < a
    · obtain ⟨T', hT'⟩ : ∃ T' : Int, T' = T := ⟨_, rfl⟩
      obtain ⟨R', hR'⟩ : ∃ R' : Int, R' = R + 1 := ⟨_, rfl⟩
      have kE := cnt1 T R (by omega) (by omega) (by omega) (by omega)
      have HT : Hid (T' = 0) := by show T' = _; omega
      have HR : Hid (R' = (((j + 1) : Nat) : Int)) := by show R' = _; omega
      rw [← hR'] at kE
      obtain rfl := hT'
      clear hR'
      clear hT hR
      go_wp2_with (go_at_call 10; (with_reducible refine (kE _).mono ?_); rintro e w5 ⟨rfl, g5⟩; clear c0 c1 c2 c3 c4 cf; have hB5 := hB.below g5; have gg5 := bstep hg g5; obtain ⟨c0, c1, c2, c3, c4, cf⟩ := hB5.all)
      go_roundg (a - (j + 1))
      case measure => omega
      case rel => exact ⟨j + 1, _, _, by omega, rfl, by go_num, HT.out, HR.out, hB5.set _ _ _ _ _, below_set5 gg5 (by omega) _ _ _ _ _⟩
    · obtain rfl : a = j := by omega
      obtain ⟨wa, rfl⟩ : ∃ wa, wa = wr := ⟨_, rfl⟩
      obtain ⟨Twa, rfl⟩ : ∃ Twa, Twa = T := ⟨_, rfl⟩
      obtain ⟨Rwa, rfl⟩ : ∃ Rwa, Rwa = R := ⟨_, rfl⟩
      have HTwa := hid hT; have HRwa := hid hR
      clear hT hR
      have HJa : Hid (Rwa = (a : Int)) := HRwa
      have hBa := hB; have hga := hg
      go_wp2
      clear c0 c1 c2 c3 c4 cf
      go_loopg [36] b (fun gn i wr => ∃ (j : Nat) (T R : Int), j ≤ b ∧ gn = b - j ∧ i = .int .i64 (j : Int) ∧ T = Twa ∧ R = ((a - j : Nat) : Int) ∧ Bc wr w.heap.size ⟨T, R, false, 0, 0⟩ ∧ Below w.heap.size w wr)
      case atStart => exact ⟨0, _, _, by omega, by omega, rfl, rfl, by have := HRwa.out; omega, hBa, hga⟩
      case round =>
        obtain ⟨j, T, R, hj, rfl, rfl, hT, hR, hB, hg⟩ := hrel
        obtain ⟨c0, c1, c2, c3, c4, cf⟩ := hB.all
        by_cases hlt : j < b
        · obtain ⟨T', hT'⟩ : ∃ T' : Int, T' = T := ⟨_, rfl⟩
          obtain ⟨R', hR'⟩ : ∃ R' : Int, R' = max (R - 1) 0 := ⟨_, rfl⟩
          have kE := cnt9 T R (max (R - 1) 0) (by have := HTwa.out; omega) (by have := HTwa.out; omega) (by omega) (by omega) rfl
          have HT : Hid (T' = Twa) := by show T' = _; omega
          have HR : Hid (R' = ((a - (j + 1) : Nat) : Int)) := by show R' = _; omega
          rw [← hR'] at kE
          obtain rfl := hT'
          clear hR'
          clear hT hR
          go_wp2_with (go_at_call 10; (with_reducible refine (kE _).mono ?_); rintro e w5 ⟨rfl, g5⟩; clear c0 c1 c2 c3 c4 cf; have hB5 := hB.below g5; have gg5 := bstep hg g5; obtain ⟨c0, c1, c2, c3, c4, cf⟩ := hB5.all)
          go_roundg (b - (j + 1))
          case measure => omega
          case rel => exact ⟨j + 1, _, _, by omega, rfl, by go_num, HT.out, HR.out, hB5.set _ _ _ _ _, below_set5 gg5 (by omega) _ _ _ _ _⟩
        · obtain rfl : b = j := by omega
          obtain ⟨wb, rfl⟩ : ∃ wb, wb = wr := ⟨_, rfl⟩
          obtain ⟨Twb, rfl⟩ : ∃ Twb, Twb = T := ⟨_, rfl⟩
          obtain ⟨Rwb, rfl⟩ : ∃ Rwb, Rwb = R := ⟨_, rfl⟩
          have HTwb := hid hT; have HRwb := hid hR
          clear hT hR
          have hBb := hB; have hgb := hg
          go_wp2
          clear c0 c1 c2 c3 c4 cf
          go_loopg [45] x (fun gn i wr => ∃ (j : Nat) (T R : Int), j ≤ x ∧ gn = x - j ∧ i = .int .i64 (j : Int) ∧ T = ((8 * j : Nat) : Int) ∧ R = Rwb ∧ Bc wr w.heap.size ⟨T, R, false, 0, 0⟩ ∧ Below w.heap.size w wr)
          case atStart => exact ⟨0, _, _, by omega, by omega, rfl, by have := HTwa.out; have := HTwb.out; omega, rfl, hBb, hgb⟩
          case round =>
            obtain ⟨j, T, R, hj, rfl, rfl, hT, hR, hB, hg⟩ := hrel
            obtain ⟨c0, c1, c2, c3, c4, cf⟩ := hB.all
            by_cases hlt : j < x
            · obtain ⟨T', hT'⟩ : ∃ T' : Int, T' = T + 8 := ⟨_, rfl⟩
              obtain ⟨R', hR'⟩ : ∃ R' : Int, R' = R := ⟨_, rfl⟩
              have kE := cnt5 T R (by omega) (by omega) (by have := HRwb.out; omega) (by have := HRwb.out; omega)
              have HT : Hid (T' = ((8 * (j + 1) : Nat) : Int)) := by show T' = _; omega
              have HR : Hid (R' = Rwb) := by show R' = _; omega
              rw [← hT'] at kE
              clear hT'
              obtain rfl := hR'
              clear hT hR
              go_wp2_with (go_at_call 10; (with_reducible refine (kE _).mono ?_); rintro e w5 ⟨rfl, g5⟩; clear c0 c1 c2 c3 c4 cf; have hB5 := hB.below g5; have gg5 := bstep hg g5; obtain ⟨c0, c1, c2, c3, c4, cf⟩ := hB5.all)
              go_roundg (x - (j + 1))
              case measure => omega
              case rel => exact ⟨j + 1, _, _, by omega, rfl, by go_num, HT.out, HR.out, hB5.set _ _ _ _ _, below_set5 gg5 (by omega) _ _ _ _ _⟩
            · obtain rfl : x = j := by omega
              obtain ⟨wc, rfl⟩ : ∃ wc, wc = wr := ⟨_, rfl⟩
              obtain ⟨Twc, rfl⟩ : ∃ Twc, Twc = T := ⟨_, rfl⟩
              obtain ⟨Rwc, rfl⟩ : ∃ Rwc, Rwc = R := ⟨_, rfl⟩
              have HTwc := hid hT; have HRwc := hid hR
              clear hT hR
              have hBc := hB; have hgc := hg
              go_wp2
              clear c0 c1 c2 c3 c4 cf
              go_loopg [54] y (fun gn i wr => ∃ (j : Nat) (T R : Int), j ≤ y ∧ gn = y - j ∧ i = .int .i64 (j : Int) ∧ T = ((8 * x - j : Nat) : Int) ∧ R = Rwb ∧ Bc wr w.heap.size ⟨T, R, false, 0, 0⟩ ∧ Below w.heap.size w wr)
              case atStart => exact ⟨0, _, _, by omega, by omega, rfl, by have := HTwc.out; omega, by have := HRwc.out; exact this, hBc, hgc⟩
              case round =>
                obtain ⟨j, T, R, hj, rfl, rfl, hT, hR, hB, hg⟩ := hrel
                obtain ⟨c0, c1, c2, c3, c4, cf⟩ := hB.all
                by_cases hlt : j < y
                · obtain ⟨T', hT'⟩ : ∃ T' : Int, T' = max (T - 1) 0 := ⟨_, rfl⟩
                  obtain ⟨R', hR'⟩ : ∃ R' : Int, R' = R := ⟨_, rfl⟩
                  have kE := cnt8 T R (max (T - 1) 0) (by omega) (by omega) (by have := HRwb.out; omega) (by have := HRwb.out; omega) rfl
                  have HT : Hid (T' = ((8 * x - (j + 1) : Nat) : Int)) := by show T' = _; omega
                  have HR : Hid (R' = Rwb) := by show R' = _; omega
                  rw [← hT'] at kE
                  clear hT'
                  obtain rfl := hR'
                  clear hT hR
                  go_wp2_with (go_at_call 10; (with_reducible refine (kE _).mono ?_); rintro e w5 ⟨rfl, g5⟩; clear c0 c1 c2 c3 c4 cf; have hB5 := hB.below g5; have gg5 := bstep hg g5; obtain ⟨c0, c1, c2, c3, c4, cf⟩ := hB5.all)
                  go_roundg (y - (j + 1))
                  case measure => omega
                  case rel => exact ⟨j + 1, _, _, by omega, rfl, by go_num, HT.out, HR.out, hB5.set _ _ _ _ _, below_set5 gg5 (by omega) _ _ _ _ _⟩
                · obtain rfl : y = j := by omega
                  obtain ⟨wd, rfl⟩ : ∃ wd, wd = wr := ⟨_, rfl⟩
                  obtain ⟨Twd, rfl⟩ : ∃ Twd, Twd = T := ⟨_, rfl⟩
                  obtain ⟨Rwd, rfl⟩ : ∃ Rwd, Rwd = R := ⟨_, rfl⟩
                  have HTwd := hid hT; have HRwd := hid hR
                  clear hT hR
                  have hTd : Twd = ((8 * x - y : Nat) : Int) := HTwd.out
                  have hRd : Rwd = ((a - b : Nat) : Int) := by have h1 := HRwd.out; have h2 := HRwb.out; rw [h1, h2]
                  have hT2 : 0 ≤ Twd ∧ Twd ≤ 240 := by omega
                  have hR2 : 0 ≤ Rwd ∧ Rwd ≤ 40 := by omega
                  have m1 : ∀ (ts : Array TypeId) (ty : TypeId) (w' : World), (Builtin.max_ ts ty #[.int .i64 ((a : Int) - (b : Int)), .int .i64 0]).run Try.prog w' = .ok (.int .i64 Rwd) w' := fun ts ty w' => by
                    rw [run_max_int2]; congr 2; split <;> omega
                  have m2 : ∀ (ts : Array TypeId) (ty : TypeId) (w' : World), (Builtin.max_ ts ty #[.int .i64 (8 * (x : Int) - (y : Int)), .int .i64 0]).run Try.prog w' = .ok (.int .i64 Twd) w' := fun ts ty w' => by
                    rw [run_max_int2]; congr 2; split <;> omega
                  have gA := toGr wd awake_any
                  obtain ⟨bb, hbb⟩ : ∃ bb : Bool, bb = decide (127 < Twd) := ⟨_, rfl⟩
                  have gM : ∃ q : Nat, ((q : Int) == 1) = bb ∧ ∀ w, Calls Try.prog 14 #[.agg #[.int .i64 Twd, .int .i64 Rwd, .bool false, .int .i64 0, .int .i64 0]] w fun e w' => e = .returned (.int .u8 (q : Int)) ∧ Below w.heap.size w w' := by
                    by_cases hh : 127 < Twd
                    · exact ⟨1, by rw [hbb, decide_eq_true hh]; rfl, fun w => mode_at (mo_passive (by omega) (by omega) (by omega) (by omega) (by omega)) w⟩
                    · exact ⟨0, by rw [hbb, decide_eq_false hh]; rfl, fun w => mode_at (mo_active (by omega) (by omega) (by omega) (by omega)) w⟩
                  obtain ⟨q, hq, kM⟩ := gM
                  have gM := toGr wd kM
                  clear kM hTd hRd HTwa HRwa HTwb HRwb HTwc HRwc HTwd HRwd HJa
                  obtain ⟨d0, d1, d2, d3, d4⟩ := hB.gr
                  clear c0 c1 c2 c3 c4 cf
                  have hbb' : decide (127 < Twd) = bb := hbb.symm
                  clear hbb
                  go_wp2
                  refine wp_region_quiet_below (by kernel_rfl) (by kernel_rfl) ?_
                  repeat (go_big_quiet_step (first
                    | (go_at_call 14; with_reducible exact gM _ _)
                    | (go_at_call 18; with_reducible exact gA _ _)))
                  refine wpQuiet_nil ?_
                  intro w9 hw9
                  have gg : Below wd.heap.size wd w9 := by obtain ⟨p9, rfl⟩ := hw9; exact below_regrown _ _ _
                  clear hw9
                  go_wp2
                  go_ret
                  exact ⟨rfl, bstep hg gg⟩
end Go.Proofs.Ytmdjofhkkkfehaa
