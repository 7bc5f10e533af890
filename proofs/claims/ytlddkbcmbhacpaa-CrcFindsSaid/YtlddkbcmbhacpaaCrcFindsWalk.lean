/-
  The walk of the statement CrcFinds: for any bits, any burst and any places it returns true, and nothing that was there has changed.
-/
import Derived.Test.YtlddkbcmbhacpaaB3e
import Derived.Test.YtlddkbcmbhacpaaM3b
import Derived.BigGuard
import Derived.Deep.Light
import Derived.Laws.Small
import Derived.WalkSmall
namespace Go.Proofs.Ytlddkbcmbhacpaa
open Go.RowKit
set_option linter.unusedVariables false

theorem tU : ElT Try.prog 31 23 (.int .u16 0) 2 := ⟨by kernel_rfl, by kernel_rfl, by kernel_rfl, by kernel_rfl, by kernel_rfl⟩

/-- What holds while a burst is turned about: the copy's bits, and whether any was. -/
structure Burst (l b : List Bool) (k i : Nat) (m : List Bool) (t : Bool) : Prop where
  bits : m = mkL l.length (fun j => (l[j]?.getD false) != tuB b k i j)
  yes : t = true → ∃ j, j < l.length ∧ tuB b k i j = true
  no : t = false → ∀ j, j < l.length → tuB b k i j = false

theorem Burst.start (l b : List Bool) (k : Nat) : Burst l b k 0 l false :=
  ⟨(suV_calm (fun j _ => tuB_zero b k j)).symm, fun h => by simp at h, fun _ j _ => tuB_zero b k j⟩

theorem Burst.skip {l b : List Bool} {k i : Nat} {m : List Bool} {t x : Bool} (h : Burst l b k i m t) (hx : b[i]? = some x) (hn : ¬ (i < 15 ∧ x = true ∧ k + i < l.length)) : Burst l b k (i + 1) m t := by
  have hs := tuB_skip (k := k) (n := l.length) hx hn
  refine ⟨?_, fun ht => ?_, fun ht j hj => ?_⟩
  · rw [h.bits]; exact mkL_congr (fun j hj => by rw [hs j hj])
  · obtain ⟨j, hj, e⟩ := h.yes ht
    exact ⟨j, hj, by rw [hs j hj]; exact e⟩
  · rw [hs j hj]; exact h.no ht j hj

theorem Burst.get {l b : List Bool} {k i : Nat} {m : List Bool} {t : Bool} (h : Burst l b k i m t) (hk : k + i < l.length) : m[k + i]? = some (l[k + i]?.getD false) := by
  rw [h.bits, mkL_get _ hk, tuB_new]; simp

theorem Burst.turn {l b : List Bool} {k i : Nat} {m : List Bool} {t v : Bool} (h : Burst l b k i m t) (hx : b[i]? = some true) (h15 : i < 15) (hk : k + i < l.length) (hv : m[k + i]? = some v) : Burst l b k (i + 1) (m.set (k + i) (!v)) true := by
  have hat : tuB b k (i + 1) (k + i) = true := by rw [tuB_at hx, decide_eq_true h15]; rfl
  refine ⟨?_, fun _ => ⟨k + i, hk, hat⟩, fun ht => by simp at ht⟩
  have hg := h.get hk
  rw [hv] at hg
  simp only [Option.some.injEq] at hg
  rw [h.bits, mkL_set]
  refine mkL_congr (fun j hj => ?_)
  by_cases e : j = k + i
  · subst e; rw [if_pos rfl, hat, hg]; simp
  · rw [if_neg e, tuB_other e]

theorem Burst.sums {l b : List Bool} {k i : Nat} {m : List Bool} {t : Bool} (h : Burst l b k i m t) (hk : k ≤ l.length) : (((suV m).toNat : Int) != ((suV l).toNat : Int)) = t := by
  cases t
  · have e := suV_calm (h.no rfl)
    rw [← h.bits] at e
    rw [e]; simp
  · obtain ⟨j, hj, e⟩ := h.yes rfl
    have hne := suV_turned hk hj e
    rw [← h.bits] at hne
    simp only [bne_iff_ne, ne_eq]
    exact fun e2 => hne (BitVec.eq_of_toNat_eq (by exact_mod_cast e2))

set_option maxHeartbeats 1000000 in
theorem crcFinds_walk (w : World) (a : Option Addr) (n c : Nat) (l : List Bool) (u : Nat) (a2 : Option Addr) (n2 c2 : Nat) (lb : List Bool) (a3 : Option Addr) (n3 c3 : Nat) (lp : List UInt16)
    (h : RL .bool w a n c l) (hu : u < 65536) (h2 : RL .bool w a2 n2 c2 lb) (h3 : RL uv w a3 n3 c3 lp) (m1 : n ≤ 9223372036854775807) (m2 : n2 ≤ 9223372036854775807) (m3 : n3 ≤ 9223372036854775807) :
    Calls Try.prog 6 #[.slice a n c, .int .u16 (u : Int), .slice a2 n2 c2, .slice a3 n3 c3] w fun e w' => e = .returned (.bool true) ∧ Below w.heap.size w w' := by
  by_cases h0 : n = 0
  · subst h0
    go_enter Try.func6, Try.ntmps6
    go_wp2_with (go_at_call 7; refine (awake3_any w).mono ?_; rintro e w1 ⟨rfl, hb1⟩)
    go_ret
    exact ⟨rfl, hb1⟩
  have h00 : ((n : Int) == 0) = false := by simp; omega
  by_cases h1 : 500 < n
  · go_enter Try.func6, Try.ntmps6
    go_wp2_with (go_at_call 7; refine (awake3_any w).mono ?_; rintro e w1 ⟨rfl, hb1⟩)
    go_ret
    exact ⟨rfl, hb1⟩
  obtain ⟨k, hk⟩ : ∃ k, k = u % n := ⟨_, rfl⟩
  have hki : (u : Int) % (n : Int) = (k : Int) := by rw [hk]; norm_cast
  have hkn : k < n := by rw [hk]; exact Nat.mod_lt u (by omega)
  have hln := h.len
  clear hk
  have hn0 : ¬ (n : Int) = 0 := by omega
  go_enter Try.func6, Try.ntmps6
  go_wp2_with (go_at_call 13; refine (anew_any w a n c l h (by omega)).mono ?_; rintro e w1 ⟨a5, c5, rfl, hol5, g1⟩)
  simp only [hki]
  clear hki
  rcases hol5.ex with ⟨_, h9, _⟩ | ⟨g, cur, rfl, hg0, _, _⟩
  · omega
  go_loopg [11, 38] n2 (fun gn t i wr => ∃ (j : Nat) (m : List Bool) (tb : Bool), j ≤ n2 ∧ gn = n2 - j ∧ i = .int .i64 j ∧ t = .bool tb ∧ OL .bool 4 w.heap.size wr (some ⟨g, 0, none⟩) n c5 m ∧ Below w.heap.size w wr ∧ Burst l lb k j m tb)
  case atStart => exact ⟨0, l, false, Nat.zero_le _, rfl, rfl, rfl, hol5, g1, Burst.start _ _ _⟩
  case round =>
    clear hol5 g1
    obtain ⟨j, m, tb, hj, rfl, rfl, rfl, hol, hb, hbu⟩ := hrel
    have HBU := hid hbu; clear hbu
    by_cases hlt : j < n2
    · obtain ⟨b, off, x, rfl, hx, hck⟩ := (h2.below hb).at hlt
      have HX := hid hx; clear hx
      by_cases h15 : j < 15
      · cases x
        · have HN := hid (HBU.out.skip HX.out (by simp))
          go_wp2
          go_roundg (n2 - (j + 1))
          case rel => exact ⟨j + 1, m, tb, by omega, rfl, by go_num, rfl, hol, hb, HN.out⟩
          case measure => omega
        · by_cases hkj : k + j < n
          · obtain ⟨v, hv⟩ : ∃ v, m[k + j]? = some v := ⟨_, HBU.out.get (by omega)⟩
            have HN := hid (HBU.out.turn HX.out h15 (by omega) hv)
            obtain ⟨hcv, hfv⟩ := hol.cellAt hv
            clear hv
            have i1 : (k : Int) + (j : Int) < (n : Int) := by omega
            go_wp2
            go_roundg (n2 - (j + 1))
            case rel => exact ⟨j + 1, _, true, by omega, rfl, by go_num, rfl, hol.set (!v), hb.setCell (p := ⟨g, k + j, none⟩) hg0 _, HN.out⟩
            case measure => omega
          · have HN := hid (HBU.out.skip HX.out (by omega))
            have i1 : ¬ (k : Int) + (j : Int) < (n : Int) := by omega
            go_wp2
            go_roundg (n2 - (j + 1))
            case rel => exact ⟨j + 1, m, tb, by omega, rfl, by go_num, rfl, hol, hb, HN.out⟩
            case measure => omega
      · have HN := hid (HBU.out.skip HX.out (by omega))
        go_wp2
        go_roundg (n2 - (j + 1))
        case rel => exact ⟨j + 1, m, tb, by omega, rfl, by go_num, rfl, hol, hb, HN.out⟩
        case measure => omega
    · obtain rfl : j = n2 := by omega
      obtain ⟨S0, hS0⟩ : ∃ S0, S0 = (suV l).toNat := ⟨_, rfl⟩
      obtain ⟨S1, hS1⟩ : ∃ S1, S1 = (suV m).toNat := ⟨_, rfl⟩
      have hsu := HBU.out.sums (by omega)
      rw [← hS0, ← hS1] at hsu
      have HS0 := hid hS0; have HS1 := hid hS1
      obtain ⟨p, hp⟩ : ∃ p, p = min n3 31 := ⟨_, rfl⟩
      have hp3 : p ≤ n3 ∧ p ≤ 31 := by omega
      have hmin : ∀ (ts : Array TypeId) (t : TypeId) (w' : World), (Builtin.min_ ts t #[.int .i64 (n3 : Int), .int .i64 31]).run Try.prog w' = .ok (.int .i64 (p : Int)) w' := fun ts t w' => by
        rw [run_min_int2]; congr 2; split <;> omega
      have hl2 := h.below hb
      obtain ⟨a7, q1, q2, hr7⟩ := run_cutTo tU h3 .i64 p hp3.1
      clear hS0 hS1 hp
      go_wp2_with (first
        | (go_at_call 8; (with_reducible refine (sum_any wr (some ⟨g, 0, none⟩) n c5 m hol.rl (by omega)).mono ?_); rw [← HS1.out]; rintro e w3 ⟨rfl, g3'⟩; have g3 := bstep hb g3'; have hl3 := h.below g3; clear g3')
        | (go_at_call 8; (with_reducible refine (sum_any w3 a n c l hl3 (by omega)).mono ?_); rw [← HS0.out]; rintro e w4 ⟨rfl, g4'⟩; have g4 := bstep g3 g4'; have hl4 := h.below g4; clear g4')
        | (go_at_call 13; refine (anew_any w4 a n c l hl4 (by omega)).mono ?_; rintro e w5 ⟨a6, c6, rfl, hol6', g5'⟩; have g5 := bstep g4 g5'; have hol6 := OL.mono hol6' g4.size; clear g5' hol6'))
      clear hmin q1 q2 hol hb hsu hl2 hl3 hl4 g3 g4 HBU HS1
      rcases hol6.ex with ⟨_, h9, _⟩ | ⟨g2, cur2, rfl, hg2, _, _⟩
      · omega
      go_loopg [84] p (fun gn i wr => ∃ (j : Nat) (N : List Bool), j ≤ p ∧ gn = p - j ∧ i = .int .i64 j ∧ OL .bool 4 w.heap.size wr (some ⟨g2, 0, none⟩) n c6 N ∧ Below w.heap.size w wr)
      case atStart => exact ⟨0, l, Nat.zero_le _, rfl, rfl, hol6, g5⟩
      case round =>
        clear hol6
        obtain ⟨j, N, hj, rfl, rfl, hol, hb⟩ := hrel
        by_cases hlt : j < p
        · obtain ⟨b, off, x, rfl, hx, hck⟩ := (hr7.below hb).at hlt
          change wr.cell? ⟨b, off + j, none⟩ = some (.int .u16 (x.toNat : Int)) at hck
          clear hx
          have hx16 := x.toNat_lt
          obtain ⟨y, hy⟩ : ∃ y, y = x.toNat := ⟨_, rfl⟩
          rw [← hy] at hck hx16
          clear hy
          obtain ⟨q, hq⟩ : ∃ q, q = y % n := ⟨_, rfl⟩
          have hqi : (y : Int) % (n : Int) = (q : Int) := by rw [hq]; norm_cast
          have hqn : q < n := by rw [hq]; exact Nat.mod_lt y (by omega)
          clear hq
          obtain ⟨v, hv⟩ : ∃ v, N[q]? = some v := ⟨N[q]'(by rw [hol.len]; exact hqn), by simp [hol.len, hqn]⟩
          obtain ⟨hcv, hfv⟩ := hol.cellAt hv
          clear hv
          go_wp2
          go_roundg (p - (j + 1))
          case measure => omega
          case rel => exact ⟨j + 1, _, by omega, rfl, by go_num, hol.set (!v), hb.setCell (p := ⟨g2, q, none⟩) hg2 _⟩
        · obtain rfl : j = p := by omega
          have hxl : (xoL l N).length = n := by rw [xoL_len (by rw [hol.len]; exact hln), hln]
          go_wp2
          go_loopg [15, 104] n (fun gn o i wr => ∃ t od : Nat, t ≤ n ∧ gn = n - t ∧ i = .int .i64 t ∧ o = .int .i64 od ∧ od ≤ t ∧ od = trL ((xoL l N).take t) ∧ OL .bool 4 w.heap.size wr (some ⟨g2, 0, none⟩) n c6 N ∧ Below w.heap.size w wr)
          case atStart => exact ⟨0, 0, Nat.zero_le _, rfl, rfl, rfl, Nat.le_refl _, rfl, hol, hb⟩
          case round =>
            clear hol hb
            obtain ⟨t, od, ht, rfl, rfl, rfl, hot, hod, hol, hb⟩ := hrel
            have HOD := hid hod; clear hod
            by_cases htn : t < n
            · obtain ⟨b1, off1, x, rfl, hx, hck⟩ := (h.below hb).at htn
              obtain ⟨v, hv⟩ : ∃ v, N[t]? = some v := ⟨N[t]'(by rw [hol.len]; exact htn), by simp [hol.len, htn]⟩
              have hcv := (hol.cellAt hv).1
              have HN : Hid (trL ((xoL l N).take (t + 1)) = od + (x != v).toNat) := by
                show _ = _
                rw [trL_snoc (xoL_get hx hv), HOD.out]
              clear hx hv
              cases x <;> cases v
              all_goals
                go_wp2_with fail
                go_big_quiet (fail)
                go_wp2
                go_roundg (n - (t + 1))
                case measure => omega
                case rel => first | exact ⟨t + 1, od, by omega, rfl, by go_num, rfl, by omega, by rw [HN.out]; rfl, hol.drewN _, below_drewN hb _⟩ | exact ⟨t + 1, od + 1, by omega, rfl, by go_num, by go_num, by omega, by rw [HN.out]; rfl, hol.drewN _, below_drewN hb _⟩
            · obtain rfl : t = n := by omega
              obtain ⟨S2, hS2⟩ : ∃ S2, S2 = (suV N).toNat := ⟨_, rfl⟩
              have HS2 := hid hS2; clear hS2
              have hodd : (od : Int) % 2 = 0 ∨ (¬ (od : Int) % 2 = 0 ∧ ((S2 : Int) != (S0 : Int)) = true) := by
                rcases Nat.mod_two_eq_zero_or_one od with e | e
                · exact .inl (by omega)
                · refine .inr ⟨by omega, ?_⟩
                  have hne := suV_odd' (l := l) (m := N) (by rw [hol.len]; exact hln) (by rw [HOD.out, List.take_of_length_le (by omega)] at e; omega)
                  simp only [bne_iff_ne, ne_eq]
                  rw [HS2.out, HS0.out]
                  exact fun e2 => hne (BitVec.eq_of_toNat_eq (by exact_mod_cast e2))
              have hlr := h.below hb
              rcases hodd with e1 | ⟨e1, e2⟩
              · have e3 : ((od : Int) % 2 == 0) = true := by simp [e1]
                go_wp2_with (go_at_call 7; refine (awake3_any wr).mono ?_; rintro e w9 ⟨rfl, g9⟩)
                go_ret
                exact ⟨rfl, bstep hb g9⟩
              · have e3 : ((od : Int) % 2 == 0) = false := by simp; omega
                go_wp2_with (first
                  | (go_at_call 8; (with_reducible refine (sum_any wr (some ⟨g2, 0, none⟩) t c6 N hol.rl (by omega)).mono ?_); rw [← HS2.out]; rintro e w7 ⟨rfl, g7'⟩; have g7 := bstep hb g7'; have hl7 := h.below g7; clear g7')
                  | (go_at_call 8; (with_reducible refine (sum_any w7 a t c l hl7 (by omega)).mono ?_); rw [← HS0.out]; rintro e w8 ⟨rfl, g8'⟩; have g8 := bstep g7 g8'; clear g8')
                  | (go_at_call 7; refine (awake3_any w8).mono ?_; rintro e w9 ⟨rfl, g9⟩))
                go_ret
                exact ⟨rfl, bstep g8 g9⟩
end Go.Proofs.Ytlddkbcmbhacpaa
