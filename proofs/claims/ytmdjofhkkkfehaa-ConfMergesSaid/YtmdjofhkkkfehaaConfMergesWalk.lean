/-
  The walk of the statement ConfMerges: for any counters and any row of events it returns true, and nothing that was there has changed.
-/
import Derived.Test.YtmdjofhkkkfehaaB6j
import Derived.Deep.DeepCutAuto
namespace Go.Proofs.Ytmdjofhkkkfehaa
open Go.RowKit Go.Sort
set_option linter.unusedVariables false

theorem sends_any (w : World) (v : Nat) (hv : v < 9) : Calls Try.prog 20 #[.int .u8 (1 + (v : Int))] w fun e w' => e = .returned (.bool (decide (4 ≤ v) && decide (v ≤ 7))) ∧ w = w' := by
  have j1 : decide ((5 : Int) ≤ 1 + (v : Int)) = decide (4 ≤ v) := by rw [Bool.eq_iff_iff]; simp; omega
  have j2 : decide (1 + (v : Int) ≤ 8) = decide (v ≤ 7) := by rw [Bool.eq_iff_iff]; simp; omega
  by_cases h1 : 4 ≤ v <;> by_cases h2 : v ≤ 7
  all_goals
    simp only [h1, h2, decide_true, decide_false] at j1 j2
    simp only [h1, h2, decide_true, decide_false, Bool.and_true, Bool.and_false]
    clear h1 h2
    go_enter Try.func20, Try.ntmps20
    go_wp2
    go_ret
    exact ⟨rfl, rfl⟩

/-- An event of one that is on, by its number. -/
theorem mer_ev {T R : Int} {v : Nat} {T' R' : Int} {o' : Bool} (h0 : 0 ≤ T) (h1 : T ≤ 255) (h2 : 0 ≤ R) (h3 : R ≤ 255) (hv : v < 9) (hT : teA T (1 + v) = T') (hR : reA R (1 + v) = R') (ho : decide (T' > 255) = o') (w : World) :
    Calls Try.prog 10 #[.agg #[.int .i64 T, .int .i64 R, .bool false, .int .i64 0, .int .i64 0], .int .u8 (1 + (v : Int))] w fun e w' => e = .returned (.tuple #[.agg #[.int .i64 T', .int .i64 R', .bool o', .int .i64 0, .int .i64 0], .int .i64 0]) ∧ Below w.heap.size w w' := by
  have hr : riC ⟨T, R, false, 0, 0⟩ = true := ri_mk h0 h1 h2 h3
  have h := event_at (k := 1 + v) (by omega) (ev_on hr (by omega)) (ee_ok hr (by omega)) w
  rw [show ((1 + v : Nat) : Int) = 1 + (v : Int) by omega, hT, hR, ho] at h
  exact h

theorem reA_in {R : Int} {k : Nat} (h2 : 0 ≤ R) (h3 : R ≤ 255) : 0 ≤ reA R k ∧ reA R k ≤ 255 := by
  unfold reA; split <;> (try split) <;> (try split) <;> (try split) <;> omega
theorem teA_in {T : Int} {k : Nat} (h2 : 0 ≤ T) (h3 : T ≤ 255) : 0 ≤ teA T k ∧ teA T k ≤ 263 := by
  unfold teA; split <;> (try split) <;> omega

theorem cell_new_o {w : World} {a : Addr} {v : Value} (h : w.cell? a = some v) (o : Obj) : (w.alloc o).cell? a = some v := by
  rw [(bnew0 w o).cell (block_lt_of_cell h)]; exact h

set_option maxHeartbeats 4000000 in
set_option maxRecDepth 100000 in
theorem confMerges_walk (w : World) (t0 r0 : Int) (o0 : Bool) (n0 m0 : Int) (a : Option Addr) (n c : Nat) (l : List UInt8) (h : RL bv w a n c l) (m1 : n ≤ 9223372036854775807) :
    Calls Try.prog 9 #[.agg #[.int .i64 t0, .int .i64 r0, .bool o0, .int .i64 n0, .int .i64 m0], .slice a n c] w fun e w' => e = .returned (.bool true) ∧ Below w.heap.size w w' := by
  have kB := fun w => begun_any w t0 r0 o0 n0 m0
  obtain ⟨p, hp⟩ : ∃ p, p = min n 60 := ⟨_, rfl⟩
  have hp2 : p ≤ n ∧ p ≤ 60 := by omega
  have hmin : ∀ (ts : Array TypeId) (t : TypeId) (w' : World), (Builtin.min_ ts t #[.int .i64 (n : Int), .int .i64 60]).run Try.prog w' = .ok (.int .i64 (p : Int)) w' := fun ts t w' => by
    rw [run_min_int2]; congr 2; split <;> omega
  clear hp
  obtain ⟨a3, p1, p2, hr3⟩ := run_cutTo tY h .i64 p hp2.1
  go_enter Try.func9, Try.ntmps9
  go_upto_region 2 with (first
    | (go_at_call 19; (with_reducible refine (kB _).mono ?_); rintro e w1 ⟨t, r, o, n', m', rfl, hri, g1⟩; have HRI := hid hri; clear hri; obtain ⟨b1, gg1, _⟩ := one_bx g1; have hB1 : Bc w1 w.heap.size ⟨t0, r0, o0, n0, m0⟩ := b1; obtain ⟨c0, c1, c2, c3, c4, cf⟩ := hB1.all; have hB2 := hB1.set t r o n' m'; have gg2 := below_set5 gg1 (Nat.le_refl _) (.int .i64 t) (.int .i64 r) (.bool o) (.int .i64 n') (.int .i64 m')))
  clear c0 c1 c2 c3 c4 cf
  generalize ((((w1.setCell ⟨w.heap.size, 0, none⟩ (.int .i64 t)).setCell ⟨w.heap.size, 1, none⟩ (.int .i64 r)).setCell ⟨w.heap.size, 2, none⟩ (.bool o)).setCell ⟨w.heap.size, 3, none⟩ (.int .i64 n')).setCell ⟨w.heap.size, 4, none⟩ (.int .i64 m') = w2 at *
  obtain ⟨c0, c1, c2, c3, c4, cf⟩ := hB2.all
  cases o
  rotate_left
  · go_wp2_with (go_at_call 18; (with_reducible refine (awake_any _).mono ?_); rintro e w5 ⟨rfl, g5⟩)
    go_ret
    exact ⟨rfl, bstep gg2 g5⟩
  obtain ⟨q1, q2, q3, q4, q5, q6⟩ := ri_on HRI.out rfl
  dsimp only at q1 q2 q3 q4 q5 q6
  subst q5 q6
  go_upto_region 5 with fail
  have e0 := fun o => cell_new_o c0 o
  have h0 := fun o1 o2 => cell_new_o (e0 o1) o2
  have k0 := fun o1 o2 o3 => cell_new_o (h0 o1 o2) o3
  have e1 := fun o => cell_new_o c1 o
  have h1 := fun o1 o2 => cell_new_o (e1 o1) o2
  have k1 := fun o1 o2 o3 => cell_new_o (h1 o1 o2) o3
  have e2 := fun o => cell_new_o c2 o
  have h2 := fun o1 o2 => cell_new_o (e2 o1) o2
  have k2 := fun o1 o2 o3 => cell_new_o (h2 o1 o2) o3
  have e3 := fun o => cell_new_o c3 o
  have h3 := fun o1 o2 => cell_new_o (e3 o1) o2
  have k3 := fun o1 o2 o3 => cell_new_o (h3 o1 o2) o3
  have e4 := fun o => cell_new_o c4 o
  have h4 := fun o1 o2 => cell_new_o (e4 o1) o2
  have k4 := fun o1 o2 o3 => cell_new_o (h4 o1 o2) o3
  go_cut [6, 7, 8] (fun s6 s7 s8 wx => ∃ g1 g2 g3 : Nat, s6 = .pointer (some ⟨g1, 0, none⟩) ∧ s7 = .pointer (some ⟨g2, 0, none⟩) ∧ s8 = .pointer (some ⟨g3, 0, none⟩) ∧ (w2.heap.size ≤ g1 ∧ w2.heap.size ≤ g2 ∧ w2.heap.size ≤ g3 ∧ g1 ≠ g2 ∧ g1 ≠ g3 ∧ g2 ≠ g3) ∧ Bc wx g1 ⟨t, r, false, 0, 0⟩ ∧ Bc wx g2 ⟨t, r, false, 0, 0⟩ ∧ Bc wx g3 ⟨t, r, false, 0, 0⟩ ∧ Below w2.heap.size w2 wx)
  case first =>
    have b1 : Bc ((((w2.alloc (.cells #[.int .i64 t, .int .i64 r, .bool false, .int .i64 0, .int .i64 0] 23)).alloc (.cells #[.int .i64 t, .int .i64 r, .bool false, .int .i64 0, .int .i64 0] 23)).alloc (.cells #[.int .i64 t, .int .i64 r, .bool false, .int .i64 0, .int .i64 0] 23)).drew) w2.heap.size ⟨t, r, false, 0, 0⟩ := ((Bc.new w2 t r false 0 0).alloc _).alloc _
    have b2 : Bc ((((w2.alloc (.cells #[.int .i64 t, .int .i64 r, .bool false, .int .i64 0, .int .i64 0] 23)).alloc (.cells #[.int .i64 t, .int .i64 r, .bool false, .int .i64 0, .int .i64 0] 23)).alloc (.cells #[.int .i64 t, .int .i64 r, .bool false, .int .i64 0, .int .i64 0] 23)).drew) (w2.heap.size + 1) ⟨t, r, false, 0, 0⟩ := by
      have := (Bc.new (w2.alloc (.cells #[.int .i64 t, .int .i64 r, .bool false, .int .i64 0, .int .i64 0] 23)) t r false 0 0).alloc (.cells #[.int .i64 t, .int .i64 r, .bool false, .int .i64 0, .int .i64 0] 23)
      rw [heap_size_alloc] at this; exact this
    have b3 : Bc ((((w2.alloc (.cells #[.int .i64 t, .int .i64 r, .bool false, .int .i64 0, .int .i64 0] 23)).alloc (.cells #[.int .i64 t, .int .i64 r, .bool false, .int .i64 0, .int .i64 0] 23)).alloc (.cells #[.int .i64 t, .int .i64 r, .bool false, .int .i64 0, .int .i64 0] 23)).drew) (w2.heap.size + 1 + 1) ⟨t, r, false, 0, 0⟩ := by
      have := Bc.new ((w2.alloc (.cells #[.int .i64 t, .int .i64 r, .bool false, .int .i64 0, .int .i64 0] 23)).alloc (.cells #[.int .i64 t, .int .i64 r, .bool false, .int .i64 0, .int .i64 0] 23)) t r false 0 0
      rw [heap_size_alloc, heap_size_alloc] at this; exact this
    have bw : Below w2.heap.size w2 ((((w2.alloc (.cells #[.int .i64 t, .int .i64 r, .bool false, .int .i64 0, .int .i64 0] 23)).alloc (.cells #[.int .i64 t, .int .i64 r, .bool false, .int .i64 0, .int .i64 0] 23)).alloc (.cells #[.int .i64 t, .int .i64 r, .bool false, .int .i64 0, .int .i64 0] 23)).drew) := (bnew (bnew (bnew0 w2 _) _) _).drew
    go_region
    all_goals
      clear e0 e1 e2 e3 e4 h0 h1 h2 h3 h4 k0 k1 k2 k3 k4 c0 c1 c2 c3 c4
      go_wp2
      go_meet
      refine ⟨_, _, _, rfl, rfl, rfl, ?_, ?_, ?_, ?_, bw⟩
      · refine ⟨?_, ?_, ?_, ?_, ?_, ?_⟩ <;> omega
      all_goals first | exact b1 | exact b2 | exact b3
  case rest =>
    obtain ⟨g1, g2, g3, rfl, rfl, rfl, hd, b1, b2, b3, gw⟩ := hcut
    clear e0 e1 e2 e3 e4 h0 h1 h2 h3 h4 k0 k1 k2 k3 k4 c0 c1 c2 c3 c4 cf kB
    have b0 := hB2.below gw
    have hlt0 := hB2.lt
    have gg3 := gg2.trans (gw.mono gg2.size)
    go_wp2
    clear p1 p2 hmin
    go_loopg [25] p (fun gn i wr => ∃ (k : Nat) (T R : Int), k ≤ p ∧ gn = p - k ∧ i = .int .i64 (k : Int) ∧ 0 ≤ T ∧ T ≤ 255 ∧ 0 ≤ R ∧ R ≤ 255 ∧ Bc wr g1 ⟨T, R, false, 0, 0⟩ ∧ Bc wr g2 ⟨T, r, false, 0, 0⟩ ∧ Bc wr g3 ⟨t, R, false, 0, 0⟩ ∧ Bc wr w.heap.size ⟨t, r, false, 0, 0⟩ ∧ Below w.heap.size w wr)
    case atStart => exact ⟨0, t, r, by omega, by omega, rfl, q3, q4, q1, q2, b1, b2, b3, b0, gg3⟩
    case round =>
      clear b0 b1 b2 b3
      obtain ⟨k, T, R, hk, rfl, rfl, hT0, hT1, hR0, hR1, b1, b2, b3, b0, hg⟩ := hrel
      obtain ⟨c0, c1, c2, c3, c4, cf⟩ := b1.all
      obtain ⟨d0, d1, d2, d3, d4, df⟩ := b2.all
      by_cases hlt : k < p
      · obtain ⟨bb, off, u, rfl, _, hu, hcell⟩ := byte_at (hr3.below hg) hlt
        obtain ⟨v, hv⟩ : ∃ v : Nat, v = u % 9 := ⟨_, rfl⟩
        have hv9 : v < 9 := by omega
        have ev : (u : Int) % 9 = (v : Int) := by omega
        clear hv
        obtain ⟨⟨nt1, nt2⟩, ⟨nr1, nr2⟩⟩ := And.intro (teA_in (T := T) (k := 1 + v) hT0 hT1) (reA_in (R := R) (k := 1 + v) hR0 hR1)
        obtain ⟨hd1, hd2, hd3, hd12, hd13, hd23⟩ := hd
        have hlt1 : w.heap.size < g1 := by omega
        have hlt2 : w.heap.size < g2 := by omega
        have hlt3 : w.heap.size < g3 := by omega
        obtain ⟨T', hT'⟩ : ∃ T', teA T (1 + v) = T' := ⟨_, rfl⟩
        obtain ⟨R', hR'⟩ : ∃ R', reA R (1 + v) = R' := ⟨_, rfl⟩
        rw [hT'] at nt1 nt2
        rw [hR'] at nr1 nr2
        by_cases hv4 : 4 ≤ v ∧ v ≤ 7
        · have kS : ∀ w, Calls Try.prog 20 #[.int .u8 (1 + (v : Int))] w fun e w' => e = .returned (.bool true) ∧ w = w' := fun w => by
            have := sends_any w v hv9
            rwa [show (decide (4 ≤ v) && decide (v ≤ 7)) = true by simp; omega] at this
          have hRR : R' = R := by rw [← hR']; exact re_snd (by omega)
          rw [hRR] at hR'
          clear hRR nr1 nr2
          obtain ⟨oo, hoo⟩ : ∃ oo, decide (T' > 255) = oo := ⟨_, rfl⟩
          have kE1 := mer_ev hT0 hT1 hR0 hR1 hv9 hT' hR' hoo
          have kE2 := mer_ev hT0 hT1 q1 q2 hv9 hT' (re_snd (r := r) (by omega)) hoo
          clear hT' hR'
          cases oo
          · have hT2 : T' ≤ 255 := by simp at hoo; omega
            clear hoo
            go_wp2_with (first
              | (go_at_call 10; (with_reducible refine (kE1 _).mono ?_); rintro e w1 ⟨rfl, g01⟩; clear c0 c1 c2 c3 c4 cf d0 d1 d2 d3 d4 df hcell; obtain ⟨c0, c1, c2, c3, c4, cf⟩ := (b1.below g01).all; have x1 := (b1.below g01).set T' R false 0 0; have x2 := (b2.below g01).other (g := g1) (by omega) (.int .i64 T') (.int .i64 R) (.bool false) (.int .i64 0) (.int .i64 0); have x3 := (b3.below g01).other (g := g1) (by omega) (.int .i64 T') (.int .i64 R) (.bool false) (.int .i64 0) (.int .i64 0); have x0 := (b0.below g01).other (g := g1) (by omega) (.int .i64 T') (.int .i64 R) (.bool false) (.int .i64 0) (.int .i64 0); have xg := below_set5 (bstep hg g01) (g := g1) (by omega) (.int .i64 T') (.int .i64 R) (.bool false) (.int .i64 0) (.int .i64 0); obtain ⟨d0, d1, d2, d3, d4, df⟩ := x2.all)
              | (go_at_call 20; (with_reducible refine (kS _).mono ?_); rintro e w2 ⟨rfl, rfl⟩)
              | (go_at_call 10; (with_reducible refine (kE2 _).mono ?_); rintro e w3 ⟨rfl, g03⟩; clear c0 c1 c2 c3 c4 cf d0 d1 d2 d3 d4 df; obtain ⟨d0, d1, d2, d3, d4, df⟩ := (x2.below g03).all; have y2 := (x2.below g03).set T' r false 0 0; have y1 := (x1.below g03).other (g := g2) (by omega) (.int .i64 T') (.int .i64 r) (.bool false) (.int .i64 0) (.int .i64 0); have y3 := (x3.below g03).other (g := g2) (by omega) (.int .i64 T') (.int .i64 r) (.bool false) (.int .i64 0) (.int .i64 0); have y0 := (x0.below g03).other (g := g2) (by omega) (.int .i64 T') (.int .i64 r) (.bool false) (.int .i64 0) (.int .i64 0); have yg := below_set5 (bstep xg g03) (g := g2) (by omega) (.int .i64 T') (.int .i64 r) (.bool false) (.int .i64 0) (.int .i64 0); obtain ⟨c0, c1, c2, c3, c4, cf⟩ := y1.all))
            go_roundg (p - (k + 1))
            case measure => omega
            case rel => exact ⟨k + 1, _, _, by omega, rfl, by go_num, nt1, hT2, hR0, hR1, y1, y2, y3, y0, yg⟩
          · clear hoo
            go_wp2_with (first
              | (go_at_call 10; (with_reducible refine (kE1 _).mono ?_); rintro e w1 ⟨rfl, g01⟩; clear c0 c1 c2 c3 c4 cf d0 d1 d2 d3 d4 df hcell; obtain ⟨c0, c1, c2, c3, c4, cf⟩ := (b1.below g01).all; have x1 := (b1.below g01).set T' R true 0 0; have x2 := (b2.below g01).other (g := g1) (by omega) (.int .i64 T') (.int .i64 R) (.bool true) (.int .i64 0) (.int .i64 0); have xg := below_set5 (bstep hg g01) (g := g1) (by omega) (.int .i64 T') (.int .i64 R) (.bool true) (.int .i64 0) (.int .i64 0); obtain ⟨d0, d1, d2, d3, d4, df⟩ := x2.all)
              | (go_at_call 20; (with_reducible refine (kS _).mono ?_); rintro e w2 ⟨rfl, rfl⟩)
              | (go_at_call 10; (with_reducible refine (kE2 _).mono ?_); rintro e w3 ⟨rfl, g03⟩; clear c0 c1 c2 c3 c4 cf d0 d1 d2 d3 d4 df; obtain ⟨d0, d1, d2, d3, d4, df⟩ := (x2.below g03).all; have y1 := (x1.below g03).other (g := g2) (by omega) (.int .i64 T') (.int .i64 r) (.bool true) (.int .i64 0) (.int .i64 0); have yg := below_set5 (bstep xg g03) (g := g2) (by omega) (.int .i64 T') (.int .i64 r) (.bool true) (.int .i64 0) (.int .i64 0); obtain ⟨c0, c1, c2, c3, c4, cf⟩ := y1.all)
              | (go_at_call 18; (with_reducible refine (awake_any _).mono ?_); rintro e w5 ⟨rfl, g5⟩))
            go_ret
            exact ⟨rfl, bstep yg g5⟩
        · have kS : ∀ w, Calls Try.prog 20 #[.int .u8 (1 + (v : Int))] w fun e w' => e = .returned (.bool false) ∧ w = w' := fun w => by
            have := sends_any w v hv9
            rwa [show (decide (4 ≤ v) && decide (v ≤ 7)) = false by simp; omega] at this
          have hTT : T' = T := by rw [← hT']; exact te_rec (by omega)
          rw [hTT] at hT'
          clear hTT nt1 nt2
          have kE1 := mer_ev (o' := false) hT0 hT1 hR0 hR1 hv9 hT' hR' (by simp; omega)
          have kE2 := mer_ev (o' := false) q3 q4 hR0 hR1 hv9 (te_rec (t := t) (by omega)) hR' (by simp; omega)
          clear hT' hR'
          go_wp2_with (first
            | (go_at_call 10; (with_reducible refine (kE1 _).mono ?_); rintro e w1 ⟨rfl, g01⟩; clear c0 c1 c2 c3 c4 cf d0 d1 d2 d3 d4 df hcell; obtain ⟨c0, c1, c2, c3, c4, cf⟩ := (b1.below g01).all; have x1 := (b1.below g01).set T R' false 0 0; have x2 := (b2.below g01).other (g := g1) (by omega) (.int .i64 T) (.int .i64 R') (.bool false) (.int .i64 0) (.int .i64 0); have x3 := (b3.below g01).other (g := g1) (by omega) (.int .i64 T) (.int .i64 R') (.bool false) (.int .i64 0) (.int .i64 0); have x0 := (b0.below g01).other (g := g1) (by omega) (.int .i64 T) (.int .i64 R') (.bool false) (.int .i64 0) (.int .i64 0); have xg := below_set5 (bstep hg g01) (g := g1) (by omega) (.int .i64 T) (.int .i64 R') (.bool false) (.int .i64 0) (.int .i64 0); obtain ⟨d0, d1, d2, d3, d4, df⟩ := x3.all)
            | (go_at_call 20; (with_reducible refine (kS _).mono ?_); rintro e w2 ⟨rfl, rfl⟩)
            | (go_at_call 10; (with_reducible refine (kE2 _).mono ?_); rintro e w3 ⟨rfl, g03⟩; clear c0 c1 c2 c3 c4 cf d0 d1 d2 d3 d4 df; obtain ⟨d0, d1, d2, d3, d4, df⟩ := (x3.below g03).all; have y3 := (x3.below g03).set t R' false 0 0; have y1 := (x1.below g03).other (g := g3) (by omega) (.int .i64 t) (.int .i64 R') (.bool false) (.int .i64 0) (.int .i64 0); have y2 := (x2.below g03).other (g := g3) (by omega) (.int .i64 t) (.int .i64 R') (.bool false) (.int .i64 0) (.int .i64 0); have y0 := (x0.below g03).other (g := g3) (by omega) (.int .i64 t) (.int .i64 R') (.bool false) (.int .i64 0) (.int .i64 0); have yg := below_set5 (bstep xg g03) (g := g3) (by omega) (.int .i64 t) (.int .i64 R') (.bool false) (.int .i64 0) (.int .i64 0); obtain ⟨c0, c1, c2, c3, c4, cf⟩ := y1.all; obtain ⟨e0, e1, e2, e3, e4, ef⟩ := y2.all))
          go_roundg (p - (k + 1))
          case measure => omega
          case rel => exact ⟨k + 1, _, _, by omega, rfl, by go_num, hT0, hT1, nr1, nr2, y1, y2, y3, y0, yg⟩
      · obtain ⟨e0, e1, e2, e3, e4, ef⟩ := b3.all
        obtain ⟨f0, f1, f2, f3, f4, ff⟩ := b0.all
        go_wp2_with (go_at_call 18; (with_reducible refine (awake_any _).mono ?_); rintro e w5 ⟨rfl, g5⟩)
        go_ret
        exact ⟨rfl, bstep hg g5⟩
end Go.Proofs.Ytmdjofhkkkfehaa
