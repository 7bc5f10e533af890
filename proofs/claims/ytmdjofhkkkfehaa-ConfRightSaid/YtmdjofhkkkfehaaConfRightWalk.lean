/-
  The walk of the statement ConfRight: for any counters and any steps it returns true, and nothing that was there has changed.
-/
import Derived.Test.YtmdjofhkkkfehaaB6k
namespace Go.Proofs.Ytmdjofhkkkfehaa
open Go.RowKit Go.Sort
set_option linter.unusedVariables false

set_option maxHeartbeats 8000000 in
set_option maxRecDepth 100000 in
theorem confRight_walk (w : World) (t0 r0 : Int) (o0 : Bool) (n0 m0 : Int) (a : Option Addr) (n c : Nat) (l : List Stp) (h : RK se 3 w a n c l) (hu : ∀ x ∈ l, x.k < 256 ∧ x.q < 256) (m1 : n ≤ 9223372036854775807) :
    Calls Try.prog 5 #[.agg #[.int .i64 t0, .int .i64 r0, .bool o0, .int .i64 n0, .int .i64 m0], .slice a n c] w fun e w' => e = .returned (.bool true) ∧ Below w.heap.size w w' := by
  have kB := fun w => begun_any w t0 r0 o0 n0 m0
  obtain ⟨p, hp⟩ : ∃ p, p = min n 100 := ⟨_, rfl⟩
  have hp2 : p ≤ n ∧ p ≤ 100 := by omega
  have hmin : ∀ (ts : Array TypeId) (t : TypeId) (w' : World), (Builtin.min_ ts t #[.int .i64 (n : Int), .int .i64 100]).run Try.prog w' = .ok (.int .i64 (p : Int)) w' := fun ts t w' => by
    rw [run_min_int2]; congr 2; split <;> omega
  clear hp
  obtain ⟨a3, p1, p2, hr3⟩ := run_cutToK tS h .i64 p hp2.1
  have HU : Hid (∀ x ∈ l.take p, x.k < 256 ∧ x.q < 256) := fun x hx => hu x (List.mem_of_mem_take hx)
  clear hu
  have hgu := guC
  go_enter Try.func5, Try.ntmps5
  go_wp2_with (first
    | (go_at_call 19; (with_reducible refine (kB _).mono ?_); rintro e w1 ⟨t, r, o, n', m', rfl, hri, g1⟩; have HRI := hid hri; clear hri; obtain ⟨b1, gg1, _⟩ := one_bx g1; have hB1 : Bc w1 w.heap.size ⟨t0, r0, o0, n0, m0⟩ := b1; obtain ⟨c0, c1, c2, c3, c4, cf⟩ := hB1.all; have hB2 := hB1.set t r o n' m'; have gg2 := below_set5 gg1 (Nat.le_refl _) (.int .i64 t) (.int .i64 r) (.bool o) (.int .i64 n') (.int .i64 m'); clear b1 g1))
  clear c0 c1 c2 c3 c4 cf kB hmin hB1 gg1 p1 p2
  generalize ((((w1.setCell ⟨w.heap.size, 0, none⟩ (.int .i64 t)).setCell ⟨w.heap.size, 1, none⟩ (.int .i64 r)).setCell ⟨w.heap.size, 2, none⟩ (.bool o)).setCell ⟨w.heap.size, 3, none⟩ (.int .i64 n')).setCell ⟨w.heap.size, 4, none⟩ (.int .i64 m') = w2 at *
  go_loopg [19] p (fun gn i wr => ∃ (k : Nat) (cc : Cf), k ≤ p ∧ gn = p - k ∧ i = .int .i64 (k : Int) ∧ riC cc = true ∧ Bc wr w.heap.size cc ∧ Below w.heap.size w wr)
  case atStart => exact ⟨0, _, by omega, by omega, rfl, HRI.out, hB2, gg2⟩
  case round =>
    clear HRI hB2 gg2
    obtain ⟨k, ⟨t, r, o, n', m'⟩, hk, rfl, rfl, hri, hB, hg⟩ := hrel
    by_cases hlt : k < p
    rotate_left
    · have HRI := hid hri; clear hri
      go_wp2_with (go_at_call 18; (with_reducible refine (awake_any _).mono ?_); rintro e w5 ⟨rfl, g5⟩)
      go_ret
      exact ⟨rfl, bstep hg g5⟩
    obtain ⟨b, off, ev, x, q, rfl, hx, hbk, hs0, hs1, hs2⟩ := step_at (hr3.below hg) hlt
    obtain ⟨hev, hq⟩ := HU.out _ (List.mem_of_getElem? hx)
    dsimp only at hev hq
    clear hx
    have hgl := hB.lt
    have hne : w.heap.size ≠ wr.heap.size := by omega
    have hne2 : w.heap.size ≠ wr.heap.size + 1 := by omega
    obtain ⟨c0, c1, c2, c3, c4, cf⟩ := hB.all
    have e0 := fun o => cell_new_o c0 o
    have h0 := fun o1 o2 => cell_new_o (e0 o1) o2
    have e1 := fun o => cell_new_o c1 o
    have h1 := fun o1 o2 => cell_new_o (e1 o1) o2
    have e2 := fun o => cell_new_o c2 o
    have h2 := fun o1 o2 => cell_new_o (e2 o1) o2
    have e3 := fun o => cell_new_o c3 o
    have h3 := fun o1 o2 => cell_new_o (e3 o1) o2
    have e4 := fun o => cell_new_o c4 o
    have h4 := fun o1 o2 => cell_new_o (e4 o1) o2
    clear c0 c1 c2 c3 c4 cf
    by_cases hz : ev = 0
    · subst hz
      obtain ⟨cc', hcc⟩ : ∃ cc', biC ⟨t, r, o, n', m'⟩ x = cc' := ⟨_, rfl⟩
      obtain ⟨t2, r2, o2, n2, m2⟩ := cc'
      have hri' : riC ⟨t2, r2, o2, n2, m2⟩ = true := by rw [← hcc]; exact ri_bit hri x
      have kB := bit_at hcc
      have kN := neC t2 r2 o2 n2 m2 t r o n' m'
      have hon : o = false → decide ((⟨t2, r2, o2, n2, m2⟩ : Cf) = ⟨t, r, o, n', m'⟩) = true := fun ho => by
        rw [decide_eq_true]; rw [← hcc, ho]; simp [biC]
      clear hcc hri
      cases o
      · rw [hon rfl] at kN
        clear hon
        have HRI := hid hri'
        clear hri'
        go_upto_region 17 with (first
          | (go_at_call 16; (with_reducible refine (kB _).mono ?_); rintro e w1 ⟨rfl, g1⟩; obtain ⟨s1, v1, gb⟩ := two_bx g1; have hB1 := hB.below gb; have gg1 := bstep hg gb; clear hs0 hs1 hs2 e0 e1 e2 e3 e4 h0 h1 h2 h3 h4; obtain ⟨c0, c1, c2, c3, c4, cf⟩ := hB1.all; have v1' : Bc w1 (wr.heap.size + 1) ⟨t, r, false, n', m'⟩ := v1; obtain ⟨d0, d1, d2, d3, d4, df⟩ := (v1'.other (g := w.heap.size) (by omega) (.int .i64 t2) (.int .i64 r2) (.bool o2) (.int .i64 n2) (.int .i64 m2)).all; obtain ⟨f0, f1, f2⟩ := bx3 ((set5_other (w := w1) (g := w.heap.size) (q := wr.heap.size) (by omega) (.int .i64 t2) (.int .i64 r2) (.bool o2) (.int .i64 n2) (.int .i64 m2)).trans s1); have yB := hB1.set t2 r2 o2 n2 m2; have yg := below_set5 gg1 (Nat.le_refl _) (.int .i64 t2) (.int .i64 r2) (.bool o2) (.int .i64 n2) (.int .i64 m2); obtain ⟨i0, i1, i2, i3, i4, ig⟩ := yB.all))
        clear c0 c1 c2 c3 c4 cf d0 d1 d2 d3 d4 df f0 f1 f2 i0 i1 i2 i3 i4 ig hB1 v1 v1' s1 g1 gb gg1 kB kN
        generalize (((((w1.setCell ⟨w.heap.size, 0, none⟩ (.int .i64 t2)).setCell ⟨w.heap.size, 1, none⟩ (.int .i64 r2)).setCell ⟨w.heap.size, 2, none⟩ (.bool o2)).setCell ⟨w.heap.size, 3, none⟩ (.int .i64 n2)).setCell ⟨w.heap.size, 4, none⟩ (.int .i64 m2)) = W at *
        have hri' := HRI.out
        clear HRI
        have gR := toGr W (right_at hri')
        have gM := toGr W (mode_at (rfl : moC ⟨t2, r2, o2, n2, m2⟩ = moC ⟨t2, r2, o2, n2, m2⟩))
        have hq2 := mo_num hri'
        generalize moC ⟨t2, r2, o2, n2, m2⟩ = qq at gM hq2
        dsimp only at hq2
        obtain ⟨c0, c1, c2, c3, c4⟩ := yB.gr
        have HRI := hid hri'; clear hri'
        refine wp_region_quiet_below (by kernel_rfl) (by kernel_rfl) ?_
        repeat (go_big_quiet_step (first | (go_at_call 12; with_reducible exact gR _ _) | (go_at_call 14; with_reducible exact gM _ _)))
        refine wpQuiet_nil ?_
        intro w9 hw9
        have gg : Below W.heap.size W w9 := by obtain ⟨p9, rfl⟩ := hw9; exact below_regrown _ _ _
        clear hw9 c0 c1 c2 c3 c4 gR gM
        go_wp2
        go_roundg (p - (k + 1))
        case measure => omega
        case rel => exact ⟨k + 1, _, by omega, rfl, by go_num, HRI.out, yB.below gg, bstep yg gg⟩
      · clear kN
        clear hon
        have HRI := hid hri'
        clear hri'
        go_upto_region 17 with (first
          | (go_at_call 16; (with_reducible refine (kB _).mono ?_); rintro e w1 ⟨rfl, g1⟩; obtain ⟨s1, v1, gb⟩ := two_bx g1; have hB1 := hB.below gb; have gg1 := bstep hg gb; clear hs0 hs1 hs2 e0 e1 e2 e3 e4 h0 h1 h2 h3 h4; obtain ⟨c0, c1, c2, c3, c4, cf⟩ := hB1.all; have v1' : Bc w1 (wr.heap.size + 1) ⟨t, r, true, n', m'⟩ := v1; obtain ⟨d0, d1, d2, d3, d4, df⟩ := (v1'.other (g := w.heap.size) (by omega) (.int .i64 t2) (.int .i64 r2) (.bool o2) (.int .i64 n2) (.int .i64 m2)).all; obtain ⟨f0, f1, f2⟩ := bx3 ((set5_other (w := w1) (g := w.heap.size) (q := wr.heap.size) (by omega) (.int .i64 t2) (.int .i64 r2) (.bool o2) (.int .i64 n2) (.int .i64 m2)).trans s1); have yB := hB1.set t2 r2 o2 n2 m2; have yg := below_set5 gg1 (Nat.le_refl _) (.int .i64 t2) (.int .i64 r2) (.bool o2) (.int .i64 n2) (.int .i64 m2); obtain ⟨i0, i1, i2, i3, i4, ig⟩ := yB.all))
        clear c0 c1 c2 c3 c4 cf d0 d1 d2 d3 d4 df f0 f1 f2 i0 i1 i2 i3 i4 ig hB1 v1 v1' s1 g1 gb gg1 kB
        generalize (((((w1.setCell ⟨w.heap.size, 0, none⟩ (.int .i64 t2)).setCell ⟨w.heap.size, 1, none⟩ (.int .i64 r2)).setCell ⟨w.heap.size, 2, none⟩ (.bool o2)).setCell ⟨w.heap.size, 3, none⟩ (.int .i64 n2)).setCell ⟨w.heap.size, 4, none⟩ (.int .i64 m2)) = W at *
        have hri' := HRI.out
        clear HRI
        have gR := toGr W (right_at hri')
        have gM := toGr W (mode_at (rfl : moC ⟨t2, r2, o2, n2, m2⟩ = moC ⟨t2, r2, o2, n2, m2⟩))
        have hq2 := mo_num hri'
        generalize moC ⟨t2, r2, o2, n2, m2⟩ = qq at gM hq2
        dsimp only at hq2
        obtain ⟨c0, c1, c2, c3, c4⟩ := yB.gr
        have HRI := hid hri'; clear hri'
        refine wp_region_quiet_below (by kernel_rfl) (by kernel_rfl) ?_
        repeat (go_big_quiet_step (first | (go_at_call 12; with_reducible exact gR _ _) | (go_at_call 14; with_reducible exact gM _ _)))
        refine wpQuiet_nil ?_
        intro w9 hw9
        have gg : Below W.heap.size W w9 := by obtain ⟨p9, rfl⟩ := hw9; exact below_regrown _ _ _
        clear hw9 c0 c1 c2 c3 c4 gR gM
        go_wp2
        go_roundg (p - (k + 1))
        case measure => omega
        case rel => exact ⟨k + 1, _, by omega, rfl, by go_num, HRI.out, yB.below gg, bstep yg gg⟩
    · have z1 : ((ev : Int) == 0) = false := by simp; omega
      have z2 : ((ev : Int) != 0) = true := by simp; omega
      obtain ⟨cc', hcc⟩ : ∃ cc', evC ⟨t, r, o, n', m'⟩ ev = cc' := ⟨_, rfl⟩
      obtain ⟨t2, r2, o2, n2, m2⟩ := cc'
      have hri' : riC ⟨t2, r2, o2, n2, m2⟩ = true := by rw [← hcc]; exact ri_ev hri ev
      cases o
      rotate_left
      · by_cases h9 : 9 < ev
        · have z3 : decide ((ev : Int) ≤ 9) = false := by simp; omega
          have z4 : decide ((5 : Int) ≤ (ev : Int)) = true := by simp; omega
          have z5 : decide ((ev : Int) ≤ 7) = false := by simp; omega
          have kE := event_at hev hcc (ee_none h9)
          have kN := neC t2 r2 o2 n2 m2 t r true n' m'
          rw [decide_eq_true (by rw [← hcc, ev_none h9])] at kN
          clear hcc hri
          have HRI := hid hri'
          clear hri'
          go_upto_region 17 with (first
            | (go_at_call 10; (with_reducible refine (kE _).mono ?_); rintro e w1 ⟨rfl, g1⟩; obtain ⟨s1, v1, gb⟩ := two_bx g1; have hB1 := hB.below gb; have gg1 := bnew (bstep hg gb) (.cells #[.int .i64 t2, .int .i64 r2, .bool o2, .int .i64 n2, .int .i64 m2] 23); clear hs0 hs1 hs2 e0 e1 e2 e3 e4 h0 h1 h2 h3 h4; have hB2 := hB1.alloc (.cells #[.int .i64 t2, .int .i64 r2, .bool o2, .int .i64 n2, .int .i64 m2] 23); obtain ⟨c0, c1, c2, c3, c4, cf⟩ := hB2.all; have v1' : Bc (w1.alloc (.cells #[.int .i64 t2, .int .i64 r2, .bool o2, .int .i64 n2, .int .i64 m2] 23)) (wr.heap.size + 1) ⟨t, r, true, n', m'⟩ := bx_alloc _ v1; have s2 := bx_alloc (.cells #[.int .i64 t2, .int .i64 r2, .bool o2, .int .i64 n2, .int .i64 m2] 23) s1; obtain ⟨j0, j1, j2⟩ := bx3 s2; obtain ⟨d0, d1, d2, d3, d4, df⟩ := (v1'.other (g := w.heap.size) (by omega) (.int .i64 t2) (.int .i64 r2) (.bool o2) (.int .i64 n2) (.int .i64 m2)).all; obtain ⟨f0, f1, f2⟩ := bx3 ((set5_other (w := w1.alloc (.cells #[.int .i64 t2, .int .i64 r2, .bool o2, .int .i64 n2, .int .i64 m2] 23)) (g := w.heap.size) (q := wr.heap.size) (by omega) (.int .i64 t2) (.int .i64 r2) (.bool o2) (.int .i64 n2) (.int .i64 m2)).trans s2); have yB := hB2.set t2 r2 o2 n2 m2; have yg := below_set5 gg1 (Nat.le_refl _) (.int .i64 t2) (.int .i64 r2) (.bool o2) (.int .i64 n2) (.int .i64 m2); obtain ⟨i0, i1, i2, i3, i4, ig⟩ := yB.all))
          clear c0 c1 c2 c3 c4 cf d0 d1 d2 d3 d4 df f0 f1 f2 i0 i1 i2 i3 i4 ig j0 j1 j2 hB1 hB2 v1 v1' s1 s2 g1 gb gg1 kE kN z3 z4 z5
          generalize ((((((w1.alloc (.cells #[.int .i64 t2, .int .i64 r2, .bool o2, .int .i64 n2, .int .i64 m2] 23)).setCell ⟨w.heap.size, 0, none⟩ (.int .i64 t2)).setCell ⟨w.heap.size, 1, none⟩ (.int .i64 r2)).setCell ⟨w.heap.size, 2, none⟩ (.bool o2)).setCell ⟨w.heap.size, 3, none⟩ (.int .i64 n2)).setCell ⟨w.heap.size, 4, none⟩ (.int .i64 m2)) = W at *
          have hri' := HRI.out
          clear HRI
          have gR := toGr W (right_at hri')
          have gM := toGr W (mode_at (rfl : moC ⟨t2, r2, o2, n2, m2⟩ = moC ⟨t2, r2, o2, n2, m2⟩))
          have hq2 := mo_num hri'
          generalize moC ⟨t2, r2, o2, n2, m2⟩ = qq at gM hq2
          dsimp only at hq2
          obtain ⟨c0, c1, c2, c3, c4⟩ := yB.gr
          have HRI := hid hri'; clear hri'
          refine wp_region_quiet_below (by kernel_rfl) (by kernel_rfl) ?_
          repeat (go_big_quiet_step (first | (go_at_call 12; with_reducible exact gR _ _) | (go_at_call 14; with_reducible exact gM _ _)))
          refine wpQuiet_nil ?_
          intro w9 hw9
          have gg : Below W.heap.size W w9 := by obtain ⟨p9, rfl⟩ := hw9; exact below_regrown _ _ _
          clear hw9 c0 c1 c2 c3 c4 gR gM
          go_wp2
          go_roundg (p - (k + 1))
          case measure => omega
          case rel => exact ⟨k + 1, _, by omega, rfl, by go_num, HRI.out, yB.below gg, bstep yg gg⟩
        · have z3 : decide ((ev : Int) ≤ 9) = true := by simp; omega
          have kE := event_at hev hcc (ee_ok hri (by omega))
          clear hcc hri
          by_cases h5 : 5 ≤ ev
          · have z4 : decide ((5 : Int) ≤ (ev : Int)) = true := by simp; omega
            by_cases h7 : ev ≤ 7
            · have z5 : decide ((ev : Int) ≤ 7) = true := by simp; omega
              have HRI := hid hri'
              clear hri'
              go_upto_region 17 with (first
                | (go_at_call 10; (with_reducible refine (kE _).mono ?_); rintro e w1 ⟨rfl, g1⟩; obtain ⟨s1, v1, gb⟩ := two_bx g1; have hB1 := hB.below gb; have gg1 := bnew (bstep hg gb) (.cells #[.int .i64 t2, .int .i64 r2, .bool o2, .int .i64 n2, .int .i64 m2] 23); clear hs0 hs1 hs2 e0 e1 e2 e3 e4 h0 h1 h2 h3 h4; have hB2 := hB1.alloc (.cells #[.int .i64 t2, .int .i64 r2, .bool o2, .int .i64 n2, .int .i64 m2] 23); obtain ⟨c0, c1, c2, c3, c4, cf⟩ := hB2.all; have v1' : Bc (w1.alloc (.cells #[.int .i64 t2, .int .i64 r2, .bool o2, .int .i64 n2, .int .i64 m2] 23)) (wr.heap.size + 1) ⟨t, r, true, n', m'⟩ := bx_alloc _ v1; have s2 := bx_alloc (.cells #[.int .i64 t2, .int .i64 r2, .bool o2, .int .i64 n2, .int .i64 m2] 23) s1; obtain ⟨j0, j1, j2⟩ := bx3 s2; obtain ⟨d0, d1, d2, d3, d4, df⟩ := (v1'.other (g := w.heap.size) (by omega) (.int .i64 t2) (.int .i64 r2) (.bool o2) (.int .i64 n2) (.int .i64 m2)).all; obtain ⟨f0, f1, f2⟩ := bx3 ((set5_other (w := w1.alloc (.cells #[.int .i64 t2, .int .i64 r2, .bool o2, .int .i64 n2, .int .i64 m2] 23)) (g := w.heap.size) (q := wr.heap.size) (by omega) (.int .i64 t2) (.int .i64 r2) (.bool o2) (.int .i64 n2) (.int .i64 m2)).trans s2); have yB := hB2.set t2 r2 o2 n2 m2; have yg := below_set5 gg1 (Nat.le_refl _) (.int .i64 t2) (.int .i64 r2) (.bool o2) (.int .i64 n2) (.int .i64 m2); obtain ⟨i0, i1, i2, i3, i4, ig⟩ := yB.all))
              clear c0 c1 c2 c3 c4 cf d0 d1 d2 d3 d4 df f0 f1 f2 i0 i1 i2 i3 i4 ig j0 j1 j2 hB1 hB2 v1 v1' s1 s2 g1 gb gg1 kE z3 z4 z5
              generalize ((((((w1.alloc (.cells #[.int .i64 t2, .int .i64 r2, .bool o2, .int .i64 n2, .int .i64 m2] 23)).setCell ⟨w.heap.size, 0, none⟩ (.int .i64 t2)).setCell ⟨w.heap.size, 1, none⟩ (.int .i64 r2)).setCell ⟨w.heap.size, 2, none⟩ (.bool o2)).setCell ⟨w.heap.size, 3, none⟩ (.int .i64 n2)).setCell ⟨w.heap.size, 4, none⟩ (.int .i64 m2)) = W at *
              have hri' := HRI.out
              clear HRI
              have gR := toGr W (right_at hri')
              have gM := toGr W (mode_at (rfl : moC ⟨t2, r2, o2, n2, m2⟩ = moC ⟨t2, r2, o2, n2, m2⟩))
              have hq2 := mo_num hri'
              generalize moC ⟨t2, r2, o2, n2, m2⟩ = qq at gM hq2
              dsimp only at hq2
              obtain ⟨c0, c1, c2, c3, c4⟩ := yB.gr
              have HRI := hid hri'; clear hri'
              refine wp_region_quiet_below (by kernel_rfl) (by kernel_rfl) ?_
              repeat (go_big_quiet_step (first | (go_at_call 12; with_reducible exact gR _ _) | (go_at_call 14; with_reducible exact gM _ _)))
              refine wpQuiet_nil ?_
              intro w9 hw9
              have gg : Below W.heap.size W w9 := by obtain ⟨p9, rfl⟩ := hw9; exact below_regrown _ _ _
              clear hw9 c0 c1 c2 c3 c4 gR gM
              go_wp2
              go_roundg (p - (k + 1))
              case measure => omega
              case rel => exact ⟨k + 1, _, by omega, rfl, by go_num, HRI.out, yB.below gg, bstep yg gg⟩
            · have z5 : decide ((ev : Int) ≤ 7) = false := by simp; omega
              have HRI := hid hri'
              clear hri'
              go_upto_region 17 with (first
                | (go_at_call 10; (with_reducible refine (kE _).mono ?_); rintro e w1 ⟨rfl, g1⟩; obtain ⟨s1, v1, gb⟩ := two_bx g1; have hB1 := hB.below gb; have gg1 := bnew (bstep hg gb) (.cells #[.int .i64 t2, .int .i64 r2, .bool o2, .int .i64 n2, .int .i64 m2] 23); clear hs0 hs1 hs2 e0 e1 e2 e3 e4 h0 h1 h2 h3 h4; have hB2 := hB1.alloc (.cells #[.int .i64 t2, .int .i64 r2, .bool o2, .int .i64 n2, .int .i64 m2] 23); obtain ⟨c0, c1, c2, c3, c4, cf⟩ := hB2.all; have v1' : Bc (w1.alloc (.cells #[.int .i64 t2, .int .i64 r2, .bool o2, .int .i64 n2, .int .i64 m2] 23)) (wr.heap.size + 1) ⟨t, r, true, n', m'⟩ := bx_alloc _ v1; have s2 := bx_alloc (.cells #[.int .i64 t2, .int .i64 r2, .bool o2, .int .i64 n2, .int .i64 m2] 23) s1; obtain ⟨j0, j1, j2⟩ := bx3 s2; obtain ⟨d0, d1, d2, d3, d4, df⟩ := (v1'.other (g := w.heap.size) (by omega) (.int .i64 t2) (.int .i64 r2) (.bool o2) (.int .i64 n2) (.int .i64 m2)).all; obtain ⟨f0, f1, f2⟩ := bx3 ((set5_other (w := w1.alloc (.cells #[.int .i64 t2, .int .i64 r2, .bool o2, .int .i64 n2, .int .i64 m2] 23)) (g := w.heap.size) (q := wr.heap.size) (by omega) (.int .i64 t2) (.int .i64 r2) (.bool o2) (.int .i64 n2) (.int .i64 m2)).trans s2); have yB := hB2.set t2 r2 o2 n2 m2; have yg := below_set5 gg1 (Nat.le_refl _) (.int .i64 t2) (.int .i64 r2) (.bool o2) (.int .i64 n2) (.int .i64 m2); obtain ⟨i0, i1, i2, i3, i4, ig⟩ := yB.all))
              clear c0 c1 c2 c3 c4 cf d0 d1 d2 d3 d4 df f0 f1 f2 i0 i1 i2 i3 i4 ig j0 j1 j2 hB1 hB2 v1 v1' s1 s2 g1 gb gg1 kE z3 z4 z5
              generalize ((((((w1.alloc (.cells #[.int .i64 t2, .int .i64 r2, .bool o2, .int .i64 n2, .int .i64 m2] 23)).setCell ⟨w.heap.size, 0, none⟩ (.int .i64 t2)).setCell ⟨w.heap.size, 1, none⟩ (.int .i64 r2)).setCell ⟨w.heap.size, 2, none⟩ (.bool o2)).setCell ⟨w.heap.size, 3, none⟩ (.int .i64 n2)).setCell ⟨w.heap.size, 4, none⟩ (.int .i64 m2)) = W at *
              have hri' := HRI.out
              clear HRI
              have gR := toGr W (right_at hri')
              have gM := toGr W (mode_at (rfl : moC ⟨t2, r2, o2, n2, m2⟩ = moC ⟨t2, r2, o2, n2, m2⟩))
              have hq2 := mo_num hri'
              generalize moC ⟨t2, r2, o2, n2, m2⟩ = qq at gM hq2
              dsimp only at hq2
              obtain ⟨c0, c1, c2, c3, c4⟩ := yB.gr
              have HRI := hid hri'; clear hri'
              refine wp_region_quiet_below (by kernel_rfl) (by kernel_rfl) ?_
              repeat (go_big_quiet_step (first | (go_at_call 12; with_reducible exact gR _ _) | (go_at_call 14; with_reducible exact gM _ _)))
              refine wpQuiet_nil ?_
              intro w9 hw9
              have gg : Below W.heap.size W w9 := by obtain ⟨p9, rfl⟩ := hw9; exact below_regrown _ _ _
              clear hw9 c0 c1 c2 c3 c4 gR gM
              go_wp2
              go_roundg (p - (k + 1))
              case measure => omega
              case rel => exact ⟨k + 1, _, by omega, rfl, by go_num, HRI.out, yB.below gg, bstep yg gg⟩
          · have z4 : decide ((5 : Int) ≤ (ev : Int)) = false := by simp; omega
            have HRI := hid hri'
            clear hri'
            go_upto_region 17 with (first
              | (go_at_call 10; (with_reducible refine (kE _).mono ?_); rintro e w1 ⟨rfl, g1⟩; obtain ⟨s1, v1, gb⟩ := two_bx g1; have hB1 := hB.below gb; have gg1 := bnew (bstep hg gb) (.cells #[.int .i64 t2, .int .i64 r2, .bool o2, .int .i64 n2, .int .i64 m2] 23); clear hs0 hs1 hs2 e0 e1 e2 e3 e4 h0 h1 h2 h3 h4; have hB2 := hB1.alloc (.cells #[.int .i64 t2, .int .i64 r2, .bool o2, .int .i64 n2, .int .i64 m2] 23); obtain ⟨c0, c1, c2, c3, c4, cf⟩ := hB2.all; have v1' : Bc (w1.alloc (.cells #[.int .i64 t2, .int .i64 r2, .bool o2, .int .i64 n2, .int .i64 m2] 23)) (wr.heap.size + 1) ⟨t, r, true, n', m'⟩ := bx_alloc _ v1; have s2 := bx_alloc (.cells #[.int .i64 t2, .int .i64 r2, .bool o2, .int .i64 n2, .int .i64 m2] 23) s1; obtain ⟨j0, j1, j2⟩ := bx3 s2; obtain ⟨d0, d1, d2, d3, d4, df⟩ := (v1'.other (g := w.heap.size) (by omega) (.int .i64 t2) (.int .i64 r2) (.bool o2) (.int .i64 n2) (.int .i64 m2)).all; obtain ⟨f0, f1, f2⟩ := bx3 ((set5_other (w := w1.alloc (.cells #[.int .i64 t2, .int .i64 r2, .bool o2, .int .i64 n2, .int .i64 m2] 23)) (g := w.heap.size) (q := wr.heap.size) (by omega) (.int .i64 t2) (.int .i64 r2) (.bool o2) (.int .i64 n2) (.int .i64 m2)).trans s2); have yB := hB2.set t2 r2 o2 n2 m2; have yg := below_set5 gg1 (Nat.le_refl _) (.int .i64 t2) (.int .i64 r2) (.bool o2) (.int .i64 n2) (.int .i64 m2); obtain ⟨i0, i1, i2, i3, i4, ig⟩ := yB.all))
            clear c0 c1 c2 c3 c4 cf d0 d1 d2 d3 d4 df f0 f1 f2 i0 i1 i2 i3 i4 ig j0 j1 j2 hB1 hB2 v1 v1' s1 s2 g1 gb gg1 kE z3 z4
            generalize ((((((w1.alloc (.cells #[.int .i64 t2, .int .i64 r2, .bool o2, .int .i64 n2, .int .i64 m2] 23)).setCell ⟨w.heap.size, 0, none⟩ (.int .i64 t2)).setCell ⟨w.heap.size, 1, none⟩ (.int .i64 r2)).setCell ⟨w.heap.size, 2, none⟩ (.bool o2)).setCell ⟨w.heap.size, 3, none⟩ (.int .i64 n2)).setCell ⟨w.heap.size, 4, none⟩ (.int .i64 m2)) = W at *
            have hri' := HRI.out
            clear HRI
            have gR := toGr W (right_at hri')
            have gM := toGr W (mode_at (rfl : moC ⟨t2, r2, o2, n2, m2⟩ = moC ⟨t2, r2, o2, n2, m2⟩))
            have hq2 := mo_num hri'
            generalize moC ⟨t2, r2, o2, n2, m2⟩ = qq at gM hq2
            dsimp only at hq2
            obtain ⟨c0, c1, c2, c3, c4⟩ := yB.gr
            have HRI := hid hri'; clear hri'
            refine wp_region_quiet_below (by kernel_rfl) (by kernel_rfl) ?_
            repeat (go_big_quiet_step (first | (go_at_call 12; with_reducible exact gR _ _) | (go_at_call 14; with_reducible exact gM _ _)))
            refine wpQuiet_nil ?_
            intro w9 hw9
            have gg : Below W.heap.size W w9 := by obtain ⟨p9, rfl⟩ := hw9; exact below_regrown _ _ _
            clear hw9 c0 c1 c2 c3 c4 gR gM
            go_wp2
            go_roundg (p - (k + 1))
            case measure => omega
            case rel => exact ⟨k + 1, _, by omega, rfl, by go_num, HRI.out, yB.below gg, bstep yg gg⟩
      · have hgo := ev_goes hri (k := ev) (by omega)
        rw [hcc] at hgo
        dsimp only at hgo
        by_cases h9 : 9 < ev
        · have z3 : decide ((ev : Int) ≤ 9) = false := by simp; omega
          have z4 : decide ((5 : Int) ≤ (ev : Int)) = true := by simp; omega
          have z5 : decide ((ev : Int) ≤ 7) = false := by simp; omega
          obtain rfl : o2 = false := by rw [hgo]; simp; omega
          have kE := event_at hev hcc (ee_none h9)
          have kN := neC t2 r2 false n2 m2 t r false n' m'
          rw [decide_eq_true (by rw [← hcc, ev_none h9])] at kN
          clear hcc hri hgo
          have HRI := hid hri'
          clear hri'
          go_upto_region 17 with (first
            | (go_at_call 10; (with_reducible refine (kE _).mono ?_); rintro e w1 ⟨rfl, g1⟩; obtain ⟨s1, v1, gb⟩ := two_bx g1; have hB1 := hB.below gb; have gg1 := bnew (bstep hg gb) (.cells #[.int .i64 t2, .int .i64 r2, .bool false, .int .i64 n2, .int .i64 m2] 23); clear hs0 hs1 hs2 e0 e1 e2 e3 e4 h0 h1 h2 h3 h4; have hB2 := hB1.alloc (.cells #[.int .i64 t2, .int .i64 r2, .bool false, .int .i64 n2, .int .i64 m2] 23); obtain ⟨c0, c1, c2, c3, c4, cf⟩ := hB2.all; have v1' : Bc (w1.alloc (.cells #[.int .i64 t2, .int .i64 r2, .bool false, .int .i64 n2, .int .i64 m2] 23)) (wr.heap.size + 1) ⟨t, r, false, n', m'⟩ := bx_alloc _ v1; have s2 := bx_alloc (.cells #[.int .i64 t2, .int .i64 r2, .bool false, .int .i64 n2, .int .i64 m2] 23) s1; obtain ⟨j0, j1, j2⟩ := bx3 s2; obtain ⟨d0, d1, d2, d3, d4, df⟩ := (v1'.other (g := w.heap.size) (by omega) (.int .i64 t2) (.int .i64 r2) (.bool false) (.int .i64 n2) (.int .i64 m2)).all; obtain ⟨f0, f1, f2⟩ := bx3 ((set5_other (w := w1.alloc (.cells #[.int .i64 t2, .int .i64 r2, .bool false, .int .i64 n2, .int .i64 m2] 23)) (g := w.heap.size) (q := wr.heap.size) (by omega) (.int .i64 t2) (.int .i64 r2) (.bool false) (.int .i64 n2) (.int .i64 m2)).trans s2); have yB := hB2.set t2 r2 false n2 m2; have yg := below_set5 gg1 (Nat.le_refl _) (.int .i64 t2) (.int .i64 r2) (.bool false) (.int .i64 n2) (.int .i64 m2); obtain ⟨i0, i1, i2, i3, i4, ig⟩ := yB.all))
          clear c0 c1 c2 c3 c4 cf d0 d1 d2 d3 d4 df f0 f1 f2 i0 i1 i2 i3 i4 ig j0 j1 j2 hB1 hB2 v1 v1' s1 s2 g1 gb gg1 kE kN z3 z4 z5
          generalize ((((((w1.alloc (.cells #[.int .i64 t2, .int .i64 r2, .bool false, .int .i64 n2, .int .i64 m2] 23)).setCell ⟨w.heap.size, 0, none⟩ (.int .i64 t2)).setCell ⟨w.heap.size, 1, none⟩ (.int .i64 r2)).setCell ⟨w.heap.size, 2, none⟩ (.bool false)).setCell ⟨w.heap.size, 3, none⟩ (.int .i64 n2)).setCell ⟨w.heap.size, 4, none⟩ (.int .i64 m2)) = W at *
          have hri' := HRI.out
          clear HRI
          have gR := toGr W (right_at hri')
          have gM := toGr W (mode_at (rfl : moC ⟨t2, r2, false, n2, m2⟩ = moC ⟨t2, r2, false, n2, m2⟩))
          have hq2 := mo_num hri'
          generalize moC ⟨t2, r2, false, n2, m2⟩ = qq at gM hq2
          dsimp only at hq2
          obtain ⟨c0, c1, c2, c3, c4⟩ := yB.gr
          have HRI := hid hri'; clear hri'
          refine wp_region_quiet_below (by kernel_rfl) (by kernel_rfl) ?_
          repeat (go_big_quiet_step (first | (go_at_call 12; with_reducible exact gR _ _) | (go_at_call 14; with_reducible exact gM _ _)))
          refine wpQuiet_nil ?_
          intro w9 hw9
          have gg : Below W.heap.size W w9 := by obtain ⟨p9, rfl⟩ := hw9; exact below_regrown _ _ _
          clear hw9 c0 c1 c2 c3 c4 gR gM
          go_wp2
          go_roundg (p - (k + 1))
          case measure => omega
          case rel => exact ⟨k + 1, _, by omega, rfl, by go_num, HRI.out, yB.below gg, bstep yg gg⟩
        · have z3 : decide ((ev : Int) ≤ 9) = true := by simp; omega
          have kE := event_at hev hcc (ee_ok hri (by omega))
          clear hcc hri
          by_cases h5 : 5 ≤ ev
          · have z4 : decide ((5 : Int) ≤ (ev : Int)) = true := by simp; omega
            by_cases h7 : ev ≤ 7
            · have z5 : decide ((ev : Int) ≤ 7) = true := by simp; omega
              by_cases h247 : 247 < t
              · obtain rfl : o2 = true := by rw [hgo]; simp; omega
                have z6 : decide (247 < t) = true := by simp; omega
                clear hgo h247
                have HRI := hid hri'
                clear hri'
                go_upto_region 17 with (first
                  | (go_at_call 10; (with_reducible refine (kE _).mono ?_); rintro e w1 ⟨rfl, g1⟩; obtain ⟨s1, v1, gb⟩ := two_bx g1; have hB1 := hB.below gb; have gg1 := bnew (bstep hg gb) (.cells #[.int .i64 t2, .int .i64 r2, .bool true, .int .i64 n2, .int .i64 m2] 23); clear hs0 hs1 hs2 e0 e1 e2 e3 e4 h0 h1 h2 h3 h4; have hB2 := hB1.alloc (.cells #[.int .i64 t2, .int .i64 r2, .bool true, .int .i64 n2, .int .i64 m2] 23); obtain ⟨c0, c1, c2, c3, c4, cf⟩ := hB2.all; have v1' : Bc (w1.alloc (.cells #[.int .i64 t2, .int .i64 r2, .bool true, .int .i64 n2, .int .i64 m2] 23)) (wr.heap.size + 1) ⟨t, r, false, n', m'⟩ := bx_alloc _ v1; have s2 := bx_alloc (.cells #[.int .i64 t2, .int .i64 r2, .bool true, .int .i64 n2, .int .i64 m2] 23) s1; obtain ⟨j0, j1, j2⟩ := bx3 s2; obtain ⟨d0, d1, d2, d3, d4, df⟩ := (v1'.other (g := w.heap.size) (by omega) (.int .i64 t2) (.int .i64 r2) (.bool true) (.int .i64 n2) (.int .i64 m2)).all; obtain ⟨f0, f1, f2⟩ := bx3 ((set5_other (w := w1.alloc (.cells #[.int .i64 t2, .int .i64 r2, .bool true, .int .i64 n2, .int .i64 m2] 23)) (g := w.heap.size) (q := wr.heap.size) (by omega) (.int .i64 t2) (.int .i64 r2) (.bool true) (.int .i64 n2) (.int .i64 m2)).trans s2); have yB := hB2.set t2 r2 true n2 m2; have yg := below_set5 gg1 (Nat.le_refl _) (.int .i64 t2) (.int .i64 r2) (.bool true) (.int .i64 n2) (.int .i64 m2); obtain ⟨i0, i1, i2, i3, i4, ig⟩ := yB.all))
                clear c0 c1 c2 c3 c4 cf d0 d1 d2 d3 d4 df f0 f1 f2 i0 i1 i2 i3 i4 ig j0 j1 j2 hB1 hB2 v1 v1' s1 s2 g1 gb gg1 kE z3 z4 z5
                generalize ((((((w1.alloc (.cells #[.int .i64 t2, .int .i64 r2, .bool true, .int .i64 n2, .int .i64 m2] 23)).setCell ⟨w.heap.size, 0, none⟩ (.int .i64 t2)).setCell ⟨w.heap.size, 1, none⟩ (.int .i64 r2)).setCell ⟨w.heap.size, 2, none⟩ (.bool true)).setCell ⟨w.heap.size, 3, none⟩ (.int .i64 n2)).setCell ⟨w.heap.size, 4, none⟩ (.int .i64 m2)) = W at *
                have hri' := HRI.out
                clear HRI
                have gR := toGr W (right_at hri')
                have gM := toGr W (mode_at (rfl : moC ⟨t2, r2, true, n2, m2⟩ = moC ⟨t2, r2, true, n2, m2⟩))
                have hq2 := mo_num hri'
                generalize moC ⟨t2, r2, true, n2, m2⟩ = qq at gM hq2
                dsimp only at hq2
                obtain ⟨c0, c1, c2, c3, c4⟩ := yB.gr
                have HRI := hid hri'; clear hri'
                refine wp_region_quiet_below (by kernel_rfl) (by kernel_rfl) ?_
                repeat (go_big_quiet_step (first | (go_at_call 12; with_reducible exact gR _ _) | (go_at_call 14; with_reducible exact gM _ _)))
                refine wpQuiet_nil ?_
                intro w9 hw9
                have gg : Below W.heap.size W w9 := by obtain ⟨p9, rfl⟩ := hw9; exact below_regrown _ _ _
                clear hw9 c0 c1 c2 c3 c4 gR gM
                go_wp2
                go_roundg (p - (k + 1))
                case measure => omega
                case rel => exact ⟨k + 1, _, by omega, rfl, by go_num, HRI.out, yB.below gg, bstep yg gg⟩
              · obtain rfl : o2 = false := by rw [hgo]; simp; omega
                have z6 : decide (247 < t) = false := by simp; omega
                clear hgo h247
                have HRI := hid hri'
                clear hri'
                go_upto_region 17 with (first
                  | (go_at_call 10; (with_reducible refine (kE _).mono ?_); rintro e w1 ⟨rfl, g1⟩; obtain ⟨s1, v1, gb⟩ := two_bx g1; have hB1 := hB.below gb; have gg1 := bnew (bstep hg gb) (.cells #[.int .i64 t2, .int .i64 r2, .bool false, .int .i64 n2, .int .i64 m2] 23); clear hs0 hs1 hs2 e0 e1 e2 e3 e4 h0 h1 h2 h3 h4; have hB2 := hB1.alloc (.cells #[.int .i64 t2, .int .i64 r2, .bool false, .int .i64 n2, .int .i64 m2] 23); obtain ⟨c0, c1, c2, c3, c4, cf⟩ := hB2.all; have v1' : Bc (w1.alloc (.cells #[.int .i64 t2, .int .i64 r2, .bool false, .int .i64 n2, .int .i64 m2] 23)) (wr.heap.size + 1) ⟨t, r, false, n', m'⟩ := bx_alloc _ v1; have s2 := bx_alloc (.cells #[.int .i64 t2, .int .i64 r2, .bool false, .int .i64 n2, .int .i64 m2] 23) s1; obtain ⟨j0, j1, j2⟩ := bx3 s2; obtain ⟨d0, d1, d2, d3, d4, df⟩ := (v1'.other (g := w.heap.size) (by omega) (.int .i64 t2) (.int .i64 r2) (.bool false) (.int .i64 n2) (.int .i64 m2)).all; obtain ⟨f0, f1, f2⟩ := bx3 ((set5_other (w := w1.alloc (.cells #[.int .i64 t2, .int .i64 r2, .bool false, .int .i64 n2, .int .i64 m2] 23)) (g := w.heap.size) (q := wr.heap.size) (by omega) (.int .i64 t2) (.int .i64 r2) (.bool false) (.int .i64 n2) (.int .i64 m2)).trans s2); have yB := hB2.set t2 r2 false n2 m2; have yg := below_set5 gg1 (Nat.le_refl _) (.int .i64 t2) (.int .i64 r2) (.bool false) (.int .i64 n2) (.int .i64 m2); obtain ⟨i0, i1, i2, i3, i4, ig⟩ := yB.all))
                clear c0 c1 c2 c3 c4 cf d0 d1 d2 d3 d4 df f0 f1 f2 i0 i1 i2 i3 i4 ig j0 j1 j2 hB1 hB2 v1 v1' s1 s2 g1 gb gg1 kE z3 z4 z5
                generalize ((((((w1.alloc (.cells #[.int .i64 t2, .int .i64 r2, .bool false, .int .i64 n2, .int .i64 m2] 23)).setCell ⟨w.heap.size, 0, none⟩ (.int .i64 t2)).setCell ⟨w.heap.size, 1, none⟩ (.int .i64 r2)).setCell ⟨w.heap.size, 2, none⟩ (.bool false)).setCell ⟨w.heap.size, 3, none⟩ (.int .i64 n2)).setCell ⟨w.heap.size, 4, none⟩ (.int .i64 m2)) = W at *
                have hri' := HRI.out
                clear HRI
                have gR := toGr W (right_at hri')
                have gM := toGr W (mode_at (rfl : moC ⟨t2, r2, false, n2, m2⟩ = moC ⟨t2, r2, false, n2, m2⟩))
                have hq2 := mo_num hri'
                generalize moC ⟨t2, r2, false, n2, m2⟩ = qq at gM hq2
                dsimp only at hq2
                obtain ⟨c0, c1, c2, c3, c4⟩ := yB.gr
                have HRI := hid hri'; clear hri'
                refine wp_region_quiet_below (by kernel_rfl) (by kernel_rfl) ?_
                repeat (go_big_quiet_step (first | (go_at_call 12; with_reducible exact gR _ _) | (go_at_call 14; with_reducible exact gM _ _)))
                refine wpQuiet_nil ?_
                intro w9 hw9
                have gg : Below W.heap.size W w9 := by obtain ⟨p9, rfl⟩ := hw9; exact below_regrown _ _ _
                clear hw9 c0 c1 c2 c3 c4 gR gM
                go_wp2
                go_roundg (p - (k + 1))
                case measure => omega
                case rel => exact ⟨k + 1, _, by omega, rfl, by go_num, HRI.out, yB.below gg, bstep yg gg⟩
            · have z5 : decide ((ev : Int) ≤ 7) = false := by simp; omega
              obtain rfl : o2 = false := by rw [hgo]; simp; omega
              clear hgo
              have HRI := hid hri'
              clear hri'
              go_upto_region 17 with (first
                | (go_at_call 10; (with_reducible refine (kE _).mono ?_); rintro e w1 ⟨rfl, g1⟩; obtain ⟨s1, v1, gb⟩ := two_bx g1; have hB1 := hB.below gb; have gg1 := bnew (bstep hg gb) (.cells #[.int .i64 t2, .int .i64 r2, .bool false, .int .i64 n2, .int .i64 m2] 23); clear hs0 hs1 hs2 e0 e1 e2 e3 e4 h0 h1 h2 h3 h4; have hB2 := hB1.alloc (.cells #[.int .i64 t2, .int .i64 r2, .bool false, .int .i64 n2, .int .i64 m2] 23); obtain ⟨c0, c1, c2, c3, c4, cf⟩ := hB2.all; have v1' : Bc (w1.alloc (.cells #[.int .i64 t2, .int .i64 r2, .bool false, .int .i64 n2, .int .i64 m2] 23)) (wr.heap.size + 1) ⟨t, r, false, n', m'⟩ := bx_alloc _ v1; have s2 := bx_alloc (.cells #[.int .i64 t2, .int .i64 r2, .bool false, .int .i64 n2, .int .i64 m2] 23) s1; obtain ⟨j0, j1, j2⟩ := bx3 s2; obtain ⟨d0, d1, d2, d3, d4, df⟩ := (v1'.other (g := w.heap.size) (by omega) (.int .i64 t2) (.int .i64 r2) (.bool false) (.int .i64 n2) (.int .i64 m2)).all; obtain ⟨f0, f1, f2⟩ := bx3 ((set5_other (w := w1.alloc (.cells #[.int .i64 t2, .int .i64 r2, .bool false, .int .i64 n2, .int .i64 m2] 23)) (g := w.heap.size) (q := wr.heap.size) (by omega) (.int .i64 t2) (.int .i64 r2) (.bool false) (.int .i64 n2) (.int .i64 m2)).trans s2); have yB := hB2.set t2 r2 false n2 m2; have yg := below_set5 gg1 (Nat.le_refl _) (.int .i64 t2) (.int .i64 r2) (.bool false) (.int .i64 n2) (.int .i64 m2); obtain ⟨i0, i1, i2, i3, i4, ig⟩ := yB.all))
              clear c0 c1 c2 c3 c4 cf d0 d1 d2 d3 d4 df f0 f1 f2 i0 i1 i2 i3 i4 ig j0 j1 j2 hB1 hB2 v1 v1' s1 s2 g1 gb gg1 kE z3 z4 z5
              generalize ((((((w1.alloc (.cells #[.int .i64 t2, .int .i64 r2, .bool false, .int .i64 n2, .int .i64 m2] 23)).setCell ⟨w.heap.size, 0, none⟩ (.int .i64 t2)).setCell ⟨w.heap.size, 1, none⟩ (.int .i64 r2)).setCell ⟨w.heap.size, 2, none⟩ (.bool false)).setCell ⟨w.heap.size, 3, none⟩ (.int .i64 n2)).setCell ⟨w.heap.size, 4, none⟩ (.int .i64 m2)) = W at *
              have hri' := HRI.out
              clear HRI
              have gR := toGr W (right_at hri')
              have gM := toGr W (mode_at (rfl : moC ⟨t2, r2, false, n2, m2⟩ = moC ⟨t2, r2, false, n2, m2⟩))
              have hq2 := mo_num hri'
              generalize moC ⟨t2, r2, false, n2, m2⟩ = qq at gM hq2
              dsimp only at hq2
              obtain ⟨c0, c1, c2, c3, c4⟩ := yB.gr
              have HRI := hid hri'; clear hri'
              refine wp_region_quiet_below (by kernel_rfl) (by kernel_rfl) ?_
              repeat (go_big_quiet_step (first | (go_at_call 12; with_reducible exact gR _ _) | (go_at_call 14; with_reducible exact gM _ _)))
              refine wpQuiet_nil ?_
              intro w9 hw9
              have gg : Below W.heap.size W w9 := by obtain ⟨p9, rfl⟩ := hw9; exact below_regrown _ _ _
              clear hw9 c0 c1 c2 c3 c4 gR gM
              go_wp2
              go_roundg (p - (k + 1))
              case measure => omega
              case rel => exact ⟨k + 1, _, by omega, rfl, by go_num, HRI.out, yB.below gg, bstep yg gg⟩
          · have z4 : decide ((5 : Int) ≤ (ev : Int)) = false := by simp; omega
            obtain rfl : o2 = false := by rw [hgo]; simp; omega
            clear hgo
            have HRI := hid hri'
            clear hri'
            go_upto_region 17 with (first
              | (go_at_call 10; (with_reducible refine (kE _).mono ?_); rintro e w1 ⟨rfl, g1⟩; obtain ⟨s1, v1, gb⟩ := two_bx g1; have hB1 := hB.below gb; have gg1 := bnew (bstep hg gb) (.cells #[.int .i64 t2, .int .i64 r2, .bool false, .int .i64 n2, .int .i64 m2] 23); clear hs0 hs1 hs2 e0 e1 e2 e3 e4 h0 h1 h2 h3 h4; have hB2 := hB1.alloc (.cells #[.int .i64 t2, .int .i64 r2, .bool false, .int .i64 n2, .int .i64 m2] 23); obtain ⟨c0, c1, c2, c3, c4, cf⟩ := hB2.all; have v1' : Bc (w1.alloc (.cells #[.int .i64 t2, .int .i64 r2, .bool false, .int .i64 n2, .int .i64 m2] 23)) (wr.heap.size + 1) ⟨t, r, false, n', m'⟩ := bx_alloc _ v1; have s2 := bx_alloc (.cells #[.int .i64 t2, .int .i64 r2, .bool false, .int .i64 n2, .int .i64 m2] 23) s1; obtain ⟨j0, j1, j2⟩ := bx3 s2; obtain ⟨d0, d1, d2, d3, d4, df⟩ := (v1'.other (g := w.heap.size) (by omega) (.int .i64 t2) (.int .i64 r2) (.bool false) (.int .i64 n2) (.int .i64 m2)).all; obtain ⟨f0, f1, f2⟩ := bx3 ((set5_other (w := w1.alloc (.cells #[.int .i64 t2, .int .i64 r2, .bool false, .int .i64 n2, .int .i64 m2] 23)) (g := w.heap.size) (q := wr.heap.size) (by omega) (.int .i64 t2) (.int .i64 r2) (.bool false) (.int .i64 n2) (.int .i64 m2)).trans s2); have yB := hB2.set t2 r2 false n2 m2; have yg := below_set5 gg1 (Nat.le_refl _) (.int .i64 t2) (.int .i64 r2) (.bool false) (.int .i64 n2) (.int .i64 m2); obtain ⟨i0, i1, i2, i3, i4, ig⟩ := yB.all))
            clear c0 c1 c2 c3 c4 cf d0 d1 d2 d3 d4 df f0 f1 f2 i0 i1 i2 i3 i4 ig j0 j1 j2 hB1 hB2 v1 v1' s1 s2 g1 gb gg1 kE z3 z4
            generalize ((((((w1.alloc (.cells #[.int .i64 t2, .int .i64 r2, .bool false, .int .i64 n2, .int .i64 m2] 23)).setCell ⟨w.heap.size, 0, none⟩ (.int .i64 t2)).setCell ⟨w.heap.size, 1, none⟩ (.int .i64 r2)).setCell ⟨w.heap.size, 2, none⟩ (.bool false)).setCell ⟨w.heap.size, 3, none⟩ (.int .i64 n2)).setCell ⟨w.heap.size, 4, none⟩ (.int .i64 m2)) = W at *
            have hri' := HRI.out
            clear HRI
            have gR := toGr W (right_at hri')
            have gM := toGr W (mode_at (rfl : moC ⟨t2, r2, false, n2, m2⟩ = moC ⟨t2, r2, false, n2, m2⟩))
            have hq2 := mo_num hri'
            generalize moC ⟨t2, r2, false, n2, m2⟩ = qq at gM hq2
            dsimp only at hq2
            obtain ⟨c0, c1, c2, c3, c4⟩ := yB.gr
            have HRI := hid hri'; clear hri'
            refine wp_region_quiet_below (by kernel_rfl) (by kernel_rfl) ?_
            repeat (go_big_quiet_step (first | (go_at_call 12; with_reducible exact gR _ _) | (go_at_call 14; with_reducible exact gM _ _)))
            refine wpQuiet_nil ?_
            intro w9 hw9
            have gg : Below W.heap.size W w9 := by obtain ⟨p9, rfl⟩ := hw9; exact below_regrown _ _ _
            clear hw9 c0 c1 c2 c3 c4 gR gM
            go_wp2
            go_roundg (p - (k + 1))
            case measure => omega
            case rel => exact ⟨k + 1, _, by omega, rfl, by go_num, HRI.out, yB.below gg, bstep yg gg⟩
end Go.Proofs.Ytmdjofhkkkfehaa
