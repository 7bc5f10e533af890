/-
  FilterOnly, walked: filters of identifiers let in just these: each of them, by a filter of its own, and no other one, and none of the other kind.
-/
import Derived.Test.YtmaklneiedljjaaB11h
import Derived.Test.YtmaklneiedljjaaM11d
namespace Go.Proofs.Ytmaklneiedljjaa
open Go.RowKit Go.Sort
set_option linter.unusedVariables false

/-- A row of numbers that grows, beside all that lay in w0. -/
structure RW (w0 wr : World) (a : Option Addr) (m c : Nat) (out : List Nat) : Prop where
  own : OL wv 23 w0.heap.size wr a m c out
  bel : RowKit.Below w0.heap.size w0 wr

set_option maxRecDepth 100000 in
set_option maxHeartbeats 8000000 in
theorem filterOnly_walk (w : World) (a : Option Addr) (n c : Nat) (l : List Nat) (e : Bool) (other : Nat) (h : RL wv w a n c l) (hu : ∀ x ∈ l, x < 4294967296) (hot : other < 4294967296) (hn : n ≤ 9223372036854775807) :
    Calls Try.prog 5 #[.slice a n c, .bool e, .int .u32 (other : Int)] w fun r w' => r = .returned (.bool true) ∧ RowKit.Below w.heap.size w w' := by
  obtain ⟨N, hN⟩ : ∃ N, N = min n 40 := ⟨_, rfl⟩
  have hm1 : ∀ ts t w', (Builtin.min_ ts t #[.int .i64 (n : Int), .int .i64 40]).run Try.prog w' = .ok (.int .i64 (N : Int)) w' := min_fact n N 40 hN
  obtain ⟨b, hcut1, r1⟩ := cutL_eq tW h .i64 N (by omega)
  have hN40 : N ≤ 40 := by omega
  have o1 : ∀ x ∈ l.take N, x < 4294967296 := fun x hx => hu x (List.mem_of_mem_take hx)
  clear hN h hu
  generalize l.take N = L0 at *
  have R1 := hid r1
  have O1 := hid o1
  have HL0 := hid r1.len
  clear r1 o1
  have ht := topF_lt e
  have hand := hid (fun x (h : x < 4294967296) => and_u32 x (topF e) h ht)
  have hand2 := hand.out other hot
  obtain ⟨L, hL⟩ : ∃ L, L = lowL e L0 := ⟨_, rfl⟩
  have hLN : L.length = N := by rw [hL]; simp [lowL, HL0.out]
  have hLle : ∀ x ∈ L, x ≤ topF e := by rw [hL]; exact lowL_le
  have hE : onlyE e L = 0 := by rw [hL]; exact low_onlyE (by rw [HL0.out]; exact hN40)
  have hOL : onlyL e L = (uqL L).map (mkFo e) := by unfold onlyL; rw [if_pos hE]
  have hule := uqL_length L
  have HTK := hid (fun k x (hx : L0[k]? = some x) => show lowL e (L0.take (k + 1)) = lowL e (L0.take k) ++ [x &&& topF e] by unfold lowL; rw [List.take_add_one, hx, List.map_append]; rfl)
  have KO := hid (fun (w : World) (a : Option Addr) (c : Nat) (h : RL wv w a N c L) => only_any w a N c L e h (by omega))
  rw [hE, hOL] at KO
  have HLN := hid hLN
  have HLle := hid hLle
  have HUL := hid hule
  have HLL := hid hL
  clear hE hOL hLN hLle hule hL
  go_enter Try.func5, Try.ntmps5
  go_upto_if 19 with fail
  go_cut [7] (fun s wx => s = .int .u32 (topF e : Int) ∧ wx = w)
  case first =>
    cases e
    · go_wp2_with fail
      go_meet
      exact ⟨rfl, rfl⟩
    · go_wp2_with fail
      go_meet
      exact ⟨rfl, rfl⟩
  case rest =>
  obtain ⟨rfl, rfl⟩ := hcut
  go_wp2
  go_loopg [8, 26] N (fun gn vo vi wr => ∃ (k : Nat) (a' : Option Addr) (c' : Nat), k ≤ N ∧ gn = N - k ∧ vi = .int .i64 (k : Int) ∧ vo = .slice a' k c' ∧ Hid (RW wc wr a' k c' (lowL e (L0.take k))))
  case atStart => exact ⟨0, none, 0, by omega, by omega, rfl, rfl, hid ⟨OL.nil _ _ _ _, RowKit.Below.refl _ _⟩⟩
  case round =>
    obtain ⟨k, a', c', hk, rfl, rfl, rfl, HF⟩ := hrel
    clear hm1 hcut1
    by_cases hlt : k < N
    · obtain ⟨b', off, x, rfl, hx, hc⟩ := (R1.out.below HF.out.bel).at hlt
      have hc' : wr.cell? ⟨b', off + k, none⟩ = some (.int .u32 (x : Int)) := hc
      have ha := hand.out x (O1.out x (List.mem_of_getElem? hx))
      have HX := hid (HTK.out k x hx)
      clear hc hx hand2
      have hsz := HF.out.bel.size
      have hlit := (ol_lit wv 23 0 wr [x &&& topF e] #[.int .u32 ((x &&& topF e : Nat) : Int)] 1 rfl rfl (by omega) (Nat.zero_le _)).rl
      generalize x &&& topF e = q at *
      go_wp2_with (at_builtin; refine wpList_app (f := wv) tW rfl _ _ rfl rfl (HF.out.own.alloc _) rfl hlit (fun _ => rfl) (by omega) (by omega) (by simp; omega) ?_; intro w10 a10 c10 hol10 hb10)
      go_roundg (N - (k + 1))
      case measure => omega
      case rel => exact ⟨k + 1, a10, c10, by omega, rfl, by go_num, rfl, hid ⟨by rw [HX.out]; exact hol10, (bnew HF.out.bel _).trans hb10⟩⟩
    · obtain rfl : k = N := by omega
      have e9 : lowL e (L0.take k) = L := by rw [List.take_of_length_le (by rw [HL0.out]; exact Nat.le_refl _)]; exact HLL.out.symm
      have HF2 := HF.out
      rw [e9] at HF2
      have HG := hid HF2
      clear HF HF2 e9 HTK O1 R1 HL0 HLL
      have kO := hid (KO.out wr a' c' HG.out.own.rl)
      go_upto_if 51 with (go_at_call 11; (with_reducible refine kO.out.mono ?_); rintro r w1 ⟨a1, m1, c1, rfl, ok1, g1⟩; have L1 := hid (HG.out.own.rl.below g1); have X1 := hid (ok1.rk eFi); have gg1 := bstep HG.out.bel g1; have hm1 : ((uqL L).map (mkFo e)).length = m1 := ok1.len; clear ok1)
      clear kO HG
      obtain ⟨ot, hot1⟩ : ∃ ot, ot = other &&& topF e := ⟨_, rfl⟩
      rw [← hot1] at hand2
      have hotle : ot ≤ topF e := by rw [hot1]; exact Nat.and_le_right
      have hot4 : ot < 4294967296 := by omega
      clear hot1 hot
      have hmk : m1 ≤ k := by
        have := HUL.out
        rw [HLN.out] at this
        rw [← hm1, List.length_map]; exact this
      have HM := hid hm1; clear hm1
      have hdk : decide (k < m1) = false := by simp; omega
      rw [hdk]
      clear hdk
      -- what First and Pass answer
      have KF := hid (fun (w : World) (h : RK fiE 3 w a1 m1 c1 ((uqL L).map (mkFo e))) (x : Nat) (hx : x ≤ topF e) => fiFirst_any w a1 m1 c1 _ x e false (.int .u8 0) (.slice none 0 0) h (fun y hy => by
        obtain ⟨z, hz, rfl⟩ := List.mem_map.1 hy
        exact mkFo_ok (HLle.out z ((uqL_mem z L).1 hz))) (by omega) (by omega))
      have KP := hid (fun (w : World) (h : RK fiE 3 w a1 m1 c1 ((uqL L).map (mkFo e))) (x : Nat) (e' r : Bool) (hx : x ≤ topF e) => fiPass_any w a1 m1 c1 _ x e' r (.int .u8 0) (.slice none 0 0) h (fun y hy => by
        obtain ⟨z, hz, rfl⟩ := List.mem_map.1 hy
        exact mkFo_ok (HLle.out z ((uqL_mem z L).1 hz))) (by omega) (by omega))
      have HU := hid (show ∀ x ∈ uqL L, x ≤ topF e from fun x hx => HLle.out x ((uqL_mem x L).1 hx))
      have HLT := hid (show topF e < 4294967296 from ht)
      clear ht
      go_wp2
      go_loopg [13, 57] k (fun gn vs vi wr => ∃ (j : Nat) (q : Bool), j ≤ k ∧ gn = k - j ∧ vi = .int .i64 (j : Int) ∧ vs = .bool q ∧ Hid (q = decide (ot ∈ L.take j)) ∧ Hid (RowKit.Below w1.heap.size w1 wr))
      case atStart => exact ⟨0, false, by omega, by omega, rfl, rfl, hid (by simp), hid (RowKit.Below.refl _ _)⟩
      case round =>
        obtain ⟨j, q, hj, rfl, rfl, rfl, HQ, HB⟩ := hrel
        by_cases hlt : j < k
        · obtain ⟨b', off, x, rfl, hx, hc⟩ := (L1.out.below HB.out).at hlt
          have hc' : wr.cell? ⟨b', off + j, none⟩ = some (.int .u32 (x : Int)) := hc
          have hxm : x ∈ L := List.mem_of_getElem? hx
          have hxle := HLle.out x hxm
          obtain ⟨i, hi, hfi, hxi⟩ := only_first (e := e) hxle HU.out ((uqL_mem x L).2 hxm)
          have hany : anyF x e ((uqL L).map (mkFo e)) = true := by rw [only_any_eq hxle HU.out]; simp [(uqL_mem x L).2 hxm]
          have hpass : passF x (!e) ((uqL L).map (mkFo e)) = false := by
            have hne : uqL L ≠ [] := fun h => by rw [uqL_nil] at h; rw [h] at hxm; simp at hxm
            unfold passF
            rw [only_any_eq hxle HU.out]
            have : (uqL L).length ≠ 0 := fun h => hne (List.eq_nil_of_length_eq_zero h)
            cases e <;> simp [this]
          have hi1 : i < m1 := by rw [← HM.out, List.length_map]; exact hi
          have HX := hid (show decide (ot ∈ L.take (j + 1)) = (decide (ot ∈ L.take j) || decide (x = ot)) by
            rw [List.take_add_one, hx]
            by_cases h1 : ot ∈ L.take j <;> by_cases h2 : x = ot <;> simp [h1, h2]
            exact fun h => h2 h.symm)
          have kF := KF.out wr (X1.out.below HB.out) x hxle
          rw [hfi, hany, Int.max_eq_left (by omega)] at kF
          have kP := hid (fun w h => by have := KP.out w h x (!e) false hxle; rw [hpass] at this; exact this)
          have KFF := hid kF
          have HXI := hid hxi
          have deq : ((x : Int) == (ot : Int)) = decide (x = ot) := by rw [Bool.eq_iff_iff]; simp; omega
          clear hc hx kF hfi hany hpass hxm hxi hi
          generalize decide (x = ot) = z at *
          have hm0 : 0 < m1 := by omega
          obtain ⟨bX, offX, y, hya, hy, hbX, y0, y1, y2⟩ := rfi_at (X1.out.below HB.out) hi1
          have hyy : y = mkFo e x := by have := HXI.out; rw [hy] at this; simpa using this
          subst hyy
          subst hya
          have hmat : (mkFo e x).mat = x := rfl
          rw [hmat] at y2
          clear hmat y0 y1 hy HXI
          cases q
          · go_wp2_with (first
              | (go_at_call 9; (with_reducible refine KFF.out.mono ?_); rintro r v1 ⟨rfl, q1⟩; have y3 := (q1.cell (p := ⟨bX, offX + i * 3 + 2, none⟩) hbX).trans y2; have V1 := hid (bstep HB.out q1); have kp := hid (kP.out v1 (X1.out.below V1.out)))
              | (go_at_call 13; (with_reducible refine kp.out.mono ?_); rintro r v2 ⟨rfl, q2⟩; have V2 := hid (bstep V1.out q2)))
            go_roundg (k - (j + 1))
            case measure => omega
            case rel => exact ⟨j + 1, z, by omega, rfl, by go_num, by first | rfl | (rw [deq]; done) | simp, hid (by rw [HX.out, ← HQ.out]; simp), V2⟩
          · go_wp2_with (first
              | (go_at_call 9; (with_reducible refine KFF.out.mono ?_); rintro r v1 ⟨rfl, q1⟩; have y3 := (q1.cell (p := ⟨bX, offX + i * 3 + 2, none⟩) hbX).trans y2; have V1 := hid (bstep HB.out q1); have kp := hid (kP.out v1 (X1.out.below V1.out)))
              | (go_at_call 13; (with_reducible refine kp.out.mono ?_); rintro r v2 ⟨rfl, q2⟩; have V2 := hid (bstep V1.out q2)))
            go_roundg (k - (j + 1))
            case measure => omega
            case rel => exact ⟨j + 1, true, by omega, rfl, by go_num, rfl, hid (by rw [HX.out, ← HQ.out]; simp), V2⟩
        · have HQ2 := hid (show q = decide (ot ∈ L) by
            have := HQ.out
            rwa [List.take_of_length_le (by rw [HLN.out]; omega)] at this)
          clear HQ
          go_wp2
          go_loopg [97] m1 (fun gn vi wr => ∃ (j : Nat), j ≤ m1 ∧ gn = m1 - j ∧ vi = .int .i64 (j : Int) ∧ Hid (RowKit.Below w1.heap.size w1 wr))
          case atStart => exact ⟨0, by omega, by omega, rfl, HB⟩
          case round =>
            clear HB
            obtain ⟨j2, hj2, rfl, rfl, HB⟩ := hrel
            by_cases hlt2 : j2 < m1
            · obtain ⟨bX, offX, y, hya, hy, hbX, y0, y1, y2⟩ := rfi_at (X1.out.below HB.out) hlt2
              subst hya
              obtain ⟨u, hu2, hyu⟩ : ∃ u, (uqL L)[j2]? = some u ∧ y = mkFo e u := by
                rw [List.getElem?_map] at hy
                cases hq : (uqL L)[j2]? with
                | none => rw [hq] at hy; simp at hy
                | some u => rw [hq] at hy; exact ⟨u, rfl, by simpa using hy.symm⟩
              have hule := HU.out u (List.mem_of_getElem? hu2)
              have kR := fun w => fiRight_any y (by rw [hyu]; exact mkFo_ok hule) w
              rw [show rightF y = true by rw [hyu]; exact mkFo_right hule] at kR
              have kR' : ∀ d os, Calls Try.prog 15 #[.agg #[.bool y.ext, .int .u32 (y.mask : Int), .int .u32 (y.mat : Int)]] (grow (redrawn wr d) os) fun q w'' => q = .returned (.bool true) ∧ ∃ r : Regrown, w'' = grow (redrawn wr r.d) r.os := fun d os => Calls.regrown_of (kR _)
              have z0 : ∀ d os, (grow (redrawn wr d) os).cell? ⟨bX, offX + j2 * 3, none⟩ = _ := fun d os => cell_regrown y0 d os
              have z1 : ∀ d os, (grow (redrawn wr d) os).cell? ⟨bX, offX + j2 * 3 + 1, none⟩ = _ := fun d os => cell_regrown y1 d os
              have z2 : ∀ d os, (grow (redrawn wr d) os).cell? ⟨bX, offX + j2 * 3 + 2, none⟩ = _ := fun d os => cell_regrown y2 d os
              have HYU := hid hyu
              have HU2 := hid hu2
              clear y0 y1 y2 hy hu2 hyu kR hule
              by_cases hj0 : 0 < j2
              · obtain ⟨bX2, offX2, y', hya', hy', hbX', w0', w1', w2'⟩ := rfi_at (X1.out.below HB.out) (show j2 - 1 < m1 by omega)
                simp only [Option.some.injEq, Addr.mk.injEq, and_true] at hya'
                obtain ⟨rfl, rfl⟩ := hya'
                have hlt9 : y'.mat < y.mat := by
                  rw [List.getElem?_map] at hy'
                  cases hq : (uqL L)[j2 - 1]? with
                  | none => rw [hq] at hy'; simp at hy'
                  | some u' =>
                    rw [hq] at hy'
                    have e1 : y' = mkFo e u' := by simpa using hy'.symm
                    rw [e1, HYU.out]
                    have h1 := List.getElem?_eq_some_iff.1 hq
                    have h2 := List.getElem?_eq_some_iff.1 HU2.out
                    have := List.pairwise_iff_getElem.1 (uqL_rise L) (j2 - 1) j2 h1.1 h2.1 (by omega)
                    rw [h1.2, h2.2] at this
                    exact this
                have dge : decide ((y.mat : Int) ≤ (y'.mat : Int)) = false := by simp; omega
                have dge2 : decide (y.mat ≤ y'.mat) = false := by simp; omega
                have e1 : (j2 : Int) - 1 = ((j2 - 1 : Nat) : Int) := by omega
                have z3 : ∀ d os, (grow (redrawn wr d) os).cell? ⟨bX, offX + (j2 - 1) * 3 + 2, none⟩ = _ := fun d os => cell_regrown w2' d os
                clear w0' w1' w2' hy' hlt9
                go_wp2
                refine wp_region_quiet_below (by kernel_rfl) (by kernel_rfl) ?_
                repeat (go_big_quiet_step (first | (go_at_call 15; with_reducible exact kR' _ _)))
                refine wpQuiet_nil ?_
                intro w9 hw9
                have g9 : RowKit.Below wr.heap.size wr w9 := by obtain ⟨p9, rfl⟩ := hw9; exact below_regrown _ _ _
                clear hw9 kR' z0 z1 z2 z3
                go_wp2
                go_roundg (m1 - (j2 + 1))
                case measure => omega
                case rel => exact ⟨j2 + 1, by omega, rfl, by go_num, hid (bstep HB.out g9)⟩
              · have d0 : decide (0 < (j2 : Int)) = false := by simp; omega
                have d02 : decide (0 < j2) = false := by simp; omega
                go_wp2
                refine wp_region_quiet_below (by kernel_rfl) (by kernel_rfl) ?_
                repeat (go_big_quiet_step (first | (go_at_call 15; with_reducible exact kR' _ _)))
                refine wpQuiet_nil ?_
                intro w9 hw9
                have g9 : RowKit.Below wr.heap.size wr w9 := by obtain ⟨p9, rfl⟩ := hw9; exact below_regrown _ _ _
                clear hw9 kR' z0 z1 z2
                go_wp2
                go_roundg (m1 - (j2 + 1))
                case measure => omega
                case rel => exact ⟨j2 + 1, by omega, rfl, by go_num, hid (bstep HB.out g9)⟩
            · have kP := KP.out wr (X1.out.below HB.out) ot e true hotle
              have hzk : (m1 = 0) ↔ (k = 0) := by
                rw [← HM.out, List.length_map, ← HLN.out]
                constructor
                · intro h; exact List.length_eq_zero_iff.2 (uqL_nil.1 (List.length_eq_zero_iff.1 h))
                · intro h; exact List.length_eq_zero_iff.2 (uqL_nil.2 (List.length_eq_zero_iff.1 h))
              have hp : passF ot e ((uqL L).map (mkFo e)) = (decide (k = 0) || q) := by
                unfold passF
                rw [HM.out, only_any_eq hotle HU.out, HQ2.out]
                congr 1
                · exact decide_eq_decide.2 hzk
                · simp [uqL_mem]
              rw [hp] at kP
              obtain ⟨z, hz⟩ : ∃ z, z = decide (k = 0) := ⟨_, rfl⟩
              have hz2 : ((k : Int) == 0) = z := by rw [hz, Bool.eq_iff_iff]; simp
              rw [← hz] at kP
              have KPP := hid kP
              clear hzk hp hz kP HQ2
              have g1w := HB.out
              cases q
              · go_wp2_with (first
                  | (go_at_call 13; (with_reducible refine KPP.out.mono ?_); rintro r v1 ⟨rfl, q1⟩)
                  | (go_at_call 8; (with_reducible refine (awake11_any v1).mono ?_); rintro r v2 ⟨rfl, q2⟩))
                all_goals
                  go_ret
                  exact ⟨ret_bool (by simp), bstep (bstep (bstep gg1 HB.out) q1) q2⟩
              · go_wp2_with (first
                  | (go_at_call 13; (with_reducible refine KPP.out.mono ?_); rintro r v1 ⟨rfl, q1⟩)
                  | (go_at_call 8; (with_reducible refine (awake11_any v1).mono ?_); rintro r v2 ⟨rfl, q2⟩))
                all_goals
                  go_ret
                  exact ⟨ret_bool (by simp), bstep (bstep (bstep gg1 HB.out) q1) q2⟩
end Go.Proofs.Ytmaklneiedljjaa
