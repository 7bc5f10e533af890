/-
  Contracts of the document's own filters: the first of a list; what covers what.
-/
import Derived.Test.YtmaklneiedljjaaB11k
namespace Go.Proofs.Ytmaklneiedljjaa
open Go.RowKit Go.Sort
set_option linter.unusedVariables false

set_option maxRecDepth 100000 in
set_option maxHeartbeats 4000000 in
theorem refFirst_any (w : World) (a : Option Addr) (n c : Nat) (l : List Fi) (id : Nat) (e r : Bool) (dl cd : Value) (h : RK fiE 3 w a n c l) (hok : ∀ x ∈ l, x.Ok) (hn : n ≤ 100000) (hi : id < 4294967296) :
    Calls Try.prog 10 #[.slice a n c, .agg (fmV id e r dl cd)] w fun q w' => q = .returned (.tuple #[.int .i64 (max (fiF id e l) 0), .bool (anyF id e l)]) ∧ RowKit.Below w.heap.size w w' := by
  have HL := hid h.len
  have HO := hid hok; clear hok
  have b0 := heap_alloc_new w (.cells (fmV id e r dl cd) 30)
  have g0 := bnew0 w (.cells (fmV id e r dl cd) 30)
  have H0 := hid (h.below g0)
  go_enter Try.func10, Try.ntmps10
  go_upto_region 1 with fail
  generalize w.alloc (.cells (fmV id e r dl cd) 30) = w0 at *
  have B0 := hid b0; clear b0
  go_wp2
  go_loopg [6] (n - 0) (fun gn vi wr => ∃ k : Nat, k ≤ n ∧ gn = n - k ∧ vi = .int .i64 (k : Int) ∧ Hid (anyF id e (l.take k) = false) ∧ Hid (RowKit.Below w0.heap.size w0 wr))
  case atStart => exact ⟨0, by omega, by omega, by first | rfl | (go_num; done), hid (by rw [List.take_zero]; rfl), hid (RowKit.Below.refl _ _)⟩
  case round =>
    obtain ⟨k, hk, rfl, rfl, HF, HB⟩ := hrel
    by_cases hlt : k < n
    · obtain ⟨gb, off, x, rfl, hx, hgb, x0, x1, x2⟩ := rfi_at (H0.out.below HB.out) hlt
      obtain ⟨z0, z1, z2, z3, z4⟩ := bx5 (bx_below B0.out HB.out)
      have kL := fun w => refLets_any x (HO.out x (List.mem_of_getElem? hx)) id e r dl cd hi w
      have HX := hid hx
      clear hx
      obtain ⟨p, hp⟩ : ∃ p, p = letsF id e x := ⟨_, rfl⟩
      rw [← hp] at kL
      have HP := hid hp; clear hp
      have kL' : ∀ d os, Calls Try.prog 24 #[.agg #[.bool x.ext, .int .u32 (x.mask : Int), .int .u32 (x.mat : Int)], .agg #[.int .u32 (id : Int), .bool e, .bool r, dl, cd]] (grow (redrawn wr d) os) fun q w'' => q = .returned (.bool p) ∧ ∃ r : Regrown, w'' = grow (redrawn wr r.d) r.os := fun d os => Calls.regrown_of (kL _)
      have y0 : ∀ d os, (grow (redrawn wr d) os).cell? ⟨gb, off + k * 3, none⟩ = _ := fun d os => cell_regrown x0 d os
      have y1 : ∀ d os, (grow (redrawn wr d) os).cell? ⟨gb, off + k * 3 + 1, none⟩ = _ := fun d os => cell_regrown x1 d os
      have y2 : ∀ d os, (grow (redrawn wr d) os).cell? ⟨gb, off + k * 3 + 2, none⟩ = _ := fun d os => cell_regrown x2 d os
      have v0 : ∀ d os, (grow (redrawn wr d) os).cell? ⟨w.heap.size, 0, none⟩ = _ := fun d os => cell_regrown z0 d os
      have v1 : ∀ d os, (grow (redrawn wr d) os).cell? ⟨w.heap.size, 1, none⟩ = _ := fun d os => cell_regrown z1 d os
      have v2 : ∀ d os, (grow (redrawn wr d) os).cell? ⟨w.heap.size, 2, none⟩ = _ := fun d os => cell_regrown z2 d os
      have v3 : ∀ d os, (grow (redrawn wr d) os).cell? ⟨w.heap.size, 3, none⟩ = _ := fun d os => cell_regrown z3 d os
      have v4 : ∀ d os, (grow (redrawn wr d) os).cell? ⟨w.heap.size, 4, none⟩ = _ := fun d os => cell_regrown z4 d os
      clear x0 x1 x2 z0 z1 z2 z3 z4 kL
      go_wp2
      refine wp_region_quiet_below (by kernel_rfl) (by kernel_rfl) ?_
      repeat (go_big_quiet_step (first | (go_at_call 24; with_reducible exact kL' _ _)))
      refine wpQuiet_nil ?_
      intro w9 hw9
      have g9 : RowKit.Below wr.heap.size wr w9 := by obtain ⟨p9, rfl⟩ := hw9; exact below_regrown _ _ _
      clear hw9 kL' y0 y1 y2 v0 v1 v2 v3 v4
      cases p
      · go_wp2
        go_roundg (n - (k + 1))
        case measure => omega
        case rel => exact ⟨k + 1, by omega, rfl, by go_num, hid (by rw [anyF_take HX.out, HF.out, ← HP.out]; rfl), hid (bstep HB.out g9)⟩
      · have ha : anyF id e l = true := by rw [anyF, List.any_eq_true]; exact ⟨x, List.mem_of_getElem? HX.out, HP.out.symm⟩
        have hf := fiF_at HX.out HP.out.symm HF.out
        have HR := hid (show max (fiF id e l) 0 = (k : Int) ∧ anyF id e l = true from ⟨by rw [hf]; omega, ha⟩)
        clear ha hf
        go_wp2
        go_ret2
        exact ⟨by rw [HR.out.1, HR.out.2] <;> rfl, bstep g0 (bstep HB.out g9)⟩
    · have ha : anyF id e l = false := by have := HF.out; rwa [List.take_of_length_le (by rw [HL.out]; omega)] at this
      have HR := hid (show max (fiF id e l) 0 = 0 ∧ anyF id e l = false from ⟨fiF_neg ha, ha⟩)
      clear ha
      go_wp2
      go_ret2
      exact ⟨by rw [HR.out.1, HR.out.2] <;> rfl, bstep g0 HB.out⟩

theorem refPass_any (w : World) (a : Option Addr) (n c : Nat) (l : List Fi) (id : Nat) (e r : Bool) (dl cd : Value) (h : RK fiE 3 w a n c l) (hok : ∀ x ∈ l, x.Ok) (hn : n ≤ 100000) (hi : id < 4294967296) :
    Calls Try.prog 14 #[.slice a n c, .agg (fmV id e r dl cd)] w fun q w' => q = .returned (.bool (passF id e l)) ∧ RowKit.Below w.heap.size w w' := by
  have b0 := heap_alloc_new w (.cells (fmV id e r dl cd) 30)
  have g0 := bnew0 w (.cells (fmV id e r dl cd) 30)
  have k := hid (refFirst_any _ a n c l id e r dl cd (h.below g0) hok hn hi)
  have hz : ((n : Int) == 0) = decide (n = 0) := by rw [Bool.eq_iff_iff]; simp
  have hp : passF id e l = (anyF id e l || decide (n = 0)) := by rw [passF, h.len, Bool.or_comm]
  rw [hp]
  clear hp
  generalize anyF id e l = v at *
  generalize decide (n = 0) = z at *
  cases v
  · go_enter Try.func14, Try.ntmps14
    go_wp2_with (first
      | (with_reducible refine wpList_loadR rowF rfl _ rfl _ rfl b0 rfl ?_)
      | (go_at_call 10; (with_reducible refine k.out.mono ?_); rintro q w1 ⟨rfl, g1⟩))
    go_ret
    exact ⟨ret_bool (by first | exact hz | simp), bstep g0 g1⟩
  · go_enter Try.func14, Try.ntmps14
    go_wp2_with (first
      | (with_reducible refine wpList_loadR rowF rfl _ rfl _ rfl b0 rfl ?_)
      | (go_at_call 10; (with_reducible refine k.out.mono ?_); rintro q w1 ⟨rfl, g1⟩))
    go_ret
    exact ⟨rfl, bstep g0 g1⟩

set_option maxRecDepth 100000 in
set_option maxHeartbeats 8000000 in
theorem refCovers_any (x y : Fi) (hx : x.Ok) (hy : y.Ok) (w : World) : Calls Try.prog 18 #[.agg (fiV x), .agg (fiV y)] w fun q w' => q = .returned (.bool (coversF x y)) ∧ RowKit.Below w.heap.size w w' := by
  have HLB := hid (covers_bits hx hy)
  obtain ⟨w0, hw0, b1, b2, gg0⟩ := boxed11b w 25 25 (fiV x) (fiV y)
  have kR := hid (fun w => refRight11_any x hx w)
  have kS := hid (fun w => refRight11_any y hy w)
  have hx1 := hx.1
  have hx2 := hx.2
  have hy1 := hy.1
  have hy2 := hy.2
  obtain ⟨R, hR⟩ : ∃ R, R = rightF x := ⟨_, rfl⟩
  obtain ⟨S, hS⟩ : ∃ S, S = rightF y := ⟨_, rfl⟩
  rw [← hR] at kR HLB
  rw [← hS] at kS HLB
  clear hR hS
  go_enter Try.func18, Try.ntmps18
  go_upto_region 1 with fail
  rw [hw0.out]
  cases R
  · have HF := hid (show coversF x y = false by
      cases h : coversF x y
      · rfl
      · have := (HLB.out.1 h).1; cases this)
    go_wp2_with (first
      | (with_reducible refine wpList_loadR rowFi rfl _ rfl _ rfl b1 rfl ?_)
      | (go_at_call 16; (with_reducible refine (kR.out _).mono ?_); rintro q w1 ⟨rfl, g1⟩))
    go_ret
    exact ⟨ret_bool HF.out.symm, bstep gg0 g1⟩
  · cases S
    · have HF := hid (show coversF x y = false by
        cases h : coversF x y
        · rfl
        · have := (HLB.out.1 h).2.1; cases this)
      go_wp2_with (first
        | (with_reducible refine wpList_loadR rowFi rfl _ rfl _ rfl b1 rfl ?_)
        | (go_at_call 16; (with_reducible refine (kR.out w0).mono ?_); rintro q w1 ⟨rfl, g1⟩; have b3 := bx_below b2 g1)
        | (with_reducible refine wpList_loadW rowFi (by simp [Region.wanted, yielded]) _ rfl _ rfl b3 rfl ?_)
        | (go_at_call 16; (with_reducible refine (kS.out w1).mono ?_); rintro q w2 ⟨rfl, g2⟩))
      go_ret
      exact ⟨ret_bool HF.out.symm, bstep gg0 (bstep g1 g2)⟩
    · by_cases hEq : x.ext = y.ext
      · have hE := hid hEq
        have hee : (x.ext == y.ext) = true := by simpa using hEq
        clear hEq
        go_upto_region 3 with (first
          | (with_reducible refine wpList_loadR rowFi rfl _ rfl _ rfl b1 rfl ?_)
          | (go_at_call 16; (with_reducible refine (kR.out w0).mono ?_); rintro q w1 ⟨rfl, g1⟩; have b3 := bx_below b2 g1)
          | (with_reducible refine wpList_loadW rowFi (by simp [Region.wanted, yielded]) _ rfl _ rfl b3 rfl ?_)
          | (go_at_call 16; (with_reducible refine (kS.out w1).mono ?_); rintro q w2 ⟨rfl, g2⟩; (have c1 := bx_below (bx_below b1 g1) g2); (have c2 := bx_below b3 g2); (obtain ⟨y0, y1, y2⟩ := bx3 c1); (obtain ⟨z0, z1, z2⟩ := bx3 c2); have C1 := hid c1; have C2 := hid c2))
        clear b1 b2 b3 c1 c2 y0 y1 y2 z0 z1 z2
        have gg1 := bstep gg0 (bstep g1 g2)
        go_wp2
        go_loopg [5] (29 - 0) (fun gn vi wr => ∃ k : Nat, k ≤ 29 ∧ gn = 29 - k ∧ vi = .int .i64 (k : Int) ∧ Hid (∀ j, j < k → x.mask.testBit j = true → y.mask.testBit j = true ∧ x.mat.testBit j = y.mat.testBit j) ∧ Hid (RowKit.Below w2.heap.size w2 wr))
        case atStart => exact ⟨0, by omega, by omega, by first | rfl | (go_num; done), hid (fun j hj => by omega), hid (RowKit.Below.refl _ _)⟩
        case round =>
        obtain ⟨k, hk, rfl, rfl, HA, HB⟩ := hrel
        by_cases hlt : k < 29
        · obtain ⟨y0, y1, y2⟩ := bx3r (bx_below C1.out HB.out)
          obtain ⟨v0, v1, v2⟩ := bx3r (bx_below C2.out HB.out)
          have toG : ∀ (y : Nat) (hy : y < 4294967296) d os, Calls Try.prog 30 #[.int .u32 (y : Int), .int .i64 (k : Int)] (grow (redrawn wr d) os) fun r w'' => r = .returned (.bool (y.testBit k)) ∧ ∃ r : Regrown, w'' = grow (redrawn wr r.d) r.os := fun y hy d os =>
            Calls.regrown_of ((bit_any y k hy (by omega) _).mono fun e w' he => ⟨he.1, by rw [he.2]; exact RowKit.Below.refl _ _⟩)
          have kA := toG x.mask hx1
          have kB := toG y.mask hy1
          have kC := toG x.mat hx2
          have kD := toG y.mat hy2
          obtain ⟨p, hp⟩ : ∃ p, p = x.mask.testBit k := ⟨_, rfl⟩
          obtain ⟨q, hq⟩ : ∃ q, q = y.mask.testBit k := ⟨_, rfl⟩
          obtain ⟨s, hs⟩ : ∃ s, s = x.mat.testBit k := ⟨_, rfl⟩
          obtain ⟨t, ht⟩ : ∃ t, t = y.mat.testBit k := ⟨_, rfl⟩
          rw [← hp] at kA
          rw [← hq] at kB
          rw [← hs] at kC
          rw [← ht] at kD
          have HP := hid hp
          have HQ := hid hq
          have HS := hid hs
          have HT := hid ht
          clear hp hq hs ht toG
          have NXT := hid (fun (h : p = true → q = true ∧ s = t) (j : Nat) (hj : j < k + 1) (hb : x.mask.testBit j = true) => show y.mask.testBit j = true ∧ x.mat.testBit j = y.mat.testBit j by
              by_cases e : j = k
              · subst e; rw [← HP.out] at hb; rw [← HQ.out, ← HS.out, ← HT.out]; exact h hb
              · exact HA.out j (by omega) hb)
          have BAD := hid (fun (h1 : p = true) (h2 : ¬ (q = true ∧ s = t)) => show coversF x y = false by
                cases h : coversF x y
                · rfl
                · have := (HLB.out.1 h).2.2.2 k hlt (by rw [← HP.out]; exact h1)
                  rw [← HQ.out, ← HS.out, ← HT.out] at this; exact absurd this h2)
          clear HP HQ HS HT
          cases p
          · go_wp2
            refine wp_region_quiet_below (by kernel_rfl) (by kernel_rfl) ?_
            repeat (go_big_quiet_step (first | (go_at_call 30; with_reducible exact kA _ _) | (go_at_call 30; with_reducible exact kB _ _) | (go_at_call 30; with_reducible exact kC _ _) | (go_at_call 30; with_reducible exact kD _ _)))
            refine wpQuiet_nil ?_
            intro w9 hw9
            have g9 : RowKit.Below wr.heap.size wr w9 := by obtain ⟨p9, rfl⟩ := hw9; exact below_regrown _ _ _
            clear hw9 kA kB kC kD y0 y1 y2 v0 v1 v2
            go_wp2
            go_roundg (29 - (k + 1))
            case measure => omega
            case rel => exact ⟨k + 1, by omega, rfl, by go_num, hid (NXT.out (fun h => by first | trivial | (cases h; done) | (exact ⟨by first | rfl | trivial, by first | rfl | trivial⟩))), hid (bstep HB.out g9)⟩
          · cases q
            · go_wp2
              refine wp_region_quiet_below (by kernel_rfl) (by kernel_rfl) ?_
              repeat (go_big_quiet_step (first | (go_at_call 30; with_reducible exact kA _ _) | (go_at_call 30; with_reducible exact kB _ _) | (go_at_call 30; with_reducible exact kC _ _) | (go_at_call 30; with_reducible exact kD _ _)))
              refine wpQuiet_nil ?_
              intro w9 hw9
              have g9 : RowKit.Below wr.heap.size wr w9 := by obtain ⟨p9, rfl⟩ := hw9; exact below_regrown _ _ _
              clear hw9 kA kB kC kD y0 y1 y2 v0 v1 v2
              go_wp2
              go_ret
              exact ⟨ret_bool (BAD.out (by first | rfl | trivial) (by simp)).symm, bstep gg1 (bstep HB.out g9)⟩
            · cases s
              · cases t
                · go_wp2
                  refine wp_region_quiet_below (by kernel_rfl) (by kernel_rfl) ?_
                  repeat (go_big_quiet_step (first | (go_at_call 30; with_reducible exact kA _ _) | (go_at_call 30; with_reducible exact kB _ _) | (go_at_call 30; with_reducible exact kC _ _) | (go_at_call 30; with_reducible exact kD _ _)))
                  refine wpQuiet_nil ?_
                  intro w9 hw9
                  have g9 : RowKit.Below wr.heap.size wr w9 := by obtain ⟨p9, rfl⟩ := hw9; exact below_regrown _ _ _
                  clear hw9 kA kB kC kD y0 y1 y2 v0 v1 v2
                  go_wp2
                  go_roundg (29 - (k + 1))
                  case measure => omega
                  case rel => exact ⟨k + 1, by omega, rfl, by go_num, hid (NXT.out (fun h => by first | trivial | (cases h; done) | (exact ⟨by first | rfl | trivial, by first | rfl | trivial⟩))), hid (bstep HB.out g9)⟩
                · go_wp2
                  refine wp_region_quiet_below (by kernel_rfl) (by kernel_rfl) ?_
                  repeat (go_big_quiet_step (first | (go_at_call 30; with_reducible exact kA _ _) | (go_at_call 30; with_reducible exact kB _ _) | (go_at_call 30; with_reducible exact kC _ _) | (go_at_call 30; with_reducible exact kD _ _)))
                  refine wpQuiet_nil ?_
                  intro w9 hw9
                  have g9 : RowKit.Below wr.heap.size wr w9 := by obtain ⟨p9, rfl⟩ := hw9; exact below_regrown _ _ _
                  clear hw9 kA kB kC kD y0 y1 y2 v0 v1 v2
                  go_wp2
                  go_ret
                  exact ⟨ret_bool (BAD.out (by first | rfl | trivial) (by simp)).symm, bstep gg1 (bstep HB.out g9)⟩
              · cases t
                · go_wp2
                  refine wp_region_quiet_below (by kernel_rfl) (by kernel_rfl) ?_
                  repeat (go_big_quiet_step (first | (go_at_call 30; with_reducible exact kA _ _) | (go_at_call 30; with_reducible exact kB _ _) | (go_at_call 30; with_reducible exact kC _ _) | (go_at_call 30; with_reducible exact kD _ _)))
                  refine wpQuiet_nil ?_
                  intro w9 hw9
                  have g9 : RowKit.Below wr.heap.size wr w9 := by obtain ⟨p9, rfl⟩ := hw9; exact below_regrown _ _ _
                  clear hw9 kA kB kC kD y0 y1 y2 v0 v1 v2
                  go_wp2
                  go_ret
                  exact ⟨ret_bool (BAD.out (by first | rfl | trivial) (by simp)).symm, bstep gg1 (bstep HB.out g9)⟩
                · go_wp2
                  refine wp_region_quiet_below (by kernel_rfl) (by kernel_rfl) ?_
                  repeat (go_big_quiet_step (first | (go_at_call 30; with_reducible exact kA _ _) | (go_at_call 30; with_reducible exact kB _ _) | (go_at_call 30; with_reducible exact kC _ _) | (go_at_call 30; with_reducible exact kD _ _)))
                  refine wpQuiet_nil ?_
                  intro w9 hw9
                  have g9 : RowKit.Below wr.heap.size wr w9 := by obtain ⟨p9, rfl⟩ := hw9; exact below_regrown _ _ _
                  clear hw9 kA kB kC kD y0 y1 y2 v0 v1 v2
                  go_wp2
                  go_roundg (29 - (k + 1))
                  case measure => omega
                  case rel => exact ⟨k + 1, by omega, rfl, by go_num, hid (NXT.out (fun h => by first | trivial | (cases h; done) | (exact ⟨by first | rfl | trivial, by first | rfl | trivial⟩))), hid (bstep HB.out g9)⟩
        · obtain rfl : k = 29 := by omega
          have HF := hid (show coversF x y = true from HLB.out.2 ⟨by first | rfl | trivial, by first | rfl | trivial, hE.out, fun j hj => HA.out j hj⟩)
          go_wp2
          go_ret
          exact ⟨ret_bool HF.out.symm, bstep gg1 HB.out⟩
      · have hee : (x.ext == y.ext) = false := by simpa using hEq
        have HF := hid (show coversF x y = false by
          cases h : coversF x y
          · rfl
          · exact absurd (HLB.out.1 h).2.2.1 hEq)
        clear hEq
        go_wp2_with (first
          | (with_reducible refine wpList_loadR rowFi rfl _ rfl _ rfl b1 rfl ?_)
          | (go_at_call 16; (with_reducible refine (kR.out w0).mono ?_); rintro q w1 ⟨rfl, g1⟩; have b3 := bx_below b2 g1)
          | (with_reducible refine wpList_loadW rowFi (by simp [Region.wanted, yielded]) _ rfl _ rfl b3 rfl ?_)
          | (go_at_call 16; (with_reducible refine (kS.out w1).mono ?_); rintro q w2 ⟨rfl, g2⟩; (have c1 := bx_below (bx_below b1 g1) g2); (have c2 := bx_below b3 g2); (obtain ⟨y0, y1, y2⟩ := bx3 c1); (obtain ⟨z0, z1, z2⟩ := bx3 c2)))
        go_ret
        exact ⟨ret_bool HF.out.symm, bstep gg0 (bstep g1 g2)⟩
end Go.Proofs.Ytmaklneiedljjaa
