/-
  FilterTells, walked: which filters are right, which frames a list lets in, by which one, what covers what, and the filters of identifiers, are as the document's own say.
-/
import Derived.Test.YtmaklneiedljjaaB11m
namespace Go.Proofs.Ytmaklneiedljjaa
open Go.RowKit Go.Sort
set_option linter.unusedVariables false

set_option maxRecDepth 100000 in
set_option maxHeartbeats 8000000 in
theorem filterTells_walk (w : World) (a : Option Addr) (n c : Nat) (l : List Fi) (id : Nat) (e rm : Bool) (x y : Fi) (a2 : Option Addr) (n2 c2 : Nat) (u : List Nat) (h : RK fiE 3 w a n c l) (hok : ∀ x ∈ l, x.Ok) (hi : id < 4294967296) (hx : x.Ok) (hy : y.Ok) (h2 : RL wv w a2 n2 c2 u) (hu : ∀ x ∈ u, x < 4294967296) (hn : n ≤ 9223372036854775807) (hn2 : n2 ≤ 9223372036854775807) :
    Calls Try.prog 3 #[.slice a n c, .int .u32 (id : Int), .bool e, .bool rm, .agg (fiV x), .agg (fiV y), .slice a2 n2 c2] w fun q w' => q = .returned (.bool true) ∧ RowKit.Below w.heap.size w w' := by
  obtain ⟨w0, hw0, b1, b2, gg0⟩ := boxed11b w 25 25 (fiV x) (fiV y)
  by_cases h200 : 200 < n2
  · go_enter Try.func3, Try.ntmps3
    go_upto_region 1 with fail
    rw [hw0.out]
    clear hw0 b1 b2
    go_wp2_with (go_at_call 8; (with_reducible refine (awake11_any _).mono ?_); rintro q w1 ⟨rfl, g1⟩)
    go_ret
    exact ⟨rfl, bstep gg0 g1⟩
  · obtain ⟨N, hN⟩ : ∃ N, N = min n 30 := ⟨_, rfl⟩
    have hm1 : ∀ ts t w', (Builtin.min_ ts t #[.int .i64 (n : Int), .int .i64 30]).run Try.prog w' = .ok (.int .i64 (N : Int)) w' := min_fact n N 30 hN
    obtain ⟨b, hcut1, r1⟩ := cutK_eq tFi (h.below gg0) .i64 N (by omega)
    have hN30 : N ≤ 30 := by omega
    have o1 : ∀ x ∈ l.take N, x.Ok := fun x hx => hok x (List.mem_of_mem_take hx)
    have U0 := hid (h2.below gg0)
    clear hN h hok h2
    generalize l.take N = L at *
    -- what is answered
    have K1 := hid (fun (w : World) (h : RK fiE 3 w b N c L) => fiFirst_any w b N c L id e rm (.int .u8 0) (.slice none 0 0) h o1 (by omega) hi)
    have K2 := hid (fun (w : World) (h : RK fiE 3 w b N c L) => refFirst_any w b N c L id e rm (.int .u8 0) (.slice none 0 0) h o1 (by omega) hi)
    have K3 := hid (fun (w : World) (h : RL wv w a2 n2 c2 u) => only_any w a2 n2 c2 u e h (by omega))
    have K4 := hid (fun (w : World) (h : RL wv w a2 n2 c2 u) => refOnly_any w a2 n2 c2 u e h hu (by omega))
    have K5 := hid (fun (w : World) (h : RK fiE 3 w b N c L) => fiPass_any w b N c L id e rm (.int .u8 0) (.slice none 0 0) h o1 (by omega) hi)
    have K6 := hid (fun (w : World) (h : RK fiE 3 w b N c L) => refPass_any w b N c L id e rm (.int .u8 0) (.slice none 0 0) h o1 (by omega) hi)
    have K7 := hid (fun (w : World) => fiRight_any x hx w)
    have K8 := hid (fun (w : World) => refRight11_any x hx w)
    have K9 := hid (fun (w : World) => covers_any x y hx hy w)
    have K10 := hid (fun (w : World) => refCovers_any x y hx hy w)
    have HUL := hid (show (onlyL e u).length ≤ 1000000 from by
      unfold onlyL
      split
      · rename_i h0
        have := uqL_length u
        have h3 := U0.out.len
        simp; omega
      · simp)
    generalize max (fiF id e L) 0 = i at *
    generalize anyF id e L = A at *
    generalize onlyE e u = E at *
    generalize onlyL e u = X at *
    generalize passF id e L = p at *
    generalize rightF x = R at *
    generalize coversF x y = C at *
    have R0 := hid r1
    have B1 := hid b1
    have B2 := hid b2
    clear r1 o1 hu hx hy hi b1 b2
    have qi : (i == i) = true := by simp
    have qA : (A == A) = true := by simp
    have qp : (p == p) = true := by simp
    have qR : (R == R) = true := by simp
    have qC : (C == C) = true := by simp
    have qE : (E == E) = true := by simp
    go_enter Try.func3, Try.ntmps3
    go_upto_region 1 with fail
    rw [hw0.out]
    clear hw0
    go_upto_region 4 with fail
    have bW := heap_alloc_new w0 (.cells (fmV id e rm (.int .u8 0) (.slice none 0 0)) 30)
    have gW := bnew0 w0 (.cells (fmV id e rm (.int .u8 0) (.slice none 0 0)) 30)
    have R1 := hid (R0.out.below gW)
    have U1 := hid (U0.out.below gW)
    have b1 := bx_below B1.out gW
    have b2 := bx_below B2.out gW
    have B1 := hid b1
    have B2 := hid b2
    clear b1 b2 hm1 hcut1
    go_upto_region 5 with fail
    generalize w0.alloc (.cells (fmV id e rm (.int .u8 0) (.slice none 0 0)) 30) = W at *
    have gg := bstep gg0 gW
    go_upto_region 9 with (first
      | (with_reducible refine wpList_loadR rowF rfl _ rfl _ rfl bW rfl ?_)
      | (go_at_call 9; (with_reducible refine (K1.out W R1.out).mono ?_); rintro r v1 ⟨rfl, q1⟩; have d1 := bx_below bW q1; have R2 := hid (R1.out.below q1); have U2 := hid (U1.out.below q1); have gg1 := bstep gg q1)
      | (with_reducible refine wpList_loadR rowF rfl _ rfl _ rfl d1 rfl ?_)
      | (go_at_call 10; (with_reducible refine (K2.out v1 R2.out).mono ?_); rintro r v2 ⟨rfl, q2⟩; have d2 := bx_below d1 q2; have R3 := hid (R2.out.below q2); have U3 := hid (U2.out.below q2); have gg2 := bstep gg1 q2)
      | (go_at_call 11; (with_reducible refine (K3.out v2 U3.out).mono ?_); rintro r v3 ⟨a3, m3, c3, rfl, ok3, q3⟩; have U4 := hid (U3.out.below q3); have X3 := hid (ok3.rk eFi); clear ok3)
      | (go_at_call 12; (with_reducible refine (K4.out v3 U4.out).mono ?_); rintro r v4 ⟨a4, m4, c4, rfl, ok4, q4⟩; have X5 := hid (X3.out.below q4); have X4 := hid (ok4.rk eFi); clear ok4))
    have q34 := q3.trans (q4.mono q3.size)
    have d4 := bx_below d2 q34
    have R4 := hid (R3.out.below q34)
    have gg4 := bstep gg2 q34
    have e1 := bx_below (bx_below (bx_below B1.out q1) q2) q34
    have e2 := bx_below (bx_below (bx_below B2.out q1) q2) q34
    obtain ⟨z0, z1, z2, z3, z4⟩ := bx5 d4
    obtain ⟨x0, x1, x2⟩ := bx3 e1
    obtain ⟨y0, y1, y2⟩ := bx3 e2
    have ZF := hid (And.intro z0 (And.intro z1 (And.intro z2 (And.intro z3 z4))))
    clear bW d1 d2 d4 e1 e2 K1 K2 K3 K4 q34
    have z0 : ∀ d os, (grow (redrawn v4 d) os).cell? ⟨w0.heap.size, 0, none⟩ = _ := fun d os => cell_regrown z0 d os
    have z1 : ∀ d os, (grow (redrawn v4 d) os).cell? ⟨w0.heap.size, 1, none⟩ = _ := fun d os => cell_regrown z1 d os
    have z2 : ∀ d os, (grow (redrawn v4 d) os).cell? ⟨w0.heap.size, 2, none⟩ = _ := fun d os => cell_regrown z2 d os
    have z3 : ∀ d os, (grow (redrawn v4 d) os).cell? ⟨w0.heap.size, 3, none⟩ = _ := fun d os => cell_regrown z3 d os
    have z4 : ∀ d os, (grow (redrawn v4 d) os).cell? ⟨w0.heap.size, 4, none⟩ = _ := fun d os => cell_regrown z4 d os
    have x0 : ∀ d os, (grow (redrawn v4 d) os).cell? ⟨w.heap.size, 0, none⟩ = _ := fun d os => cell_regrown x0 d os
    have x1 : ∀ d os, (grow (redrawn v4 d) os).cell? ⟨w.heap.size, 1, none⟩ = _ := fun d os => cell_regrown x1 d os
    have x2 : ∀ d os, (grow (redrawn v4 d) os).cell? ⟨w.heap.size, 2, none⟩ = _ := fun d os => cell_regrown x2 d os
    have y0 : ∀ d os, (grow (redrawn v4 d) os).cell? ⟨w.heap.size + 1, 0, none⟩ = _ := fun d os => cell_regrown y0 d os
    have y1 : ∀ d os, (grow (redrawn v4 d) os).cell? ⟨w.heap.size + 1, 1, none⟩ = _ := fun d os => cell_regrown y1 d os
    have y2 : ∀ d os, (grow (redrawn v4 d) os).cell? ⟨w.heap.size + 1, 2, none⟩ = _ := fun d os => cell_regrown y2 d os
    have kP : ∀ d os, Calls Try.prog 13 #[.slice b N c, .agg #[.int .u32 (id : Int), .bool e, .bool rm, .int .u8 0, .slice none 0 0]] (grow (redrawn v4 d) os) fun q w'' => q = .returned (.bool p) ∧ ∃ r : Regrown, w'' = grow (redrawn v4 r.d) r.os := fun d os => Calls.regrown_of (K5.out _ (R4.out.below (below_regrown _ _ _)))
    have kP2 : ∀ d os, Calls Try.prog 14 #[.slice b N c, .agg #[.int .u32 (id : Int), .bool e, .bool rm, .int .u8 0, .slice none 0 0]] (grow (redrawn v4 d) os) fun q w'' => q = .returned (.bool p) ∧ ∃ r : Regrown, w'' = grow (redrawn v4 r.d) r.os := fun d os => Calls.regrown_of (K6.out _ (R4.out.below (below_regrown _ _ _)))
    have kR : ∀ d os, Calls Try.prog 15 #[.agg #[.bool x.ext, .int .u32 (x.mask : Int), .int .u32 (x.mat : Int)]] (grow (redrawn v4 d) os) fun q w'' => q = .returned (.bool R) ∧ ∃ r : Regrown, w'' = grow (redrawn v4 r.d) r.os := fun d os => Calls.regrown_of (K7.out _)
    have kR2 : ∀ d os, Calls Try.prog 16 #[.agg #[.bool x.ext, .int .u32 (x.mask : Int), .int .u32 (x.mat : Int)]] (grow (redrawn v4 d) os) fun q w'' => q = .returned (.bool R) ∧ ∃ r : Regrown, w'' = grow (redrawn v4 r.d) r.os := fun d os => Calls.regrown_of (K8.out _)
    have kC : ∀ d os, Calls Try.prog 17 #[.agg #[.bool x.ext, .int .u32 (x.mask : Int), .int .u32 (x.mat : Int)], .agg #[.bool y.ext, .int .u32 (y.mask : Int), .int .u32 (y.mat : Int)]] (grow (redrawn v4 d) os) fun q w'' => q = .returned (.bool C) ∧ ∃ r : Regrown, w'' = grow (redrawn v4 r.d) r.os := fun d os => Calls.regrown_of (K9.out _)
    have kC2 : ∀ d os, Calls Try.prog 18 #[.agg #[.bool x.ext, .int .u32 (x.mask : Int), .int .u32 (x.mat : Int)], .agg #[.bool y.ext, .int .u32 (y.mask : Int), .int .u32 (y.mat : Int)]] (grow (redrawn v4 d) os) fun q w'' => q = .returned (.bool C) ∧ ∃ r : Regrown, w'' = grow (redrawn v4 r.d) r.os := fun d os => Calls.regrown_of (K10.out _)
    have kL : ∀ d os, Calls Try.prog 19 #[.slice a3 m3 c3, .slice a4 m4 c4] (grow (redrawn v4 d) os) fun q w'' => q = .returned (.bool true) ∧ ∃ r : Regrown, w'' = grow (redrawn v4 r.d) r.os := fun d os => Calls.regrown_of (by
      have := fiLists_any _ a3 m3 c3 X a4 m4 c4 X (X5.out.below (below_regrown v4 d os)) (X4.out.below (below_regrown v4 d os)) (by rw [← X4.out.len] at *; have := X3.out.len; have := HUL.out; omega)
      rw [decide_eq_true rfl] at this
      exact this)
    have kA : ∀ d os, Calls Try.prog 8 #[] (grow (redrawn v4 d) os) fun q w'' => q = .returned (.bool true) ∧ ∃ r : Regrown, w'' = grow (redrawn v4 r.d) r.os := fun d os => Calls.regrown_of (awake11_any _)
    clear ZF K5 K6 K7 K8 K9 K10
    go_wp2
    refine wp_region_quiet_below (by kernel_rfl) (by kernel_rfl) ?_
    repeat (go_big_quiet_step (first
      | (go_at_call 13; with_reducible exact kP _ _)
      | (go_at_call 14; with_reducible exact kP2 _ _)
      | (go_at_call 15; with_reducible exact kR _ _)
      | (go_at_call 16; with_reducible exact kR2 _ _)
      | (go_at_call 17; with_reducible exact kC _ _)
      | (go_at_call 18; with_reducible exact kC2 _ _)
      | (go_at_call 19; with_reducible exact kL _ _)
      | (go_at_call 8; with_reducible exact kA _ _)))
    refine wpQuiet_nil ?_
    intro w9 hw9
    have g9 : RowKit.Below v4.heap.size v4 w9 := by obtain ⟨p9, rfl⟩ := hw9; exact below_regrown _ _ _
    clear hw9
    go_wp2
    go_ret
    exact ⟨ret_bool (by simp), bstep gg4 g9⟩
end Go.Proofs.Ytmaklneiedljjaa
