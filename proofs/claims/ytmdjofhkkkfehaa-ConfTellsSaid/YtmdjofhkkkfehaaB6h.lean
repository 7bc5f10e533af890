/-
  Comparison of counters; begun; the chapter's examples.
-/
import Derived.Test.YtmdjofhkkkfehaaB6g
import Derived.WalkSmall
namespace Go.Proofs.Ytmdjofhkkkfehaa
open Go.RowKit
set_option linter.unusedVariables false

theorem eqC (t r : Int) (o : Bool) (n m t' r' : Int) (o' : Bool) (n' m' : Int) (w : World) : (binOp .eql 23 (.agg #[.int .i64 t, .int .i64 r, .bool o, .int .i64 n, .int .i64 m]) (.agg #[.int .i64 t', .int .i64 r', .bool o', .int .i64 n', .int .i64 m'])).run Try.prog w =
    .ok (.bool (decide ((⟨t, r, o, n, m⟩ : Cf) = ⟨t', r', o', n', m'⟩))) w := by
  have u3 := Try.underlying3
  have a3 := Try.isAgg3
  have z3 := Try.sizeOf3
  have u5 := Try.underlying4
  have a5 := Try.isAgg4
  have z5 := Try.sizeOf4
  have hS : Try.prog.underlying 23 = some (.struct (Try.prog.fieldsOf 23)) := by kernel_rfl
  have hp : Try.prog.stoodInHeld 23 = false := by kernel_rfl
  rw [run_eql_struct, show (10000 : Nat) = 9999 + 1 from rfl, run_equalIn_agg w 9999 23 _ _ hS hp]
  simp only [Program.fieldsOf, Try.underlying23]
  go_simp
  by_cases h1 : t = t' <;> by_cases h2 : r = r' <;> by_cases h3 : o = o' <;> by_cases h4 : n = n' <;> by_cases h5 : m = m' <;> simp [h1, h2, h3, h4, h5]

theorem neC (t r : Int) (o : Bool) (n m t' r' : Int) (o' : Bool) (n' m' : Int) (w : World) : (binOp .neq 23 (.agg #[.int .i64 t, .int .i64 r, .bool o, .int .i64 n, .int .i64 m]) (.agg #[.int .i64 t', .int .i64 r', .bool o', .int .i64 n', .int .i64 m'])).run Try.prog w =
    .ok (.bool (!decide ((⟨t, r, o, n, m⟩ : Cf) = ⟨t', r', o', n', m'⟩))) w := by
  have u3 := Try.underlying3
  have a3 := Try.isAgg3
  have z3 := Try.sizeOf3
  have u5 := Try.underlying4
  have a5 := Try.isAgg4
  have z5 := Try.sizeOf4
  have hS : Try.prog.underlying 23 = some (.struct (Try.prog.fieldsOf 23)) := by kernel_rfl
  have hp : Try.prog.stoodInHeld 23 = false := by kernel_rfl
  rw [run_neq_struct, show (10000 : Nat) = 9999 + 1 from rfl, run_equalIn_agg w 9999 23 _ _ hS hp]
  simp only [Program.fieldsOf, Try.underlying23]
  go_simp
  by_cases h1 : t = t' <;> by_cases h2 : r = r' <;> by_cases h3 : o = o' <;> by_cases h4 : n = n' <;> by_cases h5 : m = m' <;> simp [h1, h2, h3, h4, h5]

theorem guC : Try.prog.eqGuardType Try.prog.depth 23 = false := by kernel_rfl

theorem times_at {k N : Nat} {t' r' : Int} {o' : Bool} {n' m' : Int} (hk : k < 256) (hN : N ≤ 1000000) (hc : itE k N zeC = ⟨t', r', o', n', m'⟩) (w : World) : Calls Try.prog 23 #[.int .u8 (k : Int), .int .i64 (N : Int)] w fun e w' =>
    e = .returned (.agg #[.int .i64 t', .int .i64 r', .bool o', .int .i64 n', .int .i64 m']) ∧ Below w.heap.size w w' := by
  have h := times_any w k N hk hN
  rw [hc] at h
  exact h

theorem bits_at {t r : Int} {o : Bool} {n m : Int} {N : Nat} {t' r' : Int} {o' : Bool} {n' m' : Int} (hN : N ≤ 1000000) (hc : itB N ⟨t, r, o, n, m⟩ = ⟨t', r', o', n', m'⟩) (w : World) : Calls Try.prog 24 #[.agg #[.int .i64 t, .int .i64 r, .bool o, .int .i64 n, .int .i64 m], .int .i64 (N : Int)] w fun e w' =>
    e = .returned (.agg #[.int .i64 t', .int .i64 r', .bool o', .int .i64 n', .int .i64 m']) ∧ Below w.heap.size w w' := by
  have h := bits_any w t r o n m N hN
  rw [hc] at h
  exact h

theorem x1 : itE 5 16 zeC = ⟨128, 0, false, 0, 0⟩ := by decide +kernel
theorem x2 : itE 5 32 zeC = ⟨256, 0, true, 0, 0⟩ := by decide +kernel
theorem itB_add (a b : Nat) (c : Cf) : itB (a + b) c = itB a (itB b c) := by
  induction a with
  | zero => rw [Nat.zero_add]; rfl
  | succ a ih => rw [Nat.succ_add]; show biC (itB (a + b) c) true = biC (itB a (itB b c)) true; rw [ih]
theorem x3a : itB 352 ⟨256, 0, true, 0, 0⟩ = ⟨256, 0, true, 0, 32⟩ := by decide +kernel
theorem x3b : itB 352 ⟨256, 0, true, 0, 32⟩ = ⟨256, 0, true, 0, 64⟩ := by decide +kernel
theorem x3c : itB 352 ⟨256, 0, true, 0, 64⟩ = ⟨256, 0, true, 0, 96⟩ := by decide +kernel
theorem x3d : itB 351 ⟨256, 0, true, 0, 96⟩ = ⟨256, 0, true, 10, 127⟩ := by decide +kernel
theorem x3 : itB 1407 ⟨256, 0, true, 0, 0⟩ = ⟨256, 0, true, 10, 127⟩ := by
  rw [show 1407 = 351 + (352 + (352 + 352)) from rfl, itB_add, itB_add, itB_add, x3a, x3b, x3c, x3d]
theorem x4 : itB 1408 ⟨256, 0, true, 0, 0⟩ = ⟨0, 0, false, 0, 0⟩ := by
  show biC (itB 1407 ⟨256, 0, true, 0, 0⟩) true = _
  rw [x3]; decide +kernel
theorem x5 : itB 11 ⟨256, 0, true, 0, 127⟩ = ⟨0, 0, false, 0, 0⟩ := by decide +kernel

/-- The four boxes of awake. -/
structure Aw (w0 w : World) (B1 B2 B3 B4 : Nat) : Prop where
  p : Bc w B1 ⟨128, 0, false, 0, 0⟩
  o : Bc w B2 ⟨256, 0, true, 0, 0⟩
  k : Bc w B3 ⟨0, 119, false, 0, 0⟩
  n : Bc w B4 ⟨256, 0, true, 10, 127⟩
  g : Below w0.heap.size w0 w

theorem Aw.call {w0 w w' : World} {B1 B2 B3 B4 : Nat} (h : Aw w0 w B1 B2 B3 B4) (hb : Below w.heap.size w w') : Aw w0 w' B1 B2 B3 B4 :=
  ⟨h.p.below hb, h.o.below hb, h.k.below hb, h.n.below hb, bstep h.g hb⟩

set_option maxHeartbeats 2000000 in
theorem awake_any (w : World) : Calls Try.prog 18 #[] w fun e w' => e = .returned (.bool true) ∧ Below w.heap.size w w' := by
  have k1 : ∀ w, Calls Try.prog 23 #[.int .u8 5, .int .i64 16] w fun e w' => e = .returned (.agg #[.int .i64 128, .int .i64 0, .bool false, .int .i64 0, .int .i64 0]) ∧ Below w.heap.size w w' := fun w => times_at (k := 5) (N := 16) (by decide) (by decide) x1 w
  have k2 : ∀ w, Calls Try.prog 23 #[.int .u8 5, .int .i64 32] w fun e w' => e = .returned (.agg #[.int .i64 256, .int .i64 0, .bool true, .int .i64 0, .int .i64 0]) ∧ Below w.heap.size w w' := fun w => times_at (k := 5) (N := 32) (by decide) (by decide) x2 w
  have k3 : ∀ w, Calls Try.prog 10 #[.agg #[.int .i64 0, .int .i64 200, .bool false, .int .i64 0, .int .i64 0], .int .u8 9] w fun e w' => e = .returned (.tuple #[.agg #[.int .i64 0, .int .i64 119, .bool false, .int .i64 0, .int .i64 0], .int .i64 0]) ∧ Below w.heap.size w w' := fun w => event_at (k := 9) (by decide) (by decide +kernel) (by decide +kernel) w
  have k4 : ∀ w, Calls Try.prog 24 #[.agg #[.int .i64 256, .int .i64 0, .bool true, .int .i64 0, .int .i64 0], .int .i64 1407] w fun e w' => e = .returned (.agg #[.int .i64 256, .int .i64 0, .bool true, .int .i64 10, .int .i64 127]) ∧ Below w.heap.size w w' := fun w => bits_at (N := 1407) (by decide) x3 w
  have k5 : ∀ w, Calls Try.prog 14 #[.agg #[.int .i64 128, .int .i64 0, .bool false, .int .i64 0, .int .i64 0]] w fun e w' => e = .returned (.int .u8 1) ∧ Below w.heap.size w w' := fun w => mode_at (q := 1) (by decide +kernel) w
  have k6 : ∀ w, Calls Try.prog 14 #[.agg #[.int .i64 256, .int .i64 0, .bool true, .int .i64 0, .int .i64 0]] w fun e w' => e = .returned (.int .u8 2) ∧ Below w.heap.size w w' := fun w => mode_at (q := 2) (by decide +kernel) w
  have k7 : ∀ w, Calls Try.prog 24 #[.agg #[.int .i64 256, .int .i64 0, .bool true, .int .i64 0, .int .i64 0], .int .i64 1408] w fun e w' => e = .returned (.agg #[.int .i64 0, .int .i64 0, .bool false, .int .i64 0, .int .i64 0]) ∧ Below w.heap.size w w' := fun w => bits_at (N := 1408) (by decide) x4 w
  have k8 : ∀ w, Calls Try.prog 14 #[.agg #[.int .i64 0, .int .i64 0, .bool false, .int .i64 0, .int .i64 0]] w fun e w' => e = .returned (.int .u8 0) ∧ Below w.heap.size w w' := fun w => mode_at (q := 0) (by decide +kernel) w
  have k9 : ∀ w, Calls Try.prog 16 #[.agg #[.int .i64 256, .int .i64 0, .bool true, .int .i64 10, .int .i64 127], .bool false] w fun e w' => e = .returned (.agg #[.int .i64 256, .int .i64 0, .bool true, .int .i64 0, .int .i64 127]) ∧ Below w.heap.size w w' := fun w => bit_at (by decide +kernel) w
  have k10 : ∀ w, Calls Try.prog 24 #[.agg #[.int .i64 256, .int .i64 0, .bool true, .int .i64 0, .int .i64 127], .int .i64 11] w fun e w' => e = .returned (.agg #[.int .i64 0, .int .i64 0, .bool false, .int .i64 0, .int .i64 0]) ∧ Below w.heap.size w w' := fun w => bits_at (N := 11) (by decide) x5 w
  have hq : ∀ w, (binOp .eql 23 (.agg #[.int .i64 0, .int .i64 0, .bool false, .int .i64 0, .int .i64 0]) (.agg #[.int .i64 0, .int .i64 0, .bool false, .int .i64 0, .int .i64 0])).run Try.prog w = .ok (.bool true) w := fun w => by rw [eqC, decide_eq_true rfl]
  have hgu := guC
  go_enter Try.func18, Try.ntmps18
  go_wp2_with (first
    | (go_at_call 23; (with_reducible refine (k1 _).mono ?_); rintro e w1 ⟨rfl, g1⟩)
    | (go_at_call 23; (with_reducible refine (k2 _).mono ?_); rintro e w2 ⟨rfl, g2⟩; have gg2 := bstep g1 g2)
    | (go_at_call 10; (with_reducible refine (k3 _).mono ?_); rintro e w3 ⟨rfl, g3⟩; obtain ⟨p3, o3, gg3⟩ := two_bx g3; have gg3 := gg2.trans (gg3.mono gg2.size); obtain ⟨c0, c1, c2, c3, c4, cf⟩ := (show Bc _ _ ⟨256, 0, true, 0, 0⟩ from bx_alloc (.cells #[.int .i64 0, .int .i64 119, .bool false, .int .i64 0, .int .i64 0] 23) o3).all)
    | (go_at_call 24; (with_reducible refine (k4 _).mono ?_); rintro e w4 ⟨rfl, g4⟩; clear c0 c1 c2 c3 c4 cf; obtain ⟨k4', q4, _⟩ := one_bx g4; have gg4 := gg3.trans (q4.mono gg3.size); have a4 : Aw w (w4.alloc (.cells #[.int .i64 256, .int .i64 0, .bool true, .int .i64 10, .int .i64 127] 23)) w2.heap.size (w2.heap.size + 1) w3.heap.size w4.heap.size := ⟨bx_alloc _ (bx_below (bx_alloc _ p3) g4), bx_alloc _ (bx_below (bx_alloc _ o3) g4), bx_alloc _ k4', Bc.new w4 256 0 true 10 127, bnew gg4 _⟩; obtain ⟨c0, c1, c2, c3, c4, cf⟩ := a4.p.all)
    | (go_at_call 14; (with_reducible refine (k5 _).mono ?_); rintro e w5 ⟨rfl, g5⟩; have a5 := a4.call g5; clear c0 c1 c2 c3 c4 cf; obtain ⟨c0, c1, c2, c3, c4, cf⟩ := a5.o.all; obtain ⟨d0, d1, d2, d3, d4, df⟩ := a5.k.all; obtain ⟨e0, e1, e2, e3, e4, ef⟩ := a5.n.all)
    | (go_at_call 14; (with_reducible refine (k6 _).mono ?_); rintro e w6 ⟨rfl, g6⟩; have a6 := a5.call g6; clear c0 c1 c2 c3 c4 cf d0 d1 d2 d3 d4 df e0 e1 e2 e3 e4 ef; obtain ⟨c0, c1, c2, c3, c4, cf⟩ := a6.o.all; obtain ⟨d0, d1, d2, d3, d4, df⟩ := a6.k.all; obtain ⟨e0, e1, e2, e3, e4, ef⟩ := a6.n.all)
    | (go_at_call 24; (with_reducible refine (k7 _).mono ?_); rintro e w7 ⟨rfl, g7⟩; have a7 := a6.call g7; clear c0 c1 c2 c3 c4 cf d0 d1 d2 d3 d4 df e0 e1 e2 e3 e4 ef; obtain ⟨c0, c1, c2, c3, c4, cf⟩ := a7.o.all; obtain ⟨d0, d1, d2, d3, d4, df⟩ := a7.k.all; obtain ⟨e0, e1, e2, e3, e4, ef⟩ := a7.n.all)
    | (go_at_call 14; (with_reducible refine (k8 _).mono ?_); rintro e w8 ⟨rfl, g8⟩; have a8 := a7.call g8; clear c0 c1 c2 c3 c4 cf d0 d1 d2 d3 d4 df e0 e1 e2 e3 e4 ef; obtain ⟨c0, c1, c2, c3, c4, cf⟩ := a8.o.all; obtain ⟨d0, d1, d2, d3, d4, df⟩ := a8.k.all; obtain ⟨e0, e1, e2, e3, e4, ef⟩ := a8.n.all)
    | (go_at_call 16; (with_reducible refine (k9 _).mono ?_); rintro e w9 ⟨rfl, g9⟩; have a9 := a8.call g9; clear c0 c1 c2 c3 c4 cf d0 d1 d2 d3 d4 df e0 e1 e2 e3 e4 ef; obtain ⟨c0, c1, c2, c3, c4, cf⟩ := a9.o.all; obtain ⟨d0, d1, d2, d3, d4, df⟩ := a9.k.all; obtain ⟨e0, e1, e2, e3, e4, ef⟩ := a9.n.all)
    | (go_at_call 24; (with_reducible refine (k10 _).mono ?_); rintro e w10 ⟨rfl, g10⟩; have a10 := a9.call g10; clear c0 c1 c2 c3 c4 cf d0 d1 d2 d3 d4 df e0 e1 e2 e3 e4 ef; obtain ⟨c0, c1, c2, c3, c4, cf⟩ := a10.o.all; obtain ⟨d0, d1, d2, d3, d4, df⟩ := a10.k.all; obtain ⟨e0, e1, e2, e3, e4, ef⟩ := a10.n.all))
  go_ret
  exact ⟨rfl, a10.g⟩
end Go.Proofs.Ytmdjofhkkkfehaa
