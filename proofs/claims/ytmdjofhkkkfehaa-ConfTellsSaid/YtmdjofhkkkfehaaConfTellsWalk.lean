/-
  The walk of the statement ConfTells: for any counters, any event and any bit it returns true, and nothing that was there has changed.
-/
import Derived.Test.YtmdjofhkkkfehaaB6i
namespace Go.Proofs.Ytmdjofhkkkfehaa
open Go.RowKit Go.Sort
set_option linter.unusedVariables false

set_option maxHeartbeats 2000000 in
theorem confTells_walk (w : World) (t r : Int) (o : Bool) (n m : Int) (k : Nat) (x : Bool) (hk : k < 256) :
    Calls Try.prog 3 #[.agg #[.int .i64 t, .int .i64 r, .bool o, .int .i64 n, .int .i64 m], .int .u8 (k : Int), .bool x] w fun e w' => e = .returned (.bool true) ∧ Below w.heap.size w w' := by
  obtain ⟨c', hc'⟩ : ∃ c', evC ⟨t, r, o, n, m⟩ k = c' := ⟨_, rfl⟩
  obtain ⟨ee, he⟩ : ∃ ee, evE ⟨t, r, o, n, m⟩ k = ee := ⟨_, rfl⟩
  obtain ⟨t', r', o', n', m'⟩ := c'
  obtain ⟨c2, hc2⟩ : ∃ c2, biC ⟨t, r, o, n, m⟩ x = c2 := ⟨_, rfl⟩
  obtain ⟨t2, r2, o2, n2, m2⟩ := c2
  have kE := event_at hk hc' he
  have kE' := refEvent_at hk hc' he
  have kR := fun w => right_any w t r o n m
  have kR' := fun w => refRight_any w t r o n m
  have kM := fun w => mode_any w t r o n m
  have kM' := fun w => refMode_any w t r o n m
  have kB := bit_at hc2
  have kB' := refBit_at hc2
  have q1 : ∀ w, (binOp .eql 23 (.agg #[.int .i64 t', .int .i64 r', .bool o', .int .i64 n', .int .i64 m']) (.agg #[.int .i64 t', .int .i64 r', .bool o', .int .i64 n', .int .i64 m'])).run Try.prog w = .ok (.bool true) w := fun w => by rw [eqC, decide_eq_true rfl]
  have q2 : ∀ w, (binOp .eql 23 (.agg #[.int .i64 t2, .int .i64 r2, .bool o2, .int .i64 n2, .int .i64 m2]) (.agg #[.int .i64 t2, .int .i64 r2, .bool o2, .int .i64 n2, .int .i64 m2])).run Try.prog w = .ok (.bool true) w := fun w => by rw [eqC, decide_eq_true rfl]
  have hgu := guC
  generalize riC ⟨t, r, o, n, m⟩ = b at kR kR'
  generalize moC ⟨t, r, o, n, m⟩ = q at kM kM'
  clear hc' he hc2
  go_enter Try.func3, Try.ntmps3
  go_wp2_with (first
    | (go_at_call 10; (with_reducible refine (kE _).mono ?_); rintro e w1 ⟨rfl, g1⟩; obtain ⟨p1, gg1, _⟩ := one_bx g1; obtain ⟨c0, c1, c2, c3, c4, cf⟩ := (show Bc _ _ ⟨t, r, o, n, m⟩ from bx_alloc (.cells #[.int .i64 t', .int .i64 r', .bool o', .int .i64 n', .int .i64 m'] 23) p1).all)
    | (go_at_call 11; (with_reducible refine (kE' _).mono ?_); rintro e w2 ⟨rfl, g2⟩; clear c0 c1 c2 c3 c4 cf; have p2 := bx_below (bx_alloc _ p1) g2; obtain ⟨q2', gg2, _⟩ := one_bx g2; have gg2 := gg1.trans (gg2.mono gg1.size)))
  clear kE kE'
  have pc : Bc (w2.alloc (.cells #[.int .i64 t', .int .i64 r', .bool o', .int .i64 n', .int .i64 m'] 23)) w.heap.size ⟨t, r, o, n, m⟩ := bx_alloc _ p2
  have px : Bc (w2.alloc (.cells #[.int .i64 t', .int .i64 r', .bool o', .int .i64 n', .int .i64 m'] 23)) w1.heap.size ⟨t', r', o', n', m'⟩ := bx_alloc _ q2'
  have py : Bc (w2.alloc (.cells #[.int .i64 t', .int .i64 r', .bool o', .int .i64 n', .int .i64 m'] 23)) w2.heap.size ⟨t', r', o', n', m'⟩ := Bc.new w2 t' r' o' n' m'
  have gw := bnew gg2 (.cells #[.int .i64 t', .int .i64 r', .bool o', .int .i64 n', .int .i64 m'] 23)
  generalize w2.alloc (.cells #[.int .i64 t', .int .i64 r', .bool o', .int .i64 n', .int .i64 m'] 23) = W at *
  obtain ⟨c0, c1, c2, c3, c4⟩ := pc.gr
  obtain ⟨d0, d1, d2, d3, d4⟩ := px.gr
  obtain ⟨e0, e1, e2, e3, e4⟩ := py.gr
  have gR := toGr W kR
  have gR' := toGr W kR'
  have gM := toGr W kM
  have gM' := toGr W kM'
  have gB := toGr W kB
  have gB' := toGr W kB'
  have gA := toGr W awake_any
  clear kR kR' kM kM' kB kB' pc px py p1 p2 q2' g1 g2 gg1 gg2
  refine wp_region_quiet_below (by kernel_rfl) (by kernel_rfl) ?_
  repeat (go_big_quiet_step (first
    | (go_at_call 12; with_reducible exact gR _ _)
    | (go_at_call 13; with_reducible exact gR' _ _)
    | (go_at_call 14; with_reducible exact gM _ _)
    | (go_at_call 15; with_reducible exact gM' _ _)
    | (go_at_call 16; with_reducible exact gB _ _)
    | (go_at_call 17; with_reducible exact gB' _ _)
    | (go_at_call 18; with_reducible exact gA _ _)))
  refine wpQuiet_nil ?_
  intro w9 hw9
  have gg : Below W.heap.size W w9 := by obtain ⟨p9, rfl⟩ := hw9; exact below_regrown _ _ _
  clear hw9
  go_wp2
  go_ret
  exact ⟨rfl, bstep gw gg⟩
end Go.Proofs.Ytmdjofhkkkfehaa
