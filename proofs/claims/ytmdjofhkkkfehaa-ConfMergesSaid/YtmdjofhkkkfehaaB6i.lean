/-
  Boxes of counters in a region that draws its order; contracts of the callees there; begun.
-/
import Derived.Test.YtmdjofhkkkfehaaB6h
import Derived.Lib.QuietBelow
namespace Go.Proofs.Ytmdjofhkkkfehaa
open Go.RowKit Go.Sort
set_option linter.unusedVariables false

/-- What a box of counters says in every world that has only grown and drawn since. -/
structure BcGr (w : World) (g : Nat) (t r : Int) (o : Bool) (n m : Int) : Prop where
  c0 : ∀ d os, (grow (redrawn w d) os).cell? ⟨g, 0, none⟩ = some (.int .i64 t)
  c1 : ∀ d os, (grow (redrawn w d) os).cell? ⟨g, 1, none⟩ = some (.int .i64 r)
  c2 : ∀ d os, (grow (redrawn w d) os).cell? ⟨g, 2, none⟩ = some (.bool o)
  c3 : ∀ d os, (grow (redrawn w d) os).cell? ⟨g, 3, none⟩ = some (.int .i64 n)
  c4 : ∀ d os, (grow (redrawn w d) os).cell? ⟨g, 4, none⟩ = some (.int .i64 m)

theorem Bc.gr {w : World} {g : Nat} {t r : Int} {o : Bool} {n m : Int} (h : Bc w g ⟨t, r, o, n, m⟩) : BcGr w g t r o n m := by
  obtain ⟨a, b, c, d, e⟩ := bx5 h
  exact ⟨fun d os => cell_regrown a d os, fun d os => cell_regrown b d os, fun d os => cell_regrown c d os, fun d os => cell_regrown (by assumption) d os, fun d os => cell_regrown e d os⟩

/-- A contract of one result, met in a region that draws. -/
theorem toGr {f : FuncId} {args : Array Value} {v : Value} (W : World) (h : ∀ w, Calls Try.prog f args w fun e w' => e = .returned v ∧ Below w.heap.size w w') :
    ∀ d os, Calls Try.prog f args (grow (redrawn W d) os) fun e w'' => e = .returned v ∧ ∃ p : Regrown, w'' = grow (redrawn W p.d) p.os := fun d os => Calls.regrown_of (h _)

theorem begun_any (w : World) (t r : Int) (o : Bool) (n m : Int) : Calls Try.prog 19 #[.agg #[.int .i64 t, .int .i64 r, .bool o, .int .i64 n, .int .i64 m]] w fun e w' =>
    ∃ t' r' o' n' m', e = .returned (.agg #[.int .i64 t', .int .i64 r', .bool o', .int .i64 n', .int .i64 m']) ∧ riC ⟨t', r', o', n', m'⟩ = true ∧ Below w.heap.size w w' := by
  have kR := fun w => right_any w t r o n m
  cases hr : riC ⟨t, r, o, n, m⟩
  · rw [hr] at kR
    clear hr
    go_enter Try.func19, Try.ntmps19
    go_wp2_with (go_at_call 12; (with_reducible refine (kR _).mono ?_); rintro e w1 ⟨rfl, g1⟩; obtain ⟨⟨c0, c1, c2, c3, c4⟩, ⟨d0, d1, d2, d3, d4⟩, f1, f2, gg1⟩ := two_five g1)
    exact bodyPost_ret (v := .agg #[.int .i64 0, .int .i64 0, .bool false, .int .i64 0, .int .i64 0]) (by simp [results, Try.results19, go_sem, d0, d1, d2, d3, d4]) rfl ⟨0, 0, false, 0, 0, rfl, by decide, below_set5 gg1 (by omega) _ _ _ _ _⟩
  · rw [hr] at kR
    have HR := hid hr; clear hr
    go_enter Try.func19, Try.ntmps19
    go_wp2_with (go_at_call 12; (with_reducible refine (kR _).mono ?_); rintro e w1 ⟨rfl, g1⟩; obtain ⟨⟨c0, c1, c2, c3, c4⟩, ⟨d0, d1, d2, d3, d4⟩, f1, f2, gg1⟩ := two_five g1)
    exact bodyPost_ret (v := .agg #[.int .i64 t, .int .i64 r, .bool o, .int .i64 n, .int .i64 m]) (by simp [results, Try.results19, go_sem, d0, d1, d2, d3, d4]) rfl ⟨t, r, o, n, m, rfl, HR.out, below_set5 gg1 (by omega) _ _ _ _ _⟩
end Go.Proofs.Ytmdjofhkkkfehaa
