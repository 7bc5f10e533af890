/-
  The program's comparison of two flips: what it answers, and that it leaves all that was there.
-/
import Derived.Test.YtoeeaohgihipgaaB5
import Derived.Test.YtoeeaohgihipgaaBase2
import Derived.StillTailTactics
import Derived.Sort.Grow
namespace Go.Proofs.Ytoeeaohgihipgaa
open Go.RowKit Go.Sort
set_option linter.unusedVariables false

set_option maxHeartbeats 1000000 in
theorem closure_any (x y : Fl) (w : World) : Calls Try.prog 31 #[.agg #[.int .i64 x.1, .int .u8 (x.2 : Int)], .agg #[.int .i64 y.1, .int .u8 (y.2 : Int)]] w fun e w' => e = .returned (.int .i64 (cmpF x y)) ∧ ∃ q os', w' = grow (w.drewN q) os' := by
  obtain ⟨x0, x1⟩ := x
  obtain ⟨y0, y1⟩ := y
  rw [← orI_cmp]
  show Calls _ _ #[.agg #[.int .i64 x0, .int .u8 (x1 : Int)], .agg #[.int .i64 y0, .int .u8 (y1 : Int)]] w fun e w' => e = .returned (.int .i64 (orI (cmpI x0 y0) (cmpI x1 y1))) ∧ ∃ q os', w' = grow (w.drewN q) os'
  have w1 : ∃ w1, Hid ((w.alloc (.cells #[.int .i64 x0, .int .u8 (x1 : Int)] 38)).alloc (.cells #[.int .i64 y0, .int .u8 (y1 : Int)] 38) = w1) ∧ w1.heap[w.heap.size]? = some (.cells #[.int .i64 x0, .int .u8 (x1 : Int)] 38 (0, 0)) ∧ w1.heap[w.heap.size + 1]? = some (.cells #[.int .i64 y0, .int .u8 (y1 : Int)] 38 (0, 0)) ∧ Hid (w1 = grow w #[.cells #[.int .i64 x0, .int .u8 (x1 : Int)] 38, .cells #[.int .i64 y0, .int .u8 (y1 : Int)] 38]) := by
    refine ⟨_, rfl, bx_alloc _ (heap_alloc_new w _), ?_, ?_⟩
    · have := heap_alloc_new (w.alloc (.cells #[.int .i64 x0, .int .u8 (x1 : Int)] 38)) (.cells #[.int .i64 y0, .int .u8 (y1 : Int)] 38)
      simpa using this
    · exact hid (by rw [alloc_eq_grow, alloc_eq_grow, grow_grow]; rfl)
  obtain ⟨w1, hw1, hbx, hby, hg⟩ := w1
  obtain ⟨p0, p1, p2, p3⟩ := bx hbx
  obtain ⟨q0, q1, q2, q3⟩ := bx hby
  have k1 := cmp_int x0 y0 w1.drew
  have k2 := cmp_u8 x1 y1 w1.drew
  have s1 : w1.drew.cell? ⟨w.heap.size, 0, none⟩ = some (.int .i64 x0) := p0
  have s2 : w1.drew.cell? ⟨w.heap.size, 1, none⟩ = some (.int .u8 (x1 : Int)) := p1
  have s3 : w1.drew.cell? ⟨w.heap.size + 1, 0, none⟩ = some (.int .i64 y0) := q0
  have s4 : w1.drew.cell? ⟨w.heap.size + 1, 1, none⟩ = some (.int .u8 (y1 : Int)) := q1
  generalize cmpI x0 y0 = r1 at *
  generalize cmpI x1 y1 = r2 at *
  clear hbx hby
  go_enter Try.func31, Try.ntmps31
  go_wp2_with (first | (rw [hw1.out]))
  refine wp_region_still_tail 10 (by kernel_rfl) (by kernel_rfl) ?_
  simp only [List.take_succ_cons, List.take_zero, List.drop_succ_cons, List.drop_zero]
  repeat still_step
  still_call k1.mono (fun e w' he => ⟨he.1, he.2.symm⟩)
  repeat still_step
  still_call k2.mono (fun e w' he => ⟨he.1, he.2.symm⟩)
  repeat still_step
  try refine wpStill_nil ?_
  change wpList _ _ _ _ _ w1.drew
  have hor := or_two w1.drew.heap.size (w1.drew.alloc (.cells #[.int .i64 r1, .int .i64 r2] 3)) r1 r2 (heap_alloc_new _ _)
  have hend : ∃ q os', w1.drew.alloc (.cells #[.int .i64 r1, .int .i64 r2] 3) = grow (w.drewN q) os' := ⟨1, _, by rw [alloc_eq_grow, hg.out]; exact grow_grow (w.drewN 1) _ _⟩
  have HE := hid hend; clear hend
  clear p0 p1 p2 p3 q0 q1 q2 q3 s1 s2 s3 s4 k1 k2 hw1 hg
  generalize w1.drew = w2 at *
  go_wp2_with (first | (go_at_call 32; with_reducible refine hor.mono ?_; rintro e w' ⟨rfl, rfl⟩))
  go_ret
  exact ⟨rfl, HE.out⟩
end Go.Proofs.Ytoeeaohgihipgaa
