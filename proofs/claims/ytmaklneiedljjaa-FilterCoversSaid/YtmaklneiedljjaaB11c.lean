/-
  Contract: whether a filter covers another one.
-/
import Derived.Test.YtmaklneiedljjaaB11b
import Derived.Deep.RegionHeld3
namespace Go.Proofs.Ytmaklneiedljjaa
open Go.RowKit Go.Sort
set_option linter.unusedVariables false

theorem held11 {w0 w' : World} {g g1 g2 : Nat} {E F G : TypeId} {v0 v1 v2 u0 u1 u2 f0 f1 f2 f3 f4 : Value} (hA : w0.heap[g]? = some (.cells #[v0, v1, v2] E (0, 0))) (hB : w0.heap[g1]? = some (.cells #[u0, u1, u2] F (0, 0))) (hF : w0.heap[g2]? = some (.cells #[f0, f1, f2, f3, f4] G (0, 0))) (hb : Below w0.heap.size w0 w') :
    w'.cell? ⟨g, 0, none⟩ = some v0 ∧ w'.cell? ⟨g, 1, none⟩ = some v1 ∧ w'.cell? ⟨g, 2, none⟩ = some v2 ∧ w'.cell? ⟨g1, 0, none⟩ = some u0 ∧ w'.cell? ⟨g1, 1, none⟩ = some u1 ∧ w'.cell? ⟨g1, 2, none⟩ = some u2 ∧
    w'.cell? ⟨g2, 0, none⟩ = some f0 ∧ w'.cell? ⟨g2, 1, none⟩ = some f1 ∧ w'.cell? ⟨g2, 2, none⟩ = some f2 ∧ w'.cell? ⟨g2, 3, none⟩ = some f3 ∧ w'.cell? ⟨g2, 4, none⟩ = some f4 ∧ Below w0.heap.size w0 w' := by
  obtain ⟨a0, a1, a2⟩ := bx3 (bx_below hA hb)
  obtain ⟨b0, b1, b2⟩ := bx3 (bx_below hB hb)
  obtain ⟨c0, c1, c2, c3, c4⟩ := bx5 (bx_below hF hb)
  exact ⟨a0, a1, a2, b0, b1, b2, c0, c1, c2, c3, c4, hb⟩

set_option maxRecDepth 100000 in
set_option maxHeartbeats 4000000 in
theorem covers_any (x y : Fi) (hx : x.Ok) (hy : y.Ok) (w : World) : Calls Try.prog 17 #[.agg (fiV x), .agg (fiV y)] w fun r w' => r = .returned (.bool (coversF x y)) ∧ Below w.heap.size w w' := by
  have kR := hid (fun w => fiRight_any y hy w)
  have kL := hid (fun (w : World) (b : Nat) (hb : w.heap[b]? = some (.cells (fmV y.mat y.ext false (.int .u8 0) (.slice none 0 0)) 30 (0, 0))) => lets_any w x hx b y.mat y.ext false (.int .u8 0) (.slice none 0 0) hy.2 hb)
  have hA := u32_andNot_nat x.mask y.mask hx.1 hy.1
  have hcov : ∀ u r q, x.mask &&& (4294967295 - y.mask) = u → rightF y = r → letsF y.mat y.ext x = q → coversF x y = (r && decide (u = 0) && q) := fun u r q h1 h2 h3 => by rw [coversF, h1, h2, h3]
  have hc := hcov _ _ _ rfl rfl rfl
  clear hcov
  generalize x.mask &&& (4294967295 - y.mask) = u at *
  generalize rightF y = r at *
  generalize letsF y.mat y.ext x = q at *
  rw [hc]
  clear hc hx hy
  obtain ⟨e, m, a⟩ := x
  obtain ⟨e', m', a'⟩ := y
  simp only at hA kR kL
  show Calls _ _ #[.agg #[.bool e, .int .u32 (m : Int), .int .u32 (a : Int)], .agg #[.bool e', .int .u32 (m' : Int), .int .u32 (a' : Int)]] _ _
  have d3 : ((u : Int) == 0) = decide (u = 0) := by by_cases h : u = 0 <;> simp [h]
  generalize decide (u = 0) = z at *
  have z1 : ((w.alloc (.cells #[.bool e, .int .u32 (m : Int), .int .u32 (a : Int)] 25)).alloc (.cells #[.bool e', .int .u32 (m' : Int), .int .u32 (a' : Int)] 25)).heap.size = w.heap.size + 2 := by simp
  have b3 := heap_alloc_new ((w.alloc (.cells #[.bool e, .int .u32 (m : Int), .int .u32 (a : Int)] 25)).alloc (.cells #[.bool e', .int .u32 (m' : Int), .int .u32 (a' : Int)] 25)) (.cells (fmV a' e' false (.int .u8 0) (.slice none 0 0)) 30)
  rw [z1] at b3
  have b1 : ((w.alloc (.cells #[.bool e, .int .u32 (m : Int), .int .u32 (a : Int)] 25)).alloc (.cells #[.bool e', .int .u32 (m' : Int), .int .u32 (a' : Int)] 25)).heap[w.heap.size]? = some (.cells #[.bool e, .int .u32 (m : Int), .int .u32 (a : Int)] 25 (0, 0)) := bx_alloc _ (heap_alloc_new w _)
  have b2 : ((w.alloc (.cells #[.bool e, .int .u32 (m : Int), .int .u32 (a : Int)] 25)).alloc (.cells #[.bool e', .int .u32 (m' : Int), .int .u32 (a' : Int)] 25)).heap[w.heap.size + 1]? = some (.cells #[.bool e', .int .u32 (m' : Int), .int .u32 (a' : Int)] 25 (0, 0)) := by have := heap_alloc_new (w.alloc (.cells #[.bool e, .int .u32 (m : Int), .int .u32 (a : Int)] 25)) (.cells #[.bool e', .int .u32 (m' : Int), .int .u32 (a' : Int)] 25); rwa [heap_size_alloc] at this
  have g1 : Below w.heap.size w ((w.alloc (.cells #[.bool e, .int .u32 (m : Int), .int .u32 (a : Int)] 25)).alloc (.cells #[.bool e', .int .u32 (m' : Int), .int .u32 (a' : Int)] 25)) := bnew (bnew0 w _) _
  have g3 := bnew g1 (.cells (fmV a' e' false (.int .u8 0) (.slice none 0 0)) 30)
  have b4 := bx_alloc (.cells (fmV a' e' false (.int .u8 0) (.slice none 0 0)) 30) b1
  have b5 := bx_alloc (.cells (fmV a' e' false (.int .u8 0) (.slice none 0 0)) 30) b2
  obtain ⟨x0, x1, x2⟩ := bx3 b1
  obtain ⟨y0, y1, y2⟩ := bx3 b2
  clear b1 b2 g1
  go_enter Try.func17, Try.ntmps17
  go_wp2
  generalize ((w.alloc (.cells #[.bool e, .int .u32 (m : Int), .int .u32 (a : Int)] 25)).alloc (.cells #[.bool e', .int .u32 (m' : Int), .int .u32 (a' : Int)] 25)).alloc (.cells (fmV a' e' false (.int .u8 0) (.slice none 0 0)) 30) = w3 at *
  clear x0 x1 x2 y0 y1 y2 z1
  have kR' : ∀ d os, Calls Try.prog 15 #[.agg #[.bool e', .int .u32 (m' : Int), .int .u32 (a' : Int)]] (grow (redrawn w3 d) os) fun q w'' => q = .returned (.bool r) ∧ ∃ r : Regrown, w'' = grow (redrawn w3 r.d) r.os := fun d os => Calls.regrown_of (kR.out _)
  cases r
  · obtain ⟨x0, x1, x2⟩ := bx3r b4
    obtain ⟨y0, y1, y2⟩ := bx3r b5
    refine wp_region_quiet_below (by kernel_rfl) (by kernel_rfl) ?_
    repeat (go_big_quiet_step (first | (go_at_call 15; with_reducible exact kR' _ _)))
    refine wpQuiet_nil ?_
    intro w9 hw9
    have g9 : Below w3.heap.size w3 w9 := by obtain ⟨p9, rfl⟩ := hw9; exact below_regrown _ _ _
    clear hw9 kR' x0 x1 x2 y0 y1 y2
    go_wp2
    go_ret
    exact ⟨rfl, bstep g3 g9⟩
  · cases z
    case true =>
      clear kR'
      have hd1 : Below w3.heap.size w3 w3.drew := (Below.refl _ _).drew
      have kA := hid (fun w => accepts_any w a' e' false (.int .u8 0) (.slice none 0 0))
      go_region_held3 (fun w' => w'.cell? ⟨w.heap.size, 0, none⟩ = some (.bool e) ∧ w'.cell? ⟨w.heap.size, 1, none⟩ = some (.int .u32 (m : Int)) ∧ w'.cell? ⟨w.heap.size, 2, none⟩ = some (.int .u32 (a : Int)) ∧
          w'.cell? ⟨w.heap.size + 1, 0, none⟩ = some (.bool e') ∧ w'.cell? ⟨w.heap.size + 1, 1, none⟩ = some (.int .u32 (m' : Int)) ∧ w'.cell? ⟨w.heap.size + 1, 2, none⟩ = some (.int .u32 (a' : Int)) ∧
          w'.cell? ⟨w.heap.size + 2, 0, none⟩ = some (.int .u32 (a' : Int)) ∧ w'.cell? ⟨w.heap.size + 2, 1, none⟩ = some (.bool e') ∧ w'.cell? ⟨w.heap.size + 2, 2, none⟩ = some (.bool false) ∧ w'.cell? ⟨w.heap.size + 2, 3, none⟩ = some (.int .u8 0) ∧ w'.cell? ⟨w.heap.size + 2, 4, none⟩ = some (.slice none 0 0) ∧ Below w3.heap.size w3 w')
        (first
          | with_reducible exact held11 b4 b5 b3 hd1
          | with_reducible exact held11 b4 b5 b3 g15
          | with_reducible exact held11 b4 b5 b3 g16
          | with_reducible exact held11 b4 b5 b3 g17)
        (first
          | (go_simp; go_at_call 15; refine Calls.mono (kR.out w3.drew) ?_; rintro q5 w5 ⟨rfl, g5⟩; have g15 : Below w3.heap.size w3 w5 := hd1.trans g5)
          | (go_simp; go_at_call 23; refine Calls.mono (kA.out w5) ?_; rintro q6 w6 ⟨rfl, hw6⟩; have hb6 := heap_alloc_new w5 (.cells (fmV a' e' false (.int .u8 0) (.slice none 0 0)) 30); rw [← hw6] at hb6; have g16 : Below w3.heap.size w3 w6 := (by rw [hw6]; exact g15.alloc g15.size _); clear hw6)
          | (go_simp; go_at_call 31; refine Calls.mono (kL.out w6 w5.heap.size hb6) ?_; rintro q7 w7 ⟨rfl, g7⟩; have g17 : Below w3.heap.size w3 w7 := bstep g16 g7))
      all_goals
        go_wp2
        go_ret
        exact ⟨ret_bool (by simp), bstep g3 g17⟩
    case false =>
      obtain ⟨x0, x1, x2⟩ := bx3r b4
      obtain ⟨y0, y1, y2⟩ := bx3r b5
      refine wp_region_quiet_below (by kernel_rfl) (by kernel_rfl) ?_
      repeat (go_big_quiet_step (first | (go_at_call 15; with_reducible exact kR' _ _)))
      refine wpQuiet_nil ?_
      intro w9 hw9
      have g9 : Below w3.heap.size w3 w9 := by obtain ⟨p9, rfl⟩ := hw9; exact below_regrown _ _ _
      clear hw9 kR' x0 x1 x2 y0 y1 y2
      go_wp2
      go_ret
      exact ⟨rfl, bstep g3 g9⟩
end Go.Proofs.Ytmaklneiedljjaa
