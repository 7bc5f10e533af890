/-
  Contracts of the program's filters: which are right, which frames one lets in.
-/
import Derived.Test.YtmaklneiedljjaaM11
import Derived.Test.YtmaklneiedljjaaBaseK
import Derived.Test.YtmaklneiedljjaaRw
import Derived.Laws.BitsAllLaws
import Derived.Lib.QuietBelow
import Derived.BigQuiet
import Derived.Deep.QuietTactic
namespace Go.Proofs.Ytmaklneiedljjaa
open Go.RowKit Go.Sort
set_option linter.unusedVariables false

theorem tFi : ElK Try.prog 22 25 3 (.agg #[.bool false, .int .u32 0, .int .u32 0]) 12 := ⟨by kernel_rfl, by kernel_rfl, by kernel_rfl, by kernel_rfl, by kernel_rfl, by decide⟩
theorem rowFi : RowT Try.prog 25 3 := rowT_of (by kernel_rfl) (by kernel_rfl)

/-- A filter's cells. -/
abbrev fiV (x : Fi) : Array Value := #[.bool x.ext, .int .u32 (x.mask : Int), .int .u32 (x.mat : Int)]
def fiE (x : Fi) : List Value := [.bool x.ext, .int .u32 (x.mask : Int), .int .u32 (x.mat : Int)]
theorem eFi : EnK fiE 3 := ⟨fun _ => rfl, fun x v hv => by simp [fiE] at hv; rcases hv with rfl | rfl | rfl <;> rfl⟩

theorem bx3 {w : World} {g : Nat} {E : TypeId} {v0 v1 v2 : Value} (h : w.heap[g]? = some (.cells #[v0, v1, v2] E (0, 0))) :
    w.cell? ⟨g, 0, none⟩ = some v0 ∧ w.cell? ⟨g, 1, none⟩ = some v1 ∧ w.cell? ⟨g, 2, none⟩ = some v2 :=
  ⟨by rw [cell_of_row w g 0 _ _ _ h]; rfl, by rw [cell_of_row w g 1 _ _ _ h]; rfl, by rw [cell_of_row w g 2 _ _ _ h]; rfl⟩

theorem greatest_any (e : Bool) (w : World) : Calls Try.prog 25 #[.bool e] w fun r w' => r = .returned (.int .u32 (topF e : Int)) ∧ w = w' := by
  cases e
  · go_enter Try.func25, Try.ntmps25
    go_wp2
    go_ret
    exact ⟨rfl, rfl⟩
  · go_enter Try.func25, Try.ntmps25
    go_wp2
    go_ret
    exact ⟨rfl, rfl⟩

/-- One box behind a call's begin: the world behind it under a name. -/
theorem boxed11 (w : World) (E : TypeId) (cs : Array Value) : ∃ w0, Hid (w.alloc (.cells cs E) = w0) ∧ w0.heap[w.heap.size]? = some (.cells cs E (0, 0)) ∧ Below w.heap.size w w0 :=
  ⟨_, hid rfl, heap_alloc_new w _, bnew0 w _⟩
/-- Two of them. -/
theorem boxed11b (w : World) (E F : TypeId) (cs ds : Array Value) : ∃ w0, Hid ((w.alloc (.cells cs E)).alloc (.cells ds F) = w0) ∧ w0.heap[w.heap.size]? = some (.cells cs E (0, 0)) ∧ w0.heap[w.heap.size + 1]? = some (.cells ds F (0, 0)) ∧ Below w.heap.size w w0 :=
  ⟨_, hid rfl, bx_alloc _ (heap_alloc_new w _), by have := heap_alloc_new (w.alloc (.cells cs E)) (.cells ds F); rwa [heap_size_alloc] at this, bnew (bnew0 w _) _⟩

theorem bx3r {w : World} {g : Nat} {E : TypeId} {v0 v1 v2 : Value} (h : w.heap[g]? = some (.cells #[v0, v1, v2] E (0, 0))) :
    (∀ d os, (grow (redrawn w d) os).cell? ⟨g, 0, none⟩ = some v0) ∧ (∀ d os, (grow (redrawn w d) os).cell? ⟨g, 1, none⟩ = some v1) ∧ (∀ d os, (grow (redrawn w d) os).cell? ⟨g, 2, none⟩ = some v2) := by
  obtain ⟨k0, k1, k2⟩ := bx3 h
  exact ⟨fun d os => cell_regrown k0 d os, fun d os => cell_regrown k1 d os, fun d os => cell_regrown k2 d os⟩

theorem fiRight_any (x : Fi) (hx : x.Ok) (w : World) : Calls Try.prog 15 #[.agg (fiV x)] w fun r w' => r = .returned (.bool (rightF x)) ∧ Below w.heap.size w w' := by
  obtain ⟨e, m, a⟩ := x
  obtain ⟨h1, h2⟩ := hx
  simp only at h1 h2
  have hA := u32_andNot_nat a m h2 h1
  have ht := topF_lt e
  show Calls _ _ #[.agg #[.bool e, .int .u32 (m : Int), .int .u32 (a : Int)]] _ _
  have hr : ∀ u, a &&& (4294967295 - m) = u → rightF ⟨e, m, a⟩ = (decide (m ≤ topF e) && decide (u = 0)) := fun u hu => by rw [rightF, hu]
  generalize hu : a &&& (4294967295 - m) = u at hA
  rw [hr u hu]
  clear hr hu
  obtain ⟨w0, hw0, hbx, gg0⟩ := boxed11 w 25 #[.bool e, .int .u32 (m : Int), .int .u32 (a : Int)]
  obtain ⟨x0, x1, x2⟩ := bx3r hbx
  have kG : ∀ d os, Calls Try.prog 25 #[.bool e] (grow (redrawn w0 d) os) fun r w'' => r = .returned (.int .u32 (topF e : Int)) ∧ ∃ r : Regrown, w'' = grow (redrawn w0 r.d) r.os := fun d os =>
    Calls.regrown_of ((greatest_any e _).mono fun e w' he => ⟨he.1, by rw [he.2]; exact Below.refl _ _⟩)
  generalize topF e = t at *
  have d3 : ((u : Int) == 0) = decide (u = 0) := by by_cases h : u = 0 <;> simp [h]
  by_cases hm : m ≤ t
  · have d1 : decide ((m : Int) ≤ (t : Int)) = true := by simp; omega
    have d2 : decide (m ≤ t) = true := by simp; omega
    rw [d2]
    clear hm
    go_enter Try.func15, Try.ntmps15
    go_wp2
    rw [hw0.out]
    refine wp_region_quiet_below (by kernel_rfl) (by kernel_rfl) ?_
    repeat (go_big_quiet_step (first | (go_at_call 25; with_reducible exact kG _ _)))
    refine wpQuiet_nil ?_
    intro w9 hw9
    have g9 : Below w0.heap.size w0 w9 := by obtain ⟨p9, rfl⟩ := hw9; exact below_regrown _ _ _
    clear hw9 kG x0 x1 x2
    go_wp2
    go_ret
    exact ⟨ret_bool (by rw [← d3]; rfl), bstep gg0 g9⟩
  · have d1 : decide ((m : Int) ≤ (t : Int)) = false := by simp; omega
    have d2 : decide (m ≤ t) = false := by simp; omega
    rw [d2]
    clear hm
    go_enter Try.func15, Try.ntmps15
    go_wp2
    rw [hw0.out]
    refine wp_region_quiet_below (by kernel_rfl) (by kernel_rfl) ?_
    repeat (go_big_quiet_step (first | (go_at_call 25; with_reducible exact kG _ _)))
    refine wpQuiet_nil ?_
    intro w9 hw9
    have g9 : Below w0.heap.size w0 w9 := by obtain ⟨p9, rfl⟩ := hw9; exact below_regrown _ _ _
    clear hw9 kG x0 x1 x2
    go_wp2
    go_ret
    exact ⟨rfl, bstep gg0 g9⟩

/-- What lets a frame in, as it is called: the frame lies in a box. -/
theorem lets_any (w : World) (x : Fi) (hx : x.Ok) (b id : Nat) (e r : Bool) (dl : Value) (cd : Value) (hid' : id < 4294967296) (hb : w.heap[b]? = some (.cells #[.int .u32 (id : Int), .bool e, .bool r, dl, cd] 30 (0, 0))) :
    Calls Try.prog 31 #[.agg (fiV x), .pointer (some ⟨b, 0, none⟩)] w fun r w' => r = .returned (.bool (letsF id e x)) ∧ Below w.heap.size w w' := by
  have kR := hid (fun w => fiRight_any x hx w)
  obtain ⟨e', m, a⟩ := x
  obtain ⟨h1, h2⟩ := hx
  simp only at h1 h2
  have hA := (u32_bits id m hid' h1).1
  have hl : ∀ u, id &&& m = u → letsF id e ⟨e', m, a⟩ = (rightF ⟨e', m, a⟩ && (e' == e) && decide (u = a)) := fun u hu => by rw [letsF, hu]
  generalize hu : id &&& m = u at hA
  rw [hl u hu]
  clear hl hu
  show Calls _ _ #[.agg #[.bool e', .int .u32 (m : Int), .int .u32 (a : Int)], _] _ _
  have kR' : ∀ w, Calls Try.prog 15 #[.agg #[.bool e', .int .u32 (m : Int), .int .u32 (a : Int)]] w fun r w' => r = .returned (.bool (rightF ⟨e', m, a⟩)) ∧ Below w.heap.size w w' := kR.out
  clear kR
  generalize rightF ⟨e', m, a⟩ = q at *
  have HR := hid kR'; clear kR'
  have hlt := bx_lt hb
  have hne : b ≠ w.heap.size := by omega
  have hbx := heap_alloc_new w (.cells #[.bool e', .int .u32 (m : Int), .int .u32 (a : Int)] 25)
  have gg0 := bnew0 w (.cells #[.bool e', .int .u32 (m : Int), .int .u32 (a : Int)] 25)
  have hb0 := bx_below hb gg0
  have d3 : ((u : Int) == (a : Int)) = decide (u = a) := by by_cases h : u = a <;> simp [h]; omega
  clear hb
  go_enter Try.func31, Try.ntmps31
  cases q
  · go_wp2_with (first
      | (with_reducible refine wpList_loadR rowFi rfl _ rfl _ rfl hbx rfl ?_)
      | (go_at_call 15; (with_reducible refine (HR.out _).mono ?_); rintro r w9 ⟨rfl, g9⟩))
    go_ret
    exact ⟨rfl, bstep gg0 g9⟩
  · cases he : (e' == e)
    · go_wp2_with (first
        | (with_reducible refine wpList_loadR rowFi rfl _ rfl _ rfl hbx rfl ?_)
        | (go_at_call 15; (with_reducible refine (HR.out _).mono ?_); rintro r w9 ⟨rfl, g9⟩; (obtain ⟨y0, y1, y2⟩ := bx3 (bx_below hbx g9)); (obtain ⟨z0, z1, z2, z3, z4⟩ := bx5 (bx_below hb0 g9))))
      go_ret
      exact ⟨rfl, bstep gg0 g9⟩
    · go_wp2_with (first
        | (with_reducible refine wpList_loadR rowFi rfl _ rfl _ rfl hbx rfl ?_)
        | (go_at_call 15; (with_reducible refine (HR.out _).mono ?_); rintro r w9 ⟨rfl, g9⟩; (obtain ⟨y0, y1, y2⟩ := bx3 (bx_below hbx g9)); (obtain ⟨z0, z1, z2, z3, z4⟩ := bx5 (bx_below hb0 g9))))
      go_ret
      exact ⟨ret_bool (by rw [← d3]; rfl), bstep gg0 g9⟩
end Go.Proofs.Ytmaklneiedljjaa
