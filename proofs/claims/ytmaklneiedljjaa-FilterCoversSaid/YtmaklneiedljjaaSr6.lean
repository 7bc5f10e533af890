/-
  The library's choice of a pivot, at numbers of 32 bits: whichever it is, it lies in the range, and nothing is written.
-/
import Derived.Test.YtmaklneiedljjaaSr
import Derived.Test.YtmaklneiedljjaaRw
import Derived.Deep.Cut
import Derived.Deep.DeepCutAuto
namespace Go.Proofs.Ytmaklneiedljjaa
open Go.RowKit Go.Sort
set_option linter.unusedVariables false

/-- Behind what writes another block only. -/
theorem Sr.aside {off g c N sb : Nat} {w0 w w' : World} {d : Array Nat} (h : Sr off g c N w0 w d) (k : Wr sb w w') (hne : sb ≠ g) : Sr off g c N w' w' d :=
  ⟨h.zero, h.size, h.row.kept (fun q hq => by cases hq; exact k.block g h.lt (fun e => hne e.symm)), Wr.refl _ _⟩

/-- A box with one number. -/
theorem box1 {w : World} {sb : Nat} {E : TypeId} {v : Value} (h : w.heap[sb]? = some (.cells #[v] E (0, 0))) : w.cell? ⟨sb, 0, none⟩ = some v ∧ w.frozen? ⟨sb, 0, none⟩ = false :=
  ⟨by rw [cell_of_row w sb 0 _ _ _ h]; rfl, frozen_of_row w sb 0 _ _ h⟩

set_option maxHeartbeats 2000000 in
theorem order2_any (off g c N a b sb s : Nat) (w : World) (d : Array Nat) (h : Sr off g c N w w d) (ha : a < N) (hb : b < N) (hN : N ≤ 1000000) (hs : s ≤ 100) (hne : sb ≠ g) (hx : w.heap[sb]? = some (.cells #[.int .i64 (s : Int)] 3 (0, 0))) :
    Calls Try.prog 54 #[.slice (some ⟨g, off, none⟩) N c, .int .i64 a, .int .i64 b, .pointer (some ⟨sb, 0, none⟩)] w fun e w' => ∃ x y t : Nat, (x = a ∧ y = b ∨ x = b ∧ y = a) ∧ t ≤ s + 1 ∧ e = .returned (.tuple #[.int .i64 (x : Int), .int .i64 (y : Int)]) ∧
      w'.heap[sb]? = some (.cells #[.int .i64 (t : Int)] 3 (0, 0)) ∧ Wr sb w w' := by
  obtain ⟨G, HG, hcw, hfw⟩ := h.fam
  have hless := fun w => less_u32 (G b) (G a) w
  have HX := hid hx
  clear h
  cases hl : ltN (G b) (G a)
  · rw [hl] at hless
    clear hl hx
    go_enter Try.func54, Try.ntmps54
    go_wp2
    go_quiet (first | (go_at_call 43; refine Calls.quiet_of_same (hless _)))
    go_wp2
    go_ret2
    exact ⟨a, b, s, .inl ⟨rfl, rfl⟩, by omega, rfl, by simpa using HX.out, ⟨rfl, rfl, rfl, by simp, fun k _ _ => by simp⟩⟩
  · rw [hl] at hless
    obtain ⟨x1, x2⟩ := box1 hx
    clear hl hx
    go_enter Try.func54, Try.ntmps54
    go_wp2
    go_quiet (first | (go_at_call 43; refine Calls.quiet_of_same (hless _)))
    go_wp2
    go_ret2
    refine ⟨b, a, s + 1, .inr ⟨rfl, rfl⟩, by omega, rfl, ?_, ?_⟩
    · have h9 : (w.drewN nq).heap[sb]? = some (.cells #[.int .i64 (s : Int)] 3 (0, 0)) := by simpa using HX.out
      have h8 := heap_setCell_same _ sb 0 _ _ (.int .i64 ((s + 1 : Nat) : Int)) h9
      simpa using h8
    · have k : Wr sb w (w.drewN nq) := ⟨rfl, rfl, rfl, by simp, fun k _ _ => by simp⟩
      exact k.setCell (.inl rfl) _

set_option maxHeartbeats 2000000 in
theorem median_any (off g c N x y z sb s : Nat) (w : World) (d : Array Nat) (h : Sr off g c N w w d) (hx : x < N) (hy : y < N) (hz : z < N) (hN : N ≤ 1000000) (hs : s ≤ 90) (hne : sb ≠ g) (hbx : w.heap[sb]? = some (.cells #[.int .i64 (s : Int)] 3 (0, 0))) :
    Calls Try.prog 52 #[.slice (some ⟨g, off, none⟩) N c, .int .i64 x, .int .i64 y, .int .i64 z, .pointer (some ⟨sb, 0, none⟩)] w fun e w' => ∃ m t : Nat, (m = x ∨ m = y ∨ m = z) ∧ t ≤ s + 3 ∧ e = .returned (.int .i64 (m : Int)) ∧
      w'.heap[sb]? = some (.cells #[.int .i64 (t : Int)] 3 (0, 0)) ∧ Wr sb w w' := by
  have H := hid h; clear h
  go_enter Try.func52, Try.ntmps52
  go_wp2_with (first
    | (go_at_call 54; (with_reducible refine (order2_any off g c N x y sb s w d H.out hx hy hN (by omega) hne hbx).mono ?_); rintro e w1 ⟨x1, y1, s1, q1, t1, rfl, b1, k1⟩; have H1 := hid (H.out.aside k1 hne); have Q1 := hid q1; (have hx1 : x1 < N := (by omega)); (have hy1 : y1 < N := (by omega)); clear q1)
    | (go_at_call 54; (with_reducible refine (order2_any off g c N y1 z sb s1 w1 d H1.out hy1 hz hN (by omega) hne b1).mono ?_); rintro e w2 ⟨y2, z2, s2, q2, t2, rfl, b2, k2⟩; have H2 := hid (H1.out.aside k2 hne); have Q2 := hid q2; (have hy2 : y2 < N := (by omega)); clear q2)
    | (go_at_call 54; (with_reducible refine (order2_any off g c N x1 y2 sb s2 w2 d H2.out hx1 hy2 hN (by omega) hne b2).mono ?_); rintro e w3 ⟨x3, y3, s3, q3, t3, rfl, b3, k3⟩; have Q3 := hid q3; clear q3))
  go_ret
  have q1 := Q1.out
  have q2 := Q2.out
  have q3 := Q3.out
  exact ⟨y3, s3, by omega, by omega, rfl, b3, (k1.trans k2).trans k3⟩

theorem medianAdjacent_any (off g c N x sb s : Nat) (w : World) (d : Array Nat) (h : Sr off g c N w w d) (hx : x + 1 < N) (hx0 : 0 < x) (hN : N ≤ 1000000) (hs : s ≤ 80) (hne : sb ≠ g) (hbx : w.heap[sb]? = some (.cells #[.int .i64 (s : Int)] 3 (0, 0))) :
    Calls Try.prog 51 #[.slice (some ⟨g, off, none⟩) N c, .int .i64 x, .pointer (some ⟨sb, 0, none⟩)] w fun e w' => ∃ m t : Nat, x ≤ m + 1 ∧ m ≤ x + 1 ∧ t ≤ s + 3 ∧ e = .returned (.int .i64 (m : Int)) ∧
      w'.heap[sb]? = some (.cells #[.int .i64 (t : Int)] 3 (0, 0)) ∧ Wr sb w w' := by
  have H := hid h; clear h
  have e1 : (x : Int) - 1 = ((x - 1 : Nat) : Int) := by omega
  have k := hid (median_any off g c N (x - 1) x (x + 1) sb s w d H.out (by omega) (by omega) (by omega) hN (by omega) hne hbx)
  go_enter Try.func51, Try.ntmps51
  go_wp2_with (go_at_call 52; refine k.out.mono ?_; rintro e w1 ⟨m, t, q1, t1, rfl, b1, k1⟩; have Q1 := hid q1; clear q1)
  go_ret
  have q1 := Q1.out
  exact ⟨m, t, by omega, by omega, by omega, rfl, b1, k1⟩
end Go.Proofs.Ytmaklneiedljjaa
