/-
  The library's choice of a pivot, at numbers of 32 bits: the whole.
-/
import Derived.Test.YtmaklneiedljjaaSr6
namespace Go.Proofs.Ytmaklneiedljjaa
open Go.RowKit Go.Sort
set_option linter.unusedVariables false

set_option maxHeartbeats 4000000 in
theorem pivot_any (off g c N a b l : Nat) (w : World) (d : Array Nat) (h : Sr off g c N w w d) (h1 : b ≤ a + l) (h2 : a + l ≤ b) (hl : 12 < l) (hb : b ≤ N) (hN : N ≤ 1000000) :
    Calls Try.prog 40 #[.slice (some ⟨g, off, none⟩) N c, .int .i64 a, .int .i64 b] w fun e w' => ∃ p t : Nat, a ≤ p ∧ p < b ∧ t ≤ 2 ∧ e = .returned (.tuple #[.int .i64 (p : Int), .int .i64 (t : Int)]) ∧ Below w.heap.size w w' := by
  have H := hid h; clear h
  have el : (b : Int) - (a : Int) = (l : Int) := by omega
  obtain ⟨q, eq1, hq1, hq2⟩ : ∃ q : Nat, (l : Int) / 4 = (q : Int) ∧ 4 * q ≤ l ∧ l < 4 * q + 4 := ⟨l / 4, by omega, by omega, by omega⟩
  have hgl := H.out.lt
  have hne : w.heap.size ≠ g := by omega
  obtain ⟨w0, hw0, hbx, gg0⟩ : ∃ w0, Hid (w.alloc (.cells #[.int .i64 0] 3) = w0) ∧ w0.heap[w.heap.size]? = some (.cells #[.int .i64 ((0 : Nat) : Int)] 3 (0, 0)) ∧ Below w.heap.size w w0 := ⟨_, hid rfl, heap_alloc_new w _, bnew0 w _⟩
  have H0 := hid (H.out.below gg0).start
  have hs0 : w.heap.size < w0.heap.size := bx_lt hbx
  by_cases h50 : 50 ≤ l
  · have d50 : decide (50 ≤ (l : Int)) = true := by simp; omega
    have d8 : decide (8 ≤ (l : Int)) = true := by simp; omega
    have k1 := hid (medianAdjacent_any off g c N (a + q) w.heap.size 0 w0 d H0.out (by omega) (by omega) hN (by omega) hne hbx)
    rw [Int.natCast_add] at k1
    have k2 := hid (fun (s : Nat) (w : World) (sb : Nat) (h : Sr off g c N w w d) hs hne hb => medianAdjacent_any off g c N (a + q * 2) sb s w d h (by omega) (by omega) hN hs hne hb)
    have k3 := hid (fun (s : Nat) (w : World) (sb : Nat) (h : Sr off g c N w w d) hs hne hb => medianAdjacent_any off g c N (a + q * 3) sb s w d h (by omega) (by omega) hN hs hne hb)
    simp only [Int.natCast_add, Int.natCast_mul, Int.cast_ofNat_Int] at k2 k3
    go_enter Try.func40, Try.ntmps40
    go_upto_if 32 with fail
    rw [hw0.out]
    go_wp2_with (first
      | (go_at_call 51; (with_reducible refine k1.out.mono ?_); rintro e w1 ⟨m1, s1, p1, p2, t1, rfl, b1, g1⟩; have H1 := hid (H0.out.aside g1 hne); have P1 := hid (And.intro p1 p2); clear p1 p2)
      | (go_at_call 51; (with_reducible refine (k2.out s1 w1 w.heap.size H1.out (by omega) hne b1).mono ?_); rintro e w2 ⟨m2, s2, p1, p2, t2, rfl, b2, g2⟩; have H2 := hid (H1.out.aside g2 hne); have P2 := hid (And.intro p1 p2); clear p1 p2)
      | (go_at_call 51; (with_reducible refine (k3.out s2 w2 w.heap.size H2.out (by omega) hne b2).mono ?_); rintro e w3 ⟨m3, s3, p1, p2, t3, rfl, b3, g3⟩; have H3 := hid (H2.out.aside g3 hne); have P3 := hid (And.intro p1 p2); (have k4 := hid (median_any off g c N m1 m2 m3 w.heap.size s3 w3 d H3.out (by have := P1.out; omega) (by have := P2.out; omega) (by omega) hN (by omega) hne b3)); clear p1 p2)
      | (go_at_call 52; (with_reducible refine k4.out.mono ?_); rintro e w4 ⟨m4, s4, p4, t4, rfl, b4, g4⟩; have P4 := hid p4; clear p4; obtain ⟨y1, y2⟩ := box1 b4))
    all_goals
      go_ret2
      have q1 := P1.out
      have q2 := P2.out
      have q3 := P3.out
      have q4 := P4.out
      have gg := (((g1.trans g2).trans g3).trans g4).below gg0 (Nat.le_refl _) hs0
      first
        | exact ⟨m4, 1, by omega, by omega, by omega, rfl, gg⟩
        | exact ⟨m4, 2, by omega, by omega, by omega, rfl, gg⟩
        | exact ⟨m4, 0, by omega, by omega, by omega, rfl, gg⟩
  · have d50 : decide (50 ≤ (l : Int)) = false := by simp; omega
    have d8 : decide (8 ≤ (l : Int)) = true := by simp; omega
    have k4 := hid (median_any off g c N (a + q) (a + q * 2) (a + q * 3) w.heap.size 0 w0 d H0.out (by omega) (by omega) (by omega) hN (by omega) hne hbx)
    simp only [Int.natCast_add, Int.natCast_mul, Int.cast_ofNat_Int] at k4
    go_enter Try.func40, Try.ntmps40
    go_upto_if 32 with fail
    rw [hw0.out]
    go_wp2_with (first
      | (go_at_call 52; (with_reducible refine k4.out.mono ?_); rintro e w4 ⟨m4, s4, p4, t4, rfl, b4, g4⟩; have P4 := hid p4; clear p4; obtain ⟨y1, y2⟩ := box1 b4))
    all_goals
      go_ret2
      have q4 := P4.out
      have gg := g4.below gg0 (Nat.le_refl _) hs0
      first
        | exact ⟨m4, 1, by omega, by omega, by omega, rfl, gg⟩
        | exact ⟨m4, 2, by omega, by omega, by omega, rfl, gg⟩
        | exact ⟨m4, 0, by omega, by omega, by omega, rfl, gg⟩
end Go.Proofs.Ytmaklneiedljjaa
