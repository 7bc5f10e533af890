/-
  What the library's sort does against patterns in a row, at numbers of 32 bits: whichever numbers of the range are exchanged.
-/
import Derived.Test.YtmaklneiedljjaaSr7
namespace Go.Proofs.Ytmaklneiedljjaa
open Go.RowKit Go.Sort
set_option linter.unusedVariables false

theorem Sr.other {off g c N sb : Nat} {w0 w w' : World} {d : Array Nat} (h : Sr off g c N w0 w d) (k : Wr sb w w') (hne : sb ≠ g) (hsb : w0.heap.size ≤ sb) : Sr off g c N w0 w' d :=
  ⟨h.zero, h.size, h.row.kept (fun q hq => by cases hq; exact k.block g h.lt (fun e => hne e.symm)),
    ⟨k.os.trans h.wr.os, k.tape.trans h.wr.tape, k.output.trans h.wr.output, Nat.le_trans h.wr.size k.size, fun i hi hg => (k.block i (Nat.lt_of_lt_of_le hi h.wr.size) (by omega)).trans (h.wr.block i hi hg)⟩⟩

theorem World_heap_other2 {w : World} {g sb q : Nat} (i j : Nat) (u v : Value) (hne : sb ≠ g) : (((w.drewN q).setCell ⟨g, i, none⟩ u).setCell ⟨g, j, none⟩ v).heap[sb]? = w.heap[sb]? := by
  rw [Below.heap_setCell _ _ _ _ (fun e => hne e), Below.heap_setCell _ _ _ _ (fun e => hne e)]
  simp

set_option maxHeartbeats 4000000 in
set_option maxRecDepth 100000 in
theorem break_any (off g c N a b l : Nat) (w : World) (d : Array Nat) (h : Sr off g c N w w d) (h1 : b ≤ a + l) (h2 : a + l ≤ b) (hl : 12 < l) (hb : b ≤ N) (hN : N ≤ 1000000) :
    Calls Try.prog 39 #[.slice (some ⟨g, off, none⟩) N c, .int .i64 a, .int .i64 b] w fun e w' => ∃ d', e = .returned (.tuple #[]) ∧ PermIn a b d d' ∧ Sr off g c N w w' d' := by
  have H := hid h; clear h
  have el : (b : Int) - (a : Int) = (l : Int) := by omega
  obtain ⟨q, eq1, hq1, hq2⟩ : ∃ q : Nat, (l : Int) / 4 = (q : Int) ∧ 4 * q ≤ l ∧ l < 4 * q + 4 := ⟨l / 4, by omega, by omega, by omega⟩
  have d8 : decide (8 ≤ (l : Int)) = true := by simp; omega
  have hgl := H.out.lt
  have hne : w.heap.size ≠ g := by omega
  have hp1 := two_pow_bitsLen_le (n := l) (by omega)
  have hp0 : 0 < 2 ^ bitsLen l := Nat.pow_pos (by decide)
  have kP := hid (fun w => nextPow_any l (by omega) w)
  generalize 2 ^ bitsLen l = p at *
  have hbx := heap_alloc_new w (.cells #[.int .u64 (l : Int)] 70)
  have H0 := hid (H.out.below (bnew0 w (.cells #[.int .u64 (l : Int)] 70)))
  have HB := hid hbx; clear hbx
  go_enter Try.func39, Try.ntmps39
  go_wp2_with (first | (go_at_call 49; (with_reducible refine (kP.out _).mono ?_); rintro e w' ⟨rfl, rfl⟩))
  go_loopg [9] (a + q * 2 + 2 - (a + q * 2 - 1)) (fun gn vi wr => ∃ (m r : Nat) (dk : Array Nat), a + q * 2 ≤ m + 1 ∧ m ≤ a + q * 2 + 2 ∧ gn = a + q * 2 + 2 - m ∧ vi = .int .i64 (m : Int) ∧ r < 18446744073709551616 ∧ Hid (Sr off g c N w wr dk) ∧ Hid (PermIn a b d dk) ∧ Hid (wr.heap[w.heap.size]? = some (.cells #[.int .u64 (r : Int)] 70 (0, 0))))
  case atStart => exact ⟨a + q * 2 - 1, l, d, by omega, by omega, rfl, by first | (congr 1; done) | (congr 1; omega), by omega, H0, hid (permIn_refl d a b), HB⟩
  case round =>
    obtain ⟨m, r, dk, hm1, hm2, rfl, rfl, hr, HS, HP, HX⟩ := hrel
    clear H0 HB
    by_cases hm : m ≤ a + q * 2 + 1
    · have kN := hid (next_any w.heap.size r wr hr HX.out)
      go_upto_if 43 with (go_at_call 50; (with_reducible refine kN.out.mono ?_); rintro e w1 ⟨v, hv, rfl, b1, k1⟩; have B1 := hid b1; have HS1 := hid (HS.out.other k1 hne (Nat.le_refl _)); clear b1; (obtain ⟨o, ho, eo⟩ : ∃ o : Nat, o < p ∧ bits .and .u64 (v : Int) ((p : Int) - 1) = (o : Int) := ⟨v &&& (p - 1), Nat.lt_of_le_of_lt Nat.and_le_right (by omega), by have := u64_and_nat v (p - 1) hv (by omega); rw [← this]; congr 1; omega⟩))
      by_cases hol : l ≤ o
      · have eo2 : (o : Int) - (l : Int) = ((o - l : Nat) : Int) := by omega
        have dol : decide ((l : Int) ≤ (o : Int)) = true := by simp; omega
        obtain ⟨G, HG, hcw, hfw⟩ := HS1.out.fam
        obtain ⟨G1, _, hc1, _⟩ := ((HS1.out.set m (G (a + (o - l)))).drewN 1).fam
        have hu : ((w1.setCell ⟨g, off + m, none⟩ (.int .u32 (G (a + (o - l)) : Int))).drew).cell? ⟨g, off + (a + (o - l)), none⟩ = some (.int .u32 (G1 (a + (o - l)) : Int)) := hc1 (a + (o - l)) (by omega)
        clear hc1
        have hsz : b ≤ dk.size := by rw [HS1.out.size]; exact hb
        have HP2 := hid (permIn_trans _ _ _ a b HP.out (swp_permIn dk a b m (a + (o - l)) (by omega) (by omega) (by omega) (by omega) hsz))
        clear hsz
        go_wp2
        go_region
        all_goals
          have HS2 := hid (HS1.out.swp 1 m (a + (o - l)) (HG.out _) (HG.out _))
          go_wp2
          go_roundg (a + q * 2 + 2 - (m + 1))
          case measure => omega
          case rel => exact ⟨m + 1, v, swp dk m (a + (o - l)), by omega, by omega, rfl, by first | (go_num; done) | (congr 1; omega), hv, HS2, HP2, hid (by
            exact (World_heap_other2 (q := 1) _ _ _ _ hne).trans B1.out)⟩
      · have dol : decide ((l : Int) ≤ (o : Int)) = false := by simp; omega
        obtain ⟨G, HG, hcw, hfw⟩ := HS1.out.fam
        obtain ⟨G1, _, hc1, _⟩ := ((HS1.out.set m (G (a + o))).drewN 1).fam
        have hu : ((w1.setCell ⟨g, off + m, none⟩ (.int .u32 (G (a + o) : Int))).drew).cell? ⟨g, off + (a + o), none⟩ = some (.int .u32 (G1 (a + o) : Int)) := hc1 (a + o) (by omega)
        clear hc1
        have hsz : b ≤ dk.size := by rw [HS1.out.size]; exact hb
        have HP2 := hid (permIn_trans _ _ _ a b HP.out (swp_permIn dk a b m (a + o) (by omega) (by omega) (by omega) (by omega) hsz))
        clear hsz
        go_wp2
        go_region
        all_goals
          have HS2 := hid (HS1.out.swp 1 m (a + o) (HG.out _) (HG.out _))
          go_wp2
          go_roundg (a + q * 2 + 2 - (m + 1))
          case measure => omega
          case rel => exact ⟨m + 1, v, swp dk m (a + o), by omega, by omega, rfl, by first | (go_num; done) | (congr 1; omega), hv, HS2, HP2, hid (by
            exact (World_heap_other2 (q := 1) _ _ _ _ hne).trans B1.out)⟩
    · go_wp2
      go_end0
      exact ⟨dk, rfl, HP.out, HS.out⟩
end Go.Proofs.Ytmaklneiedljjaa
