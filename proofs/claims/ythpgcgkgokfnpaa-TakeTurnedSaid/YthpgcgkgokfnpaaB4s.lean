/-
  Contract of Parse where the bits have the form of a body (the document's).
-/
import Derived.Test.YthpgcgkgokfnpaaB4q
namespace Go.Proofs.Ythpgcgkgokfnpaa
open Go.RowKit Go.Sort
set_option linter.unusedVariables false

theorem refParse_crc (w : World) (a : Option Addr) (n c : Nat) (l : List Bool) (h : RL .bool w a n c l) (hk : paK l = true) (hs : suV l ≠ 0#15) :
    Calls Try.prog 29 #[.slice a n c] w fun e w' => e = .returned (.tuple #[.agg #[.int .u32 0, .bool false, .bool false, .int .u8 0, .slice none 0 0], .int .i64 42]) ∧ Below w.heap.size w w' := by
  obtain ⟨hd, hx, hlN⟩ := paK_parts hk
  have hN2 := hdN_le l
  obtain ⟨w1, hw1, hb1, g1⟩ := zero_new w
  have h1 := h.below g1
  have hH := refHd_any w1 a n c l h1 (by rw [← h.len]; omega) hd
  rw [← hlN, h.len] at hH hN2
  obtain ⟨b, off, x, rfl, hx', hck⟩ := h1.at (k := 0) (by omega)
  obtain rfl : x = false := by rw [hx'] at hx; simpa using hx
  have hlt : b < w1.heap.size := by obtain ⟨b', off', e, hl, _⟩ := h1.cell (by omega); cases e; exact hl
  obtain ⟨v2, hv2⟩ : ∃ v2, v2 = (suV l).toNat := ⟨_, rfl⟩
  have hv20 : ¬ v2 = 0 := fun e => hs (by rw [← BitVec.toNat_inj, ← hv2, e]; rfl)
  have k2 : ∀ w2, Below w1.heap.size w1 w2 → Calls Try.prog 52 #[.slice (some ⟨b, off, none⟩) n c] w2 fun e w'' => e = .returned (.int .u16 (v2 : Int)) ∧ Below w2.heap.size w2 w'' := fun w2 g2 => by
    rw [hv2]
    exact refSum_any w2 _ n c _ (h1.below g2) (by omega)
  have hne : ((v2 : Int) != 0) = true := by simp; omega
  have hne' : ((v2 : Int) == 0) = false := by simp; omega
  have i0 : 0 < n := by omega
  clear hk hs hd hx hx' hlN hv2 hv20 h h1
  go_enter Try.func29, Try.ntmps29
  go_wp2_with (first
    | (go_at_call 38; rw [hw1.out]; (with_reducible refine hH.mono ?_); rintro e w2 ⟨rfl, g2⟩; have hb2 := bx_below hb1 g2; have c0 : w2.cell? ⟨b, off, none⟩ = some (.bool false) := (by rw [g2.cell (p := ⟨b, off, none⟩) hlt]; exact hck))
    | (go_at_call 52; (with_reducible refine (k2 w2 g2).mono ?_); rintro e w9 ⟨rfl, g9⟩; have hb9 := bx_below hb2 g9; obtain ⟨d0, d1, d2, d3, d4⟩ := bx5 hb9; have f8 := bx_thaw hb9; have hset := below_five (bstep (bstep g1 g2) g9)))
  exact bodyPost_ret (v := .tuple #[.agg #[.int .u32 0, .bool false, .bool false, .int .u8 0, .slice none 0 0], .int .i64 42]) (by simp [results, Try.results29, go_sem, d0, d1, d2, d3, d4]) rfl ⟨rfl, hset _ _ _ _ _⟩

set_option maxHeartbeats 1000000 in
theorem refParse_own (w : World) (a : Option Addr) (n c : Nat) (l : List Bool) (h : RL .bool w a n c l) (hk : paK l = true) (hs : suV l = 0#15) :
    Calls Try.prog 29 #[.slice a n c] w fun e w' => ∃ a' c', e = .returned (.tuple #[.agg #[.int .u32 ((reF l).id : Int), .bool (reF l).ext, .bool (reF l).rem, .int .u8 ((reF l).dlc : Int), .slice a' (lonF (reF l).rem (reF l).dlc) c'], .int .i64 0]) ∧ OL bv 5 w.heap.size w' a' (lonF (reF l).rem (reF l).dlc) c' (paD l) ∧ Below w.heap.size w w' := by
  obtain ⟨hd, hx, hlN⟩ := paK_parts hk
  have hN2 := hdN_le l
  obtain ⟨w1, hw1, hb1, g1⟩ := zero_new w
  have h1 := h.below g1
  have hH := refHd_any w1 a n c l h1 (by rw [← h.len]; omega) hd
  rw [← hlN, h.len] at hH hN2
  obtain ⟨b, off, x, rfl, hx', hck⟩ := h1.at (k := 0) (by omega)
  obtain rfl : x = false := by rw [hx'] at hx; simpa using hx
  have hlt : b < w1.heap.size := by obtain ⟨b', off', e, hl, _⟩ := h1.cell (by omega); cases e; exact hl
  have k2 : ∀ w2, Below w1.heap.size w1 w2 → Calls Try.prog 52 #[.slice (some ⟨b, off, none⟩) n c] w2 fun e w'' => e = .returned (.int .u16 0) ∧ Below w2.heap.size w2 w'' := fun w2 g2 => by
    have := refSum_any w2 _ n c _ (h1.below g2) (by omega)
    rw [hs] at this
    exact this
  have k3 : ∀ w2, Below w1.heap.size w1 w2 → Calls Try.prog 53 #[.slice (some ⟨b, off, none⟩) n c] w2 fun e w' => e = .returned (.tuple #[.agg #[.int .u32 ((reF l).id : Int), .bool (reF l).ext, .bool (reF l).rem, .int .u8 ((reF l).dlc : Int), .slice none 0 0], .int .i64 (heM l : Int)]) ∧ Below w2.heap.size w2 w' := fun w2 g2 =>
    refRead_any w2 _ n c _ (h1.below g2) (by omega) hd
  have i0 : 0 < n := by omega
  have hML : heM l + 8 * lonF (reF l).rem (reF l).dlc + 15 = l.length := by rw [hlN]; rfl
  unfold paD
  have hq8 := lonF_le (reF l).rem (reF l).dlc
  have hM40 : heM l ≤ 39 := by unfold heM; split <;> omega
  obtain ⟨L, hL⟩ : ∃ L, L = lonF (reF l).rem (reF l).dlc := ⟨_, rfl⟩
  obtain ⟨M, hM⟩ : ∃ M, M = heM l := ⟨_, rfl⟩
  rw [← hL] at hq8 hML ⊢
  rw [← hM] at hML hM40 ⊢
  simp only [← hM] at k3
  obtain ⟨fr, hfr⟩ : ∃ fr, fr = reF l := ⟨_, rfl⟩
  simp only [← hfr] at k3 ⊢
  clear hL hM hfr
  obtain ⟨id, ext, rem, dlc, dat⟩ := fr
  dsimp only at k3 ⊢
  have hlen := h.len
  obtain ⟨E, hE⟩ : ∃ E, n = E + 15 := ⟨n - 15, by omega⟩
  have hEi : (n : Int) - 15 = (E : Int) := by omega
  have hEM : E = M + 8 * L := by omega
  obtain ⟨a1, c1, p1, p2, hq1⟩ := run_cut tB h .i64 .i64 (M : Int) (E : Int) M E (8 * L) rfl rfl (by omega) (by omega) (by omega)
  have k4 : ∀ w2, Below w.heap.size w w2 → Calls Try.prog 54 #[.slice a1 (8 * L) c1] w2 fun e w' => ∃ a' c', e = .returned (.slice a' L c') ∧ OL bv 5 w2.heap.size w' a' L c' (byL ((l.drop M).take (8 * L))) ∧ Below w2.heap.size w2 w' := fun w2 g2 => by
    have := refBytes_any w2 a1 (8 * L) c1 _ (hq1.below g2) (by omega)
    rw [show 8 * L / 8 = L from by omega] at this
    exact this
  have HE := hid hE
  have HEM := hid hEM
  clear hk hs hd hx hx' hlN h h1 hE hEM hML hlen hq1
  go_enter Try.func29, Try.ntmps29
  go_wp2_with (first
    | (go_at_call 38; rw [hw1.out]; (with_reducible refine hH.mono ?_); rintro e w2 ⟨rfl, g2⟩; have hb2 := bx_below hb1 g2; have c0 : w2.cell? ⟨b, off, none⟩ = some (.bool false) := (by rw [g2.cell (p := ⟨b, off, none⟩) hlt]; exact hck))
    | (go_at_call 52; (with_reducible refine (k2 w2 g2).mono ?_); rintro e w3 ⟨rfl, g3⟩; have g13 := bstep g2 g3; have hb3 := bx_below hb2 g3; clear c0)
    | (go_at_call 53; (with_reducible refine (k3 w3 g13).mono ?_); rintro e w4 ⟨rfl, g4⟩; have g14 := bstep g13 g4; have hb4 := bx_below hb3 g4; have gg4 := bstep g1 g14; have hs4 := bx_lt hb4)
    | (go_at_call 54; refine (k4 _ (bnew gg4 _)).mono ?_; rintro e w5 ⟨a5, c5, rfl, hol5, g5⟩; have hb5 := bx_below (bx_alloc _ hb4) g5; have hq5 := bx_below (heap_alloc_new w4 _) g5; have gg5 := bstep (bnew gg4 _) g5; obtain ⟨d0, d1, d2, d3, d4⟩ := bx5 hb5; obtain ⟨e0, e1, e2, e3, e4⟩ := bx5 hq5; have f8 := bx_thaw hb5; have f9 := bx_thaw hq5))
  have hset := below_five (w1 := w5.setCell ⟨w4.heap.size, 4, none⟩ (.slice a5 L c5)) (gg5.setCell (by simp; omega) _)
  refine bodyPost_ret (v := .tuple #[.agg #[.int .u32 (id : Int), .bool ext, .bool rem, .int .u8 (dlc : Int), .slice a5 L c5], .int .i64 0]) (by simp [results, Try.results29, go_sem, d0, d1, d2, d3, d4]) rfl ⟨a5, c5, rfl, (hol5.kept fun j hj => ?_).mono (by simp only [heap_size_alloc]; have := gg4.size; omega), hset _ _ _ _ _⟩
  have h1 := (hol5.ltB hj).2
  simp only [heap_size_alloc] at h1
  have hn : j ≠ w.heap.size := by omega
  have hn2 : j ≠ w4.heap.size := by omega
  rw [heap_setCell_other _ _ _ _ hn, heap_setCell_other _ _ _ _ hn, heap_setCell_other _ _ _ _ hn, heap_setCell_other _ _ _ _ hn, heap_setCell_other _ _ _ _ hn, heap_setCell_other _ _ _ _ hn2]

theorem refParse_ok (w : World) (a : Option Addr) (n c : Nat) (l : List Bool) (h : RL .bool w a n c l) (hk : paK l = true) (hs : suV l = 0#15) :
    Calls Try.prog 29 #[.slice a n c] w fun e w' => ∃ a' c', e = .returned (.tuple #[.agg #[.int .u32 ((reF l).id : Int), .bool (reF l).ext, .bool (reF l).rem, .int .u8 ((reF l).dlc : Int), .slice a' (lonF (reF l).rem (reF l).dlc) c'], .int .i64 0]) ∧ RL bv w' a' (lonF (reF l).rem (reF l).dlc) c' (paD l) ∧ Below w.heap.size w w' :=
  (refParse_own w a n c l h hk hs).mono fun e w' ⟨a', c', h1, h2, h3⟩ => ⟨a', c', h1, h2.rl, h3⟩
end Go.Proofs.Ythpgcgkgokfnpaa
