/-
  Contracts of Parse where the bits are no body (the program's and the document's).
-/
import Derived.Test.YthpgcgkgokfnpaaB4o
namespace Go.Proofs.Ythpgcgkgokfnpaa
open Go.RowKit Go.Sort
set_option linter.unusedVariables false

/-- Whether the bits have the form of a body. -/
def paK (l : List Bool) : Bool := hdK l && !(l[0]?.getD false) && decide (l.length = hdN l)

theorem zero_new (w : World) : ∃ w1, Hid (w.alloc (.cells #[.int .u32 0, .bool false, .bool false, .int .u8 0, .slice none 0 0] 36) = w1) ∧ w1.heap[w.heap.size]? = some (.cells #[.int .u32 0, .bool false, .bool false, .int .u8 0, .slice none 0 0] 36 (0, 0)) ∧ Below w.heap.size w w1 := ⟨_, rfl, heap_alloc_new w _, bnew0 w _⟩

theorem hdN_le (l : List Bool) : 34 ≤ hdN l ∧ hdN l ≤ 118 := by
  have := lonF_le (reF l).rem (reF l).dlc
  unfold hdN heM; split <;> omega

theorem parse_bits (w : World) (a : Option Addr) (n c : Nat) (l : List Bool) (h : RL .bool w a n c l) (hn : n ≤ 9223372036854775807) (hk : paK l = false) :
    Calls Try.prog 28 #[.slice a n c] w fun e w' => e = .returned (.tuple #[.agg #[.int .u32 0, .bool false, .bool false, .int .u8 0, .slice none 0 0], .int .i64 41]) ∧ Below w.heap.size w w' := by
  obtain ⟨w1, hw1, hb1, g1⟩ := zero_new w
  have h1 := h.below g1
  cases hd : hdK l
  · have hH := fhead_none w1 a n c l h1 hn hd
    clear hk
    go_enter Try.func28, Try.ntmps28
    go_wp2_with (go_at_call 47; rw [hw1.out]; (with_reducible refine hH.mono ?_); rintro e w2 ⟨rfl, g2⟩; have hb2 := bx_below hb1 g2; obtain ⟨d0, d1, d2, d3, d4⟩ := bx5 hb2; have f8 := bx_thaw hb2; have hset := below_five (bstep g1 g2))
    exact bodyPost_ret (v := .tuple #[.agg #[.int .u32 0, .bool false, .bool false, .int .u8 0, .slice none 0 0], .int .i64 41]) (by simp [results, Try.results28, go_sem, d0, d1, d2, d3, d4]) rfl ⟨rfl, hset _ _ _ _ _⟩
  · have hH := fhead_any w1 a n c l h1 hn hd
    obtain ⟨N, hN⟩ : ∃ N, N = hdN l := ⟨_, rfl⟩
    have hN2 := hdN_le l
    rw [← hN] at hH hN2
    have h19 : 19 ≤ n := by unfold hdK at hd; rw [h.len] at hd; simp at hd; omega
    unfold paK at hk
    rw [hd, h.len, ← hN] at hk
    obtain ⟨b, off, x, rfl, hx, hck⟩ := h.at (k := 0) (by omega)
    obtain ⟨_, _, x', e, hx', hck1⟩ := h1.at (k := 0) (by omega)
    cases e
    obtain rfl : x' = x := by rw [hx'] at hx; simpa using hx
    have hlt : b < w1.heap.size := by obtain ⟨b', off', e, hl, _⟩ := h1.cell (by omega); cases e; exact hl
    rw [hx] at hk
    clear hx hx' hd hN
    have i0 : 0 < n := by omega
    cases x'
    · simp at hk
      have hne : ((n : Int) != (N : Int)) = true := by simp; omega
      have hne' : ((n : Int) == (N : Int)) = false := by simp; omega
      clear hk
      go_enter Try.func28, Try.ntmps28
      go_wp2_with (go_at_call 47; rw [hw1.out]; (with_reducible refine hH.mono ?_); rintro e w2 ⟨rfl, g2⟩; have hb2 := bx_below hb1 g2; obtain ⟨d0, d1, d2, d3, d4⟩ := bx5 hb2; have f8 := bx_thaw hb2; have hset := below_five (bstep g1 g2); have c0 : w2.cell? ⟨b, off, none⟩ = some (.bool false) := (by rw [g2.cell (p := ⟨b, off, none⟩) hlt]; exact hck1))
      exact bodyPost_ret (v := .tuple #[.agg #[.int .u32 0, .bool false, .bool false, .int .u8 0, .slice none 0 0], .int .i64 41]) (by simp [results, Try.results28, go_sem, d0, d1, d2, d3, d4]) rfl ⟨rfl, hset _ _ _ _ _⟩
    · clear hk
      go_enter Try.func28, Try.ntmps28
      go_wp2_with (go_at_call 47; rw [hw1.out]; (with_reducible refine hH.mono ?_); rintro e w2 ⟨rfl, g2⟩; have hb2 := bx_below hb1 g2; obtain ⟨d0, d1, d2, d3, d4⟩ := bx5 hb2; have f8 := bx_thaw hb2; have hset := below_five (bstep g1 g2); have c0 : w2.cell? ⟨b, off, none⟩ = some (.bool true) := (by rw [g2.cell (p := ⟨b, off, none⟩) hlt]; exact hck1))
      exact bodyPost_ret (v := .tuple #[.agg #[.int .u32 0, .bool false, .bool false, .int .u8 0, .slice none 0 0], .int .i64 41]) (by simp [results, Try.results28, go_sem, d0, d1, d2, d3, d4]) rfl ⟨rfl, hset _ _ _ _ _⟩

theorem refParse_bits (w : World) (a : Option Addr) (n c : Nat) (l : List Bool) (h : RL .bool w a n c l) (hn : n ≤ 100000) (hk : paK l = false) :
    Calls Try.prog 29 #[.slice a n c] w fun e w' => e = .returned (.tuple #[.agg #[.int .u32 0, .bool false, .bool false, .int .u8 0, .slice none 0 0], .int .i64 41]) ∧ Below w.heap.size w w' := by
  obtain ⟨w1, hw1, hb1, g1⟩ := zero_new w
  have h1 := h.below g1
  cases hd : hdK l
  · have hH := refHd_none w1 a n c l h1 hn hd
    clear hk
    go_enter Try.func29, Try.ntmps29
    go_wp2_with (go_at_call 38; rw [hw1.out]; (with_reducible refine hH.mono ?_); rintro e w2 ⟨rfl, g2⟩; have hb2 := bx_below hb1 g2; obtain ⟨d0, d1, d2, d3, d4⟩ := bx5 hb2; have f8 := bx_thaw hb2; have hset := below_five (bstep g1 g2))
    exact bodyPost_ret (v := .tuple #[.agg #[.int .u32 0, .bool false, .bool false, .int .u8 0, .slice none 0 0], .int .i64 41]) (by simp [results, Try.results29, go_sem, d0, d1, d2, d3, d4]) rfl ⟨rfl, hset _ _ _ _ _⟩
  · have hH := refHd_any w1 a n c l h1 hn hd
    obtain ⟨N, hN⟩ : ∃ N, N = hdN l := ⟨_, rfl⟩
    have hN2 := hdN_le l
    rw [← hN] at hH hN2
    have h19 : 19 ≤ n := by unfold hdK at hd; rw [h.len] at hd; simp at hd; omega
    unfold paK at hk
    rw [hd, h.len, ← hN] at hk
    obtain ⟨b, off, x, rfl, hx, hck⟩ := h.at (k := 0) (by omega)
    obtain ⟨_, _, x', e, hx', hck1⟩ := h1.at (k := 0) (by omega)
    cases e
    obtain rfl : x' = x := by rw [hx'] at hx; simpa using hx
    have hlt : b < w1.heap.size := by obtain ⟨b', off', e, hl, _⟩ := h1.cell (by omega); cases e; exact hl
    rw [hx] at hk
    clear hx hx' hd hN
    have i0 : 0 < n := by omega
    cases x'
    · simp at hk
      have hne : ((n : Int) != (N : Int)) = true := by simp; omega
      have hne' : ((n : Int) == (N : Int)) = false := by simp; omega
      clear hk
      go_enter Try.func29, Try.ntmps29
      go_wp2_with (go_at_call 38; rw [hw1.out]; (with_reducible refine hH.mono ?_); rintro e w2 ⟨rfl, g2⟩; have hb2 := bx_below hb1 g2; obtain ⟨d0, d1, d2, d3, d4⟩ := bx5 hb2; have f8 := bx_thaw hb2; have hset := below_five (bstep g1 g2); have c0 : w2.cell? ⟨b, off, none⟩ = some (.bool false) := (by rw [g2.cell (p := ⟨b, off, none⟩) hlt]; exact hck1))
      exact bodyPost_ret (v := .tuple #[.agg #[.int .u32 0, .bool false, .bool false, .int .u8 0, .slice none 0 0], .int .i64 41]) (by simp [results, Try.results29, go_sem, d0, d1, d2, d3, d4]) rfl ⟨rfl, hset _ _ _ _ _⟩
    · clear hk
      by_cases hnN : n = N
      · have hne : ((n : Int) != (N : Int)) = false := by simp; omega
        have hne' : ((n : Int) == (N : Int)) = true := by simp; omega
        clear hnN
        go_enter Try.func29, Try.ntmps29
        go_wp2_with (go_at_call 38; rw [hw1.out]; (with_reducible refine hH.mono ?_); rintro e w2 ⟨rfl, g2⟩; have hb2 := bx_below hb1 g2; obtain ⟨d0, d1, d2, d3, d4⟩ := bx5 hb2; have f8 := bx_thaw hb2; have hset := below_five (bstep g1 g2); have c0 : w2.cell? ⟨b, off, none⟩ = some (.bool true) := (by rw [g2.cell (p := ⟨b, off, none⟩) hlt]; exact hck1))
        exact bodyPost_ret (v := .tuple #[.agg #[.int .u32 0, .bool false, .bool false, .int .u8 0, .slice none 0 0], .int .i64 41]) (by simp [results, Try.results29, go_sem, d0, d1, d2, d3, d4]) rfl ⟨rfl, hset _ _ _ _ _⟩
      · have hne : ((n : Int) != (N : Int)) = true := by simp; omega
        have hne' : ((n : Int) == (N : Int)) = false := by simp; omega
        clear hnN
        go_enter Try.func29, Try.ntmps29
        go_wp2_with (go_at_call 38; rw [hw1.out]; (with_reducible refine hH.mono ?_); rintro e w2 ⟨rfl, g2⟩; have hb2 := bx_below hb1 g2; obtain ⟨d0, d1, d2, d3, d4⟩ := bx5 hb2; have f8 := bx_thaw hb2; have hset := below_five (bstep g1 g2); have c0 : w2.cell? ⟨b, off, none⟩ = some (.bool true) := (by rw [g2.cell (p := ⟨b, off, none⟩) hlt]; exact hck1))
        exact bodyPost_ret (v := .tuple #[.agg #[.int .u32 0, .bool false, .bool false, .int .u8 0, .slice none 0 0], .int .i64 41]) (by simp [results, Try.results29, go_sem, d0, d1, d2, d3, d4]) rfl ⟨rfl, hset _ _ _ _ _⟩

end Go.Proofs.Ythpgcgkgokfnpaa
