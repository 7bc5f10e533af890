/-
  The walk of the statement FifoFull: for any room and times it returns true, and nothing that was there has changed.
-/
import Derived.Test.YtkojljmhgeehoaaB12f
namespace Go.Proofs.Ytkojljmhgeehoaa
open Go.RowKit Go.Sort
set_option linter.unusedVariables false

/-- Their times follow one another. -/
def Tms (T : Int) (fs : List Rx) : Prop := ∀ (i : Nat) (x : Rx), fs[i]? = some x → x.2 = T + (i : Int)
theorem Tms.push {T : Int} {fs : List Rx} (h : Tms T fs) (F : Ff) (k : Nat) (hk : fs.length = k) : Tms T (fs ++ [(F, T + (k : Int))]) := fun i x hx => by
  by_cases hi : i < fs.length
  · rw [List.getElem?_append_left hi] at hx; exact h i x hx
  · have := (List.getElem?_eq_some_iff.1 hx).1
    simp at this
    have hi2 : i = fs.length := by omega
    subst hi2
    simp at hx
    subst hx
    rw [hk]
theorem Tms.pop {T : Int} {fs : List Rx} (h : Tms T fs) : Tms (T + 1) (fs.drop 1) := fun i x hx => by
  have := h (1 + i) x (by simpa [Nat.add_comm] using hx)
  omega

section
variable {w0 w : World} {g n : Nat}
theorem full_rx (w : World) (j k : Nat) (hj : j ≤ 5) (hk : k ≤ 256) : Calls Try.prog 17 #[.int .i64 ((j : Int) * 1000 + (k : Int))] w fun e w' => e = .returned (.agg (rxV (rxN (j * 1000 + k) ((j : Int) * 1000 + (k : Int))))) ∧ Below w.heap.size w w' := rx_any w _ _ (by omega)
theorem full_rx1 (w : World) : Calls Try.prog 17 #[.int .i64 (-1)] w fun e w' => e = .returned (.agg (rxV (rxN 4294967295 (-1)))) ∧ Below w.heap.size w w' := rx_any w _ _ (by decide)
theorem full_push {fs : List Rx} (j k : Nat) (h : FfG w0 g ⟨n, fs, false⟩ w) (hk : fs.length = k) (hlt : k < n) (ht : Tms ((j : Int) * 1000) fs) :
    Calls Try.prog 10 #[.pointer (some ⟨g, 0, none⟩), .agg (rxV (rxN (j * 1000 + k) ((j : Int) * 1000 + (k : Int))))] w fun e w' => e = .returned (.int .i64 0) ∧ ∃ fs', FfG w0 g ⟨n, fs', false⟩ w' ∧ fs'.length = k + 1 ∧ Tms ((j : Int) * 1000) fs' :=
  (gPush_any h (j * 1000 + k) _ (by show fs.length < n; omega)).mono fun e w' ⟨he, da, dc, h'⟩ => ⟨he, _, h', by simp [hk], ht.push _ k hk⟩
theorem full_full {fs : List Rx} (h : FfG w0 g ⟨n, fs, false⟩ w) (hk : fs.length = n) (cs : Array Value) :
    Calls Try.prog 10 #[.pointer (some ⟨g, 0, none⟩), .agg cs] w fun e w' => e = .returned (.int .i64 5) ∧ FfG w0 g ⟨n, fs, true⟩ w' := gPush_full h cs hk
theorem full_clear {fs : List Rx} (h : FfG w0 g ⟨n, fs, true⟩ w) : Calls Try.prog 14 #[.pointer (some ⟨g, 0, none⟩)] w fun e w' => e = .returned (.bool true) ∧ FfG w0 g ⟨n, fs, false⟩ w' := gClear_any h
theorem full_over {fs : List Rx} (h : FfG w0 g ⟨n, fs, false⟩ w) : Calls Try.prog 16 #[.pointer (some ⟨g, 0, none⟩)] w fun e w' => e = .returned (.bool false) ∧ w = w' := gOver_any h
theorem full_len {fs : List Rx} (h : FfG w0 g ⟨n, fs, false⟩ w) (k : Nat) (hk : fs.length = k) : Calls Try.prog 15 #[.pointer (some ⟨g, 0, none⟩)] w fun e w' => e = .returned (.int .i64 (k : Int)) ∧ w = w' := by
  subst hk; exact gLen_any h
theorem full_len0 {fs : List Rx} (h : FfG w0 g ⟨n, fs, false⟩ w) (hk : fs.length = 0) : Calls Try.prog 15 #[.pointer (some ⟨g, 0, none⟩)] w fun e w' => e = .returned (.int .i64 0) ∧ w = w' := by
  have := gLen_any h; rw [hk] at this; exact this
theorem full_pops {fs : List Rx} (j k : Nat) (h : FfG w0 g ⟨n, fs, false⟩ w) (hk : fs.length = n - k) (hlt : k < n) (ht : Tms ((j : Int) * 1000 + (k : Int)) fs) :
    Calls Try.prog 18 #[.pointer (some ⟨g, 0, none⟩), .int .i64 ((j : Int) * 1000 + (k : Int))] w fun e w' => e = .returned (.bool true) ∧ ∃ fs', FfG w0 g ⟨n, fs', false⟩ w' ∧ fs'.length = n - (k + 1) ∧ Tms ((j : Int) * 1000 + ((k + 1 : Nat) : Int)) fs' := by
  obtain ⟨x, hx⟩ : ∃ x, fs[0]? = some x := ⟨_, List.getElem?_eq_getElem (by omega)⟩
  have hp := pops_any h x hx ((j : Int) * 1000 + (k : Int))
  have e0 : (x.2 == (j : Int) * 1000 + (k : Int)) = true := by rw [beq_iff_eq, ht 0 x hx]; simp
  rw [e0] at hp
  refine hp.mono fun e w' ⟨he, h'⟩ => ⟨he, _, h', by simp [hk]; omega, ?_⟩
  have := ht.pop
  rw [show (j : Int) * 1000 + ((k + 1 : Nat) : Int) = (j : Int) * 1000 + (k : Int) + 1 by omega]
  exact this
theorem full_pop {fs : List Rx} (h : FfG w0 g ⟨n, fs, false⟩ w) (hk : fs.length = 0) : Calls Try.prog 12 #[.pointer (some ⟨g, 0, none⟩)] w fun e w' => e = .returned (.tuple #[.agg rxZ, .bool false]) ∧ FfG w0 g ⟨n, fs, false⟩ w' := gPop_no h (List.eq_nil_of_length_eq_zero hk)
end

set_option maxRecDepth 100000 in
set_option maxHeartbeats 8000000 in
theorem fifoFull_walk (w : World) (room times : Nat) (hr : room ≤ 255) (hq : times ≤ 255) :
    Calls Try.prog 5 #[.int .u8 (room : Int), .int .u8 (times : Int)] w fun e w' => e = .returned (.bool true) ∧ Below w.heap.size w w' := by
  obtain ⟨n, hn, hn1, hn2⟩ : ∃ n : Nat, (1 : Int) + (room : Int) = (n : Int) ∧ 1 ≤ n ∧ n ≤ 256 := ⟨1 + room, by omega, by omega, by omega⟩
  obtain ⟨q, hq5, hql⟩ : ∃ q : Nat, (times : Int) % 5 = (q : Int) ∧ q < 5 := ⟨times % 5, by omega, by omega⟩
  obtain ⟨M, hM, hM5⟩ : ∃ M : Nat, (1 : Int) + (q : Int) = (M : Int) ∧ M ≤ 5 := ⟨1 + q, by omega, by omega⟩
  have hN : ∀ w', Calls Try.prog 7 #[.int .i64 (n : Int)] w' fun e w'' => ∃ g, e = .returned (.tuple #[.pointer (some ⟨g, 0, none⟩), .int .i64 0]) ∧ FfG w' g ⟨n, [], false⟩ w'' := fun w' => gNew_any w' n hn1 hn2 (Below.refl _ _)
  go_enter Try.func5, Try.ntmps5
  go_wp2_with (go_at_call 7; (with_reducible refine (hN _).mono ?_); rintro e w1 ⟨g, rfl, h1⟩)
  clear hN hn hq5 hM
  go_loopg [27] M (fun gn vi wr => ∃ j : Nat, j ≤ M ∧ gn = M - j ∧ vi = .int .i64 (j : Int) ∧ FfG w g ⟨n, [], false⟩ wr)
  case atStart => exact ⟨0, by omega, by omega, rfl, h1⟩
  case round =>
    obtain ⟨j, hj, rfl, rfl, h2⟩ := hrel
    clear h1
    by_cases hjl : j < M
    · go_wp2
      obtain ⟨w20, hw20⟩ : ∃ w20, w20 = wr := ⟨_, rfl⟩
      rw [← hw20]
      rw [← hw20] at h2
      clear hw20
      go_loopg [31] n (fun gn vi wr => ∃ (k : Nat) (fs : List Rx), k ≤ n ∧ gn = n - k ∧ vi = .int .i64 (k : Int) ∧ Hid (fs.length = k) ∧ Tms ((j : Int) * 1000) fs ∧ FfG w g ⟨n, fs, false⟩ wr)
      case atStart => exact ⟨0, [], by omega, by omega, rfl, rfl, fun i x hx => (by simp at hx), h2⟩
      case round =>
        obtain ⟨k, fs, hk, rfl, rfl, hl, ht, h3⟩ := hrel
        clear h2
        by_cases hkl : k < n
        · go_wp2_with (first
            | (go_at_call 17; (with_reducible refine (full_rx _ j k (by omega) (by omega)).mono ?_); rintro e w4 ⟨rfl, g4⟩; have h4 := h3.call g4)
            | (go_at_call 10; (with_reducible refine (full_push j k h4 hl.out hkl ht).mono ?_); rintro e w5 ⟨rfl, fs', h5, hl5, ht5⟩))
          go_roundg (n - (k + 1))
          case measure => omega
          case rel => exact ⟨k + 1, fs', by omega, rfl, by go_num, hl5, ht5, h5⟩
        · obtain rfl : n = k := by omega
          go_wp2_with (first
            | (go_at_call 16; (with_reducible refine (full_over h3).mono ?_); rintro e w4 ⟨rfl, rfl⟩)
            | (go_at_call 17; (with_reducible refine (full_rx1 _).mono ?_); rintro e w5 ⟨rfl, g5⟩; have h5 := h3.call g5)
            | (go_at_call 10; (with_reducible refine (full_full h5 hl.out _).mono ?_); rintro e w6 ⟨rfl, h6⟩)
            | (go_at_call 14; (with_reducible refine (full_clear h6).mono ?_); rintro e w7 ⟨rfl, h7⟩)
            | (go_at_call 15; (with_reducible refine (full_len h7 _ hl.out).mono ?_); rintro e w8 ⟨rfl, rfl⟩))
          obtain ⟨w30, hw30⟩ : ∃ w30, w30 = w7 := ⟨_, rfl⟩
          rw [← hw30]
          rw [← hw30] at h7
          have HT := hid ht
          clear hw30 ht h3 h5 h6
          go_loopg [63] n (fun gn vi wr => ∃ (k : Nat) (fs : List Rx), k ≤ n ∧ gn = n - k ∧ vi = .int .i64 (k : Int) ∧ Hid (fs.length = n - k) ∧ Tms ((j : Int) * 1000 + (k : Int)) fs ∧ FfG w g ⟨n, fs, false⟩ wr)
          case atStart => exact ⟨0, fs, by omega, by omega, rfl, hl.out, by rw [show (j : Int) * 1000 + ((0 : Nat) : Int) = (j : Int) * 1000 by omega]; exact HT.out, h7⟩
          case round =>
            clear h7 hl HT
            obtain ⟨k, fs2, hk, rfl, rfl, hl, ht, h8⟩ := hrel
            by_cases hkl : k < n
            · go_wp2_with (go_at_call 18; (with_reducible refine (full_pops j k h8 hl.out hkl ht).mono ?_); rintro e w9 ⟨rfl, fs', h9, hl9, ht9⟩)
              go_roundg (n - (k + 1))
              case measure => omega
              case rel => exact ⟨k + 1, fs', by omega, rfl, by go_num, hl9, ht9, h9⟩
            · obtain rfl : n = k := by omega
              have hl0 : fs2.length = 0 := by have := hl.out; omega
              have HL0 := hid hl0
              clear hl0
              go_wp2_with (first
                | (go_at_call 12; (with_reducible refine (full_pop h8 HL0.out).mono ?_); rintro e w13 ⟨rfl, h13⟩
                   have b13 := heap_alloc_new w13 (.cells rxZ 36)
                   have h14 := h13.call (below_setRow (bnew0 w13 (.cells rxZ 36)) (Nat.le_refl _) rxZ))
                | (with_reducible refine wpList_storeR rowX rfl _ _ rfl _ _ rfl rfl b13 rfl rfl rxZ_ones ?_)
                | (go_at_call 15; (with_reducible refine (full_len0 h14 HL0.out).mono ?_); rintro e w8 ⟨rfl, rfl⟩))
              obtain rfl : fs2 = [] := List.eq_nil_of_length_eq_zero HL0.out
              go_roundg (M - (j + 1))
              case measure => omega
              case rel => exact ⟨j + 1, by omega, rfl, by go_num, h14⟩
    · obtain rfl : j = M := by omega
      go_wp2_with (go_at_call 8; (with_reducible refine (awake12_any _).mono ?_); rintro e w5 ⟨rfl, g5⟩)
      go_ret
      exact ⟨rfl, bstep h2.2 g5⟩
end Go.Proofs.Ytkojljmhgeehoaa
