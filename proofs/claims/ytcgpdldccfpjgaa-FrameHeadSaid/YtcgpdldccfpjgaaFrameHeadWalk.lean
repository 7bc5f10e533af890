/-
  The walk of the statement FrameHead: for any frame and any bits it returns true, and nothing that was there has changed.
-/
import Derived.Test.YtcgpdldccfpjgaaB4t
namespace Go.Proofs.Ytcgpdldccfpjgaa
open Go.RowKit Go.Sort
set_option linter.unusedVariables false

set_option maxHeartbeats 2000000 in
theorem frameHead_walk (w : World) (id : Nat) (ext rem : Bool) (dlc : Nat) (a : Option Addr) (n c : Nat) (l : List UInt8) (a2 : Option Addr) (n2 c2 : Nat) (l2 : List Bool) (hi : id < 4294967296) (hd : dlc < 256) (h : RL bv w a n c l) (h2 : RL .bool w a2 n2 c2 l2) (m1 : n ≤ 9223372036854775807) (m2 : n2 ≤ 9223372036854775807) :
    Calls Try.prog 5 #[.agg #[.int .u32 (id : Int), .bool ext, .bool rem, .int .u8 (dlc : Int), .slice a n c], .slice a2 n2 c2] w fun e w' => e = .returned (.bool true) ∧ Below w.heap.size w w' := by
  obtain ⟨w0, hw0, hbx, _, _, _, _, _, gg0⟩ := boxed w 25 (.int .u32 (id : Int)) (.bool ext) (.bool rem) (.int .u8 (dlc : Int)) (.slice a n c)
  have h0 := h.below gg0
  cases hr : riF id ext rem dlc n
  · have hB := body_wrong w0 id ext rem dlc a n c hi hd hr
    go_enter Try.func5, Try.ntmps5
    go_wp2_with (first
      | (go_at_call 19; rw [hw0.out]; (with_reducible refine hB.mono ?_); rintro e w1 ⟨rfl, g1⟩)
      | (go_at_call 10; refine (awake4_any w1).mono ?_; rintro e w3 ⟨rfl, g3⟩))
    go_ret
    exact ⟨rfl, bstep (bstep gg0 g1) g3⟩
  obtain ⟨hn1, hn8, _, _⟩ := riF_long hr
  have hB := body_any w0 id ext rem dlc a n c l hi hd h0 hr
  have hg : Good ⟨id, ext, rem, dlc, l⟩ := (good_iff ⟨id, ext, rem, dlc, l⟩ n h.len).1 hr
  obtain ⟨N, hNE⟩ : ∃ N, N = heN ext + 8 * n + 15 := ⟨_, rfl⟩
  rw [← hNE] at hB
  obtain ⟨B, hBs⟩ : ∃ B, B = boL ⟨id, ext, rem, dlc, l⟩ := ⟨_, rfl⟩
  rw [← hBs] at hB
  by_cases hm : 100 < n2
  · have i1 : (100 : Int) < (n2 : Int) := by omega
    clear hn1 hNE hBs
    go_enter Try.func5, Try.ntmps5
    go_wp2_with (first
      | (go_at_call 19; rw [hw0.out]; (with_reducible refine hB.mono ?_); rintro e w1 ⟨a1, c1, rfl, hol1, g1⟩)
      | (go_at_call 10; refine (awake4_any w1).mono ?_; rintro e w3 ⟨rfl, g3⟩))
    go_ret
    exact ⟨rfl, bstep (bstep gg0 g1) g3⟩
  have i1 : ¬ (100 : Int) < (n2 : Int) := by omega
  have hlo := fun w0 => frLong_any w0 id ext rem dlc a n c hd
  rw [← hn1] at hlo
  cases ext
  · have hN : N = 19 + 8 * n + 15 := hNE
    have i34 : ¬ (N : Int) < 34 := by omega
    have i54 : ¬ (N : Int) < 34 := by omega
    have hfin : (19 : Int) + 8 * (n : Int) + 15 = (N : Int) := by omega
    have hT : B.take 19 ++ l2 = heL id false rem dlc ++ l2 := by rw [hBs]; exact bo_from ⟨id, false, rem, dlc, l⟩ hg l2
    obtain ⟨hh1, _, hh3⟩ := he_head ⟨id, false, rem, dlc, l⟩ hg l2
    dsimp only at hh1 hh3
    rw [← hT] at hh1 hh3
    have hh3' : hdN (B.take 19 ++ l2) = N := by rw [hh3, ← hn1, hN]; rfl
    have HK : Hid (∀ i, i < 19 → hdK (B.take i) = false) := fun i hi => by rw [hBs]; exact bo_take ⟨id, false, rem, dlc, l⟩ hg i hi
    have HHD := fun (w1 : World) (a1 : Option Addr) (c1 : Nat) h1 => fhead_any w1 a1 (19 + n2) c1 (B.take 19 ++ l2) h1 (by omega) hh1
    rw [hh3'] at HHD
    clear hh1 hh3 hh3' hT hNE hBs hg hn1
    have HN := hid hN; clear hN
    go_enter Try.func5, Try.ntmps5
    go_wp2_with (first
      | (go_at_call 19; rw [hw0.out]; (with_reducible refine hB.mono ?_); rintro e w1 ⟨a1, c1, rfl, hol1, g1⟩; have hbx1 := bx_below hbx g1; obtain ⟨k0, k1, k2, k3, k4⟩ := bx5 hbx1; have hr1 := hol1.rl; have gg1 := bstep gg0 g1))
    clear i34 i54
    go_loopw [41] (fun i wr => ∃ k : Nat, k ≤ 19 ∧ i = .int .i64 (k : Int) ∧ Below w1.heap.size w1 wr) (fun i _ => 19 - (intOf i).toNat)
    case atStart => exact ⟨0, Nat.zero_le _, rfl, Below.refl _ _⟩
    case round =>
      clear k0 k1 k2 k3 k4
      obtain ⟨k, hk, rfl, hb⟩ := hrel
      have hr2 := hr1.below hb
      by_cases hlt : k < 19
      · obtain ⟨a3, p1, p2, hr3⟩ := run_cutTo tB hr2 .i64 k (by have := HN.out; omega)
        have hcall := fhead_none wr a3 k c1 _ hr3 (by omega) (HK.out k hlt)
        clear hr3
        go_wp2_with (go_at_call 24; (with_reducible refine hcall.mono ?_); rintro e w2 ⟨rfl, g2⟩)
        clear p1 p2
        go_roundw
        case rel => exact ⟨k + 1, by omega, by go_num, bstep hb g2⟩
        case measure => simp [intOf]; omega
      · obtain rfl : k = 19 := by omega
        obtain ⟨a3, p1, p2, hr3⟩ := run_to tB hr2 .i64 19 19 rfl (by have := HN.out; omega)
        have gg2 := bstep gg1 hb
        have hs2 := hb.size
        have hl2 := h2.below gg2
        have hbx2 := bx_below hbx1 hb
        clear hr2 hb
        go_wp2_with (first
          | (go_at_call 12; refine (anew_any wr a3 19 c1 _ hr3 (by omega)).mono ?_; rintro e w3 ⟨a4, c4, rfl, hol4, g3⟩; have hl3 := hl2.below g3; have gg3 := bstep gg2 g3; have hs3 := g3.size)
          | (at_builtin; refine wpList_app (f := Value.bool) (B := wr.heap.size) (w := w3) tB rfl _ _ rfl rfl hol4 rfl hl3 (fun _ => rfl) (by omega) (by omega) hs3 ?_; intro w5 a5 c5 hol5 g5; have gg5 := gg3.trans (g5.mono gg2.size); have hbx5 : w5.heap[w.heap.size]? = _ := (g5.block _ (bx_lt hbx2)).trans (bx_below hbx2 g3); obtain ⟨k0, k1, k2, k3, k4⟩ := bx5 hbx5)
          | (go_at_call 24; refine (HHD w5 a5 c5 hol5.rl).mono ?_; rintro e w6 ⟨rfl, g6⟩; have gg6 := bstep gg5 g6; clear k0 k1 k2 k3 k4; obtain ⟨k0, k1, k2, k3, k4⟩ := bx5 (bx_below hbx5 g6))
          | (go_at_call 15; (with_reducible refine (hlo w6).mono ?_); rintro e w7 ⟨rfl, g7⟩)
          | (go_at_call 10; refine (awake4_any w7).mono ?_; rintro e w8 ⟨rfl, g8⟩))
        go_ret
        exact ⟨rfl, bstep (bstep gg6 g7) g8⟩
  · have hN : N = 39 + 8 * n + 15 := hNE
    have i34 : ¬ (N : Int) < 34 := by omega
    have i54 : ¬ (N : Int) < 54 := by omega
    have hfin : (39 : Int) + 8 * (n : Int) + 15 = (N : Int) := by omega
    have hT : B.take 39 ++ l2 = heL id true rem dlc ++ l2 := by rw [hBs]; exact bo_from ⟨id, true, rem, dlc, l⟩ hg l2
    obtain ⟨hh1, _, hh3⟩ := he_head ⟨id, true, rem, dlc, l⟩ hg l2
    dsimp only at hh1 hh3
    rw [← hT] at hh1 hh3
    have hh3' : hdN (B.take 39 ++ l2) = N := by rw [hh3, ← hn1, hN]; rfl
    have HK : Hid (∀ i, i < 39 → hdK (B.take i) = false) := fun i hi => by rw [hBs]; exact bo_take ⟨id, true, rem, dlc, l⟩ hg i hi
    have HHD := fun (w1 : World) (a1 : Option Addr) (c1 : Nat) h1 => fhead_any w1 a1 (39 + n2) c1 (B.take 39 ++ l2) h1 (by omega) hh1
    rw [hh3'] at HHD
    clear hh1 hh3 hh3' hT hNE hBs hg hn1
    have HN := hid hN; clear hN
    go_enter Try.func5, Try.ntmps5
    go_wp2_with (first
      | (go_at_call 19; rw [hw0.out]; (with_reducible refine hB.mono ?_); rintro e w1 ⟨a1, c1, rfl, hol1, g1⟩; have hbx1 := bx_below hbx g1; obtain ⟨k0, k1, k2, k3, k4⟩ := bx5 hbx1; have hr1 := hol1.rl; have gg1 := bstep gg0 g1))
    clear i34 i54
    go_loopw [41] (fun i wr => ∃ k : Nat, k ≤ 39 ∧ i = .int .i64 (k : Int) ∧ Below w1.heap.size w1 wr) (fun i _ => 39 - (intOf i).toNat)
    case atStart => exact ⟨0, Nat.zero_le _, rfl, Below.refl _ _⟩
    case round =>
      clear k0 k1 k2 k3 k4
      obtain ⟨k, hk, rfl, hb⟩ := hrel
      have hr2 := hr1.below hb
      by_cases hlt : k < 39
      · obtain ⟨a3, p1, p2, hr3⟩ := run_cutTo tB hr2 .i64 k (by have := HN.out; omega)
        have hcall := fhead_none wr a3 k c1 _ hr3 (by omega) (HK.out k hlt)
        clear hr3
        go_wp2_with (go_at_call 24; (with_reducible refine hcall.mono ?_); rintro e w2 ⟨rfl, g2⟩)
        clear p1 p2
        go_roundw
        case rel => exact ⟨k + 1, by omega, by go_num, bstep hb g2⟩
        case measure => simp [intOf]; omega
      · obtain rfl : k = 39 := by omega
        obtain ⟨a3, p1, p2, hr3⟩ := run_to tB hr2 .i64 39 39 rfl (by have := HN.out; omega)
        have gg2 := bstep gg1 hb
        have hs2 := hb.size
        have hl2 := h2.below gg2
        have hbx2 := bx_below hbx1 hb
        clear hr2 hb
        go_wp2_with (first
          | (go_at_call 12; refine (anew_any wr a3 39 c1 _ hr3 (by omega)).mono ?_; rintro e w3 ⟨a4, c4, rfl, hol4, g3⟩; have hl3 := hl2.below g3; have gg3 := bstep gg2 g3; have hs3 := g3.size)
          | (at_builtin; refine wpList_app (f := Value.bool) (B := wr.heap.size) (w := w3) tB rfl _ _ rfl rfl hol4 rfl hl3 (fun _ => rfl) (by omega) (by omega) hs3 ?_; intro w5 a5 c5 hol5 g5; have gg5 := gg3.trans (g5.mono gg2.size); have hbx5 : w5.heap[w.heap.size]? = _ := (g5.block _ (bx_lt hbx2)).trans (bx_below hbx2 g3); obtain ⟨k0, k1, k2, k3, k4⟩ := bx5 hbx5)
          | (go_at_call 24; refine (HHD w5 a5 c5 hol5.rl).mono ?_; rintro e w6 ⟨rfl, g6⟩; have gg6 := bstep gg5 g6; clear k0 k1 k2 k3 k4; obtain ⟨k0, k1, k2, k3, k4⟩ := bx5 (bx_below hbx5 g6))
          | (go_at_call 15; (with_reducible refine (hlo w6).mono ?_); rintro e w7 ⟨rfl, g7⟩)
          | (go_at_call 10; refine (awake4_any w7).mono ?_; rintro e w8 ⟨rfl, g8⟩))
        go_ret
        exact ⟨rfl, bstep (bstep gg6 g7) g8⟩
end Go.Proofs.Ytcgpdldccfpjgaa
