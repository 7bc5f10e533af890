/-
  Contract of the document's head.
-/
import Derived.Test.YtcgpdldccfpjgaaB4c
namespace Go.Proofs.Ytcgpdldccfpjgaa
open Go.RowKit Go.Sort
set_option linter.unusedVariables false

theorem refHead_any (w : World) (id : Nat) (ext rem : Bool) (dlc : Nat) (a : Option Addr) (n c : Nat) (hi : id < 4294967296) (hd : dlc < 256) :
    Calls Try.prog 33 #[.agg #[.int .u32 (id : Int), .bool ext, .bool rem, .int .u8 (dlc : Int), .slice a n c]] w fun e w' => ∃ a' c', e = .returned (.slice a' (heN ext) c') ∧ OL .bool 4 w.heap.size w' a' (heN ext) c' (heL id ext rem dlc) ∧ Below w.heap.size w w' := by
  cases ext
  · have HY : Hid (heL id false rem dlc = [false] ++ ofL id 11 ++ [rem, false, false] ++ ofL dlc 4) := by show _ = _; unfold heL conL; simp
    rw [HY.out]
    go_enter Try.func33, Try.ntmps33
    go_wp2_with (first
      | (go_at_call 51; (with_reducible refine (refOf_any _ id 11 hi (by omega)).mono ?_); rw [clamp_11]; rintro e w2 ⟨a2, c2, rfl, hol2, g2⟩; have st2 := (St.lit w _ 25 false).call g2; obtain ⟨_, _, k2, _, _⟩ := bx5 st2.box; clear k2; have hs2 := st2.siz)
      | (at_builtin; refine wpList_app (f := Value.bool) (B := w.heap.size + 1) (w := w2) tB rfl _ _ rfl rfl st2.row rfl hol2.rl (fun _ => rfl) (by omega) (by omega) (by omega) ?_; intro w3 a3 c3 hol3 g3; have st3 := st2.app hol3 g3; obtain ⟨_, _, k2, _, _⟩ := bx5 st3.box; have hs3 := st3.siz)
      | (at_builtin; refine wpList_app (f := Value.bool) (B := w.heap.size + 1) tB rfl _ _ rfl rfl (st3.alloc _).row rfl (lit3 w3 rem false false) (fun _ => rfl) (by omega) (by omega) (by simp; omega) ?_; intro w4 a4 c4 hol4 g4; have st4 := (st3.alloc _).app hol4 g4; obtain ⟨_, _, _, k3, _⟩ := bx5 st4.box; have hs4 := st4.siz)
      | (go_at_call 51; (with_reducible refine (refOf_any w4 dlc 4 (by omega) (by omega)).mono ?_); rw [clamp_4]; rintro e w5 ⟨a5, c5, rfl, hol5, g5⟩; have st5 := st4.call g5; have hs5 := st5.siz)
      | (at_builtin; refine wpList_app (f := Value.bool) (B := w.heap.size + 1) (w := w5) tB rfl _ _ rfl rfl st5.row rfl hol5.rl (fun _ => rfl) (by omega) (by omega) (by omega) ?_; intro w6 a6 c6 hol6 g6; have st6 := st5.app hol6 g6))
    go_ret
    exact ⟨_, _, rfl, st6.ol, st6.bel⟩
  · obtain ⟨y, hy⟩ : ∃ y, y = id / 262144 := ⟨_, rfl⟩
    obtain ⟨z, hz⟩ : ∃ z, z = id % 262144 := ⟨_, rfl⟩
    have hy2 : y < 4294967296 := by omega
    have hz2 : z < 4294967296 := by omega
    have hqy : (id : Int) / 262144 = (y : Int) := by omega
    have hrz : (id : Int) % 262144 = (z : Int) := by omega
    have HY : Hid (heL id true rem dlc = [false] ++ ofL y 11 ++ [true, true] ++ ofL z 18 ++ [rem, false, false] ++ ofL dlc 4) := by
      show _ = _; rw [hy, hz, show (262144 : Nat) = 2 ^ 18 from rfl, ofL_mod _ _ _ (Nat.le_refl _)]; unfold heL conL; simp
    rw [HY.out]
    clear hy hz
    go_enter Try.func33, Try.ntmps33
    go_wp2_with (first
      | (go_at_call 51; (with_reducible refine (refOf_any _ y 11 hy2 (by omega)).mono ?_); rw [clamp_11]; rintro e w2 ⟨a2, c2, rfl, hol2, g2⟩; have st2 := (St.lit w _ 25 false).call g2; have hs2 := st2.siz)
      | (at_builtin; refine wpList_app (f := Value.bool) (B := w.heap.size + 1) (w := w2) tB rfl _ _ rfl rfl st2.row rfl hol2.rl (fun _ => rfl) (by omega) (by omega) (by omega) ?_; intro w3 a3 c3 hol3 g3; have st3 := st2.app hol3 g3; have hs3 := st3.siz)
      | (at_builtin; refine wpList_app (f := Value.bool) (B := w.heap.size + 1) tB rfl _ _ rfl rfl (st3.alloc _).row rfl (lit2 w3 true true) (fun _ => rfl) (by omega) (by omega) (by simp; omega) ?_; intro w4 a4 c4 hol4 g4; have st4 := (st3.alloc _).app hol4 g4; obtain ⟨k0, _, _, _, _⟩ := bx5 st4.box)
      | (go_at_call 51; (with_reducible refine (refOf_any w4 z 18 hz2 (by omega)).mono ?_); rw [clamp_18]; rintro e w5 ⟨a5, c5, rfl, hol5, g5⟩; have st5 := st4.call g5; have hs5 := st5.siz)
      | (at_builtin; refine wpList_app (f := Value.bool) (B := w.heap.size + 1) (w := w5) tB rfl _ _ rfl rfl st5.row rfl hol5.rl (fun _ => rfl) (by omega) (by omega) (by omega) ?_; intro w6 a6 c6 hol6 g6; have st6 := st5.app hol6 g6; obtain ⟨_, _, k2, _, _⟩ := bx5 st6.box; have hs6 := st6.siz)
      | (at_builtin; refine wpList_app (f := Value.bool) (B := w.heap.size + 1) tB rfl _ _ rfl rfl (st6.alloc _).row rfl (lit3 w6 rem false false) (fun _ => rfl) (by omega) (by omega) (by simp; omega) ?_; intro w7 a7 c7 hol7 g7; have st7 := (st6.alloc _).app hol7 g7; obtain ⟨_, _, _, k3, _⟩ := bx5 st7.box; have hs7 := st7.siz)
      | (go_at_call 51; (with_reducible refine (refOf_any w7 dlc 4 (by omega) (by omega)).mono ?_); rw [clamp_4]; rintro e w8 ⟨a8, c8, rfl, hol8, g8⟩; have st8 := st7.call g8; have hs8 := st8.siz)
      | (at_builtin; refine wpList_app (f := Value.bool) (B := w.heap.size + 1) (w := w8) tB rfl _ _ rfl rfl st8.row rfl hol8.rl (fun _ => rfl) (by omega) (by omega) (by omega) ?_; intro w9 a9 c9 hol9 g9; have st9 := st8.app hol9 g9))
    go_ret
    exact ⟨_, _, rfl, st9.ol, st9.bel⟩
end Go.Proofs.Ytcgpdldccfpjgaa
