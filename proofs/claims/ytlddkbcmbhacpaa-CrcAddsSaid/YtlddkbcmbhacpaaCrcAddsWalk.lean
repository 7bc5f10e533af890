/-
  The walk of the statement CrcAdds: for any two lists of bits it returns true, and nothing that was there has changed.
-/
import Derived.Test.YtlddkbcmbhacpaaB3e
import Derived.Lib.QuietBelow
import Derived.BigGuard
import Derived.Deep.Light
import Derived.Laws.Cover1
namespace Go.Proofs.Ytlddkbcmbhacpaa
open Go.RowKit Go.Sort
set_option linter.unusedVariables false

theorem crcAdds_walk (w : World) (a : Option Addr) (n c : Nat) (la : List Bool) (a2 : Option Addr) (n2 c2 : Nat) (lb : List Bool) (h : RL .bool w a n c la) (h2 : RL .bool w a2 n2 c2 lb) (m1 : n ≤ 9223372036854775807) (m2 : n2 ≤ 9223372036854775807) :
    Calls Try.prog 5 #[.slice a n c, .slice a2 n2 c2] w fun e w' => e = .returned (.bool true) ∧ Below w.heap.size w w' := by
  obtain ⟨N, hN⟩ : ∃ N, N = min (min n n2) 300 := ⟨_, rfl⟩
  have hN3 : N ≤ n ∧ N ≤ n2 ∧ N ≤ 300 := by omega
  have hmin : ∀ (ts : Array TypeId) (t : TypeId) (w' : World), (Builtin.min_ ts t #[.int .i64 (n : Int), .int .i64 (n2 : Int), .int .i64 300]).run Try.prog w' = .ok (.int .i64 (N : Int)) w' := fun ts t w' => by
    rw [run_min_int3]; congr 2; split <;> split at * <;> omega
  obtain ⟨xo, hxo⟩ : ∃ xo, xo = xoL (la.take N) (lb.take N) := ⟨_, rfl⟩
  have hxl : xo.length = N := by rw [hxo]; unfold xoL; rw [List.length_zipWith, List.length_take, List.length_take, h.len, h2.len]; omega
  have hsum : Hid (suV xo = suV (la.take N) ^^^ suV (lb.take N)) := by
    show _ = _
    rw [hxo]; exact suV_xor _ _ (by rw [List.length_take, List.length_take, h.len, h2.len]; omega)
  have hget : Hid (∀ k x y, k < N → la[k]? = some x → lb[k]? = some y → xo[k]? = some (x != y)) := fun k x y hk hx hy => by
    rw [hxo]; unfold xoL; rw [List.getElem?_zipWith, List.getElem?_take, if_pos hk, List.getElem?_take, if_pos hk, hx, hy]
  clear hxo hN
  go_enter Try.func5, Try.ntmps5
  go_wp2_with (at_make; refine wpList_mk (f := Value.bool) (n := N) tB false rfl rfl _ _ rfl _ _ _ _ rfl rfl rfl rfl (by omega) (by omega) ?_; intro w1 hown hb1 hs1; obtain ⟨cur, _, hg, hcs, _, _⟩ := hown.full)
  clear hmin
  go_loopg [17] N (fun gn i wr => ∃ k : Nat, k ≤ N ∧ gn = N - k ∧ i = .int .i64 k ∧ (∃ cur', wr.heap[w.heap.size]? = some (.cells cur' 4 (0, 0)) ∧ cur'.size = N ∧ ∀ j, j < k → cur'[j]? = (xo[j]?).map Value.bool) ∧ Below w.heap.size w wr)
  case atStart => exact ⟨0, Nat.zero_le _, rfl, rfl, ⟨cur, hg, hcs, fun j hj => by omega⟩, hb1⟩
  case round =>
    clear hg hcs hb1 hown hs1
    obtain ⟨k, hk, rfl, rfl, ⟨cur', hg', hs', hin⟩, hb⟩ := hrel
    by_cases hlt : k < N
    · obtain ⟨b1, off1, x, rfl, hx, hck⟩ := (h.below hb).at (k := k) (by omega)
      obtain ⟨b2, off2, y, rfl, hy, hck2⟩ := (h2.below hb).at (k := k) (by omega)
      have HXO := hid (hget.out k x y hlt hx hy)
      have HG := hid hg'
      have hc : wr.cell? ⟨w.heap.size, k, none⟩ = some cur'[k] := by
        rw [cell_of_row wr _ k cur' _ _ hg']; simp [show k < cur'.size by omega]
      obtain ⟨v0, hv0⟩ : ∃ v0, v0 = cur'[k] := ⟨_, rfl⟩
      rw [← hv0] at hc
      clear hv0
      have hf : wr.frozen? ⟨w.heap.size, k, none⟩ = false := frozen_of_row wr _ k cur' _ hg'
      have HIN := hid hin
      have i1 : (k : Int) < (n : Int) := by omega
      have i2 : (k : Int) < (n2 : Int) := by omega
      clear hx hy hg' hin
      go_wp2_with fail
      go_big_region
      go_wp2
      go_roundg (N - (k + 1))
      case measure => go_light; omega
      case rel =>
        go_light
        refine ⟨k + 1, by omega, rfl, by go_num, ⟨_, heap_setCell_same wr _ k cur' _ _ HG.out, by simpa using hs', fun j hj => ?_⟩, (hb.setCell (Nat.le_refl _) _).drew⟩
        rw [Array.getElem?_setIfInBounds]
        split
        · rename_i e; subst e; rw [if_pos (by omega), HXO.out]; rfl
        · exact HIN.out j (by omega)
    · obtain rfl : k = N := by omega
      have hol : OL Value.bool 4 w.heap.size wr (some ⟨w.heap.size, 0, none⟩) k k xo := ol_of_cells hg' (Nat.le_refl _) hs' (by omega) hxl (fun j x hx => by rw [hin j (by rw [← hxl]; exact (List.getElem?_eq_some_iff.1 hx).1), hx]; rfl)
      obtain ⟨a5, q1, q2, hr5⟩ := run_cutTo tB (h.below hb) .i64 k hN3.1
      obtain ⟨a6, q3, q4, hr6⟩ := run_cutTo tB (h2.below hb) .i64 k hN3.2.1
      have HB := hid hb
      obtain ⟨S1, hS1⟩ : ∃ S1, S1 = (suV (la.take k)).toNat := ⟨_, rfl⟩
      obtain ⟨S2, hS2⟩ : ∃ S2, S2 = (suV (lb.take k)).toNat := ⟨_, rfl⟩
      obtain ⟨S0, hS0⟩ : ∃ S0, S0 = (suV xo).toNat := ⟨_, rfl⟩
      have hxor : bits .xor .u16 (S1 : Int) (S2 : Int) = (S0 : Int) := by
        have b1 := (suV (la.take k)).isLt
        have b2 := (suV (lb.take k)).isLt
        rw [hS1, hS2, hS0, u16_xor_nat _ _ (by omega) (by omega), hsum.out, BitVec.toNat_xor]
      have hc0 : ∀ d os, Calls Try.prog 8 #[.slice (some ⟨w.heap.size, 0, none⟩) k k] (grow (redrawn wr d) os) fun e w'' => e = .returned (.int .u16 (S0 : Int)) ∧ ∃ p : Regrown, w'' = grow (redrawn wr p.d) p.os := fun d os => by
        rw [hS0]; exact Calls.regrown_of (sum_any _ _ k k xo (hol.rl.below (below_regrown _ _ _)) (by omega))
      have hc1 : ∀ d os, Calls Try.prog 8 #[.slice a5 k c] (grow (redrawn wr d) os) fun e w'' => e = .returned (.int .u16 (S1 : Int)) ∧ ∃ p : Regrown, w'' = grow (redrawn wr p.d) p.os := fun d os => by
        rw [hS1]; exact Calls.regrown_of (sum_any _ a5 k c _ (hr5.below (below_regrown _ _ _)) (by omega))
      have hc2 : ∀ d os, Calls Try.prog 8 #[.slice a6 k c2] (grow (redrawn wr d) os) fun e w'' => e = .returned (.int .u16 (S2 : Int)) ∧ ∃ p : Regrown, w'' = grow (redrawn wr p.d) p.os := fun d os => by
        rw [hS2]; exact Calls.regrown_of (sum_any _ a6 k c2 _ (hr6.below (below_regrown _ _ _)) (by omega))
      have haw : ∀ d os, Calls Try.prog 7 #[] (grow (redrawn wr d) os) fun e w'' => e = .returned (.bool true) ∧ ∃ p : Regrown, w'' = grow (redrawn wr p.d) p.os := fun d os => Calls.regrown_of (awake3_any _)
      clear hol hg' hs' hin hr5 hr6 hS0 hS1 hS2 hb
      go_wp2_with fail
      refine wp_region_quiet_below (by kernel_rfl) (by kernel_rfl) ?_
      repeat (go_big_quiet_step (first
        | (go_at_call 8; with_reducible exact hc0 _ _)
        | (go_at_call 8; with_reducible exact hc1 _ _)
        | (go_at_call 8; with_reducible exact hc2 _ _)
        | (go_at_call 7; exact haw _ _)))
      refine wpQuiet_nil ?_
      intro w9 hw9
      have gg : Below wr.heap.size wr w9 := by obtain ⟨p9, rfl⟩ := hw9; exact below_regrown _ _ _
      clear hw9
      go_wp2
      go_ret
      exact ⟨rfl, bstep HB.out gg⟩
end Go.Proofs.Ytlddkbcmbhacpaa
