/-
  Contracts of the document's OfBytes and Bytes (layer 1).
-/
import Derived.Test.YthpgcgkgokfnpaaB1b
namespace Go.Proofs.Ythpgcgkgokfnpaa
open Go.RowKit
set_option linter.unusedVariables false

theorem ofL_take_succ (x m j : Nat) (h : j < m) : (ofL x m).take (j + 1) = (ofL x m).take j ++ [x.testBit (m - 1 - j)] := take_snoc (ofL_get x m j h)

theorem obL_take_chunk (l : List UInt8) (k : Nat) (x : UInt8) (h : l[k]? = some x) : (obL l).take (8 * (k + 1)) = (obL l).take (8 * k) ++ ofL x.toNat 8 := by
  rw [← obL_chunk l k x h, show 8 * (k + 1) = 8 * k + 8 from by omega, List.take_add]

theorem drop_chunk {α : Type} (l : List α) (m n : Nat) : (l.take (m + n)).drop m = (l.drop m).take n := by
  rw [List.drop_take, Nat.add_sub_cancel_left]

theorem chunk_len {l : List Bool} {i : Nat} (h : i < l.length / 8) : ((l.drop (8 * i)).take 8).length = 8 := by simp; omega

theorem u8_of_num (m : Nat) : (Value.int .u8 (((m % 4294967296 : Nat) : Int) % 256)) = bv (UInt8.ofNat m) := by
  unfold bv
  congr 1
  simp

theorem refBytes_any (w : World) (a : Option Addr) (n c : Nat) (l : List Bool) (h : RL .bool w a n c l) (hn : n ≤ 1000000) :
    Calls Try.prog 54 #[.slice a n c] w fun e w' => ∃ a' c', e = .returned (.slice a' (n / 8) c') ∧ OL bv 5 w.heap.size w' a' (n / 8) c' (byL l) ∧ Below w.heap.size w w' := by
  obtain ⟨m, hm⟩ : ∃ m, m = n / 8 := ⟨_, rfl⟩
  rw [← hm]
  have hmn : 8 * m ≤ n ∧ n < 8 * m + 8 := by omega
  have hml : Hid (m = l.length / 8) := by rw [h.len]; exact hm
  clear hm
  go_enter Try.func54, Try.ntmps54
  go_wp2
  go_loopw [3, 4] (fun v i wr => ∃ (k : Nat) (a' : Option Addr) (c' : Nat), k ≤ m ∧ i = .int .i64 (8 * (k : Int)) ∧ v = .slice a' k c' ∧ OL bv 5 w.heap.size wr a' k c' ((byL l).take k) ∧ Below w.heap.size w wr) (fun _ i _ => n - (intOf i).toNat)
  case atStart => exact ⟨0, none, 0, Nat.zero_le _, rfl, rfl, OL.nil _ _ _ _, Below.refl _ _⟩
  case round =>
    obtain ⟨k, a', c', hk, rfl, rfl, hol, hb⟩ := hrel
    by_cases hlt : k < m
    · have hrr := h.below hb
      have hs := hb.size
      obtain ⟨y, hy⟩ : ∃ y, y = UInt8.ofNat (numL ((l.drop (8 * k)).take 8)) := ⟨_, rfl⟩
      have HY := hid hy; clear hy
      have hyv : Hid (Value.int .u8 (((numL ((l.take (8 * k + 8)).drop (8 * k)) % 4294967296 : Nat) : Int) % 256) = bv y) := by
        rw [u8_of_num, drop_chunk, HY.out]; exact rfl
      obtain ⟨z, hz⟩ : ∃ z, z = numL ((l.take (8 * k + 8)).drop (8 * k)) % 4294967296 := ⟨_, rfl⟩
      rw [← hz] at hyv
      have hzz : z < 4294967296 := by rw [hz]; exact Nat.mod_lt _ (by decide)
      have HZ := hid hz; clear hz
      go_wp2_with (first
        | (with_reducible refine wpList_cut (f := Value.bool) tB rfl _ _ _ rfl _ _ _ _ (8 * k) (8 * k + 8) rfl rfl rfl (by omega) (by omega) hrr (by omega) (by omega) 8 (by omega) ?_; intro a2 c2 hr2)
        | (go_at_call 67; refine (refNumber_any wr _ _ _ _ hr2 (by omega)).mono ?_; rw [← HZ.out]; rintro e w2 ⟨rfl, rfl⟩)
        | (at_builtin; refine wpList_app (f := bv) tY rfl _ _ rfl rfl (hol.alloc _) rfl (ol_lit bv _ w.heap.size wr [y] _ 1 (by rw [hyv.out]; rfl) rfl (by omega) hs).rl (fun _ => rfl) (by omega) (by omega) (by simp; omega) ?_; intro w2 a3 c3 hol3 hb3))
      go_roundw
      case rel => exact ⟨k + 1, a3, c3, by omega, by go_num, rfl, by rw [take_snoc (byL_get l k (by rw [← hml.out]; exact hlt)), ← HY.out]; exact hol3, (hb.alloc hs _).trans hb3⟩
      case measure => simp [intOf]; omega
    · obtain rfl : k = m := by omega
      go_wp2
      go_ret
      exact ⟨a', c', rfl, by rw [List.take_of_length_le (by rw [byL_length, ← hml.out]; omega)] at hol; exact hol, hb⟩
end Go.Proofs.Ythpgcgkgokfnpaa
