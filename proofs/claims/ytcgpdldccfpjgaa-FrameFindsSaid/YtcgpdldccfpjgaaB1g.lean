/-
  Contracts of the document's OfBytes and Bytes (layer 1).
-/
import Derived.Test.YtcgpdldccfpjgaaB1b
namespace Go.Proofs.Ytcgpdldccfpjgaa
open Go.RowKit
set_option linter.unusedVariables false

theorem ofL_take_succ (x m j : Nat) (h : j < m) : (ofL x m).take (j + 1) = (ofL x m).take j ++ [x.testBit (m - 1 - j)] := take_snoc (ofL_get x m j h)

theorem obL_take_chunk (l : List UInt8) (k : Nat) (x : UInt8) (h : l[k]? = some x) : (obL l).take (8 * (k + 1)) = (obL l).take (8 * k) ++ ofL x.toNat 8 := by
  rw [← obL_chunk l k x h, show 8 * (k + 1) = 8 * k + 8 from by omega, List.take_add]

theorem refOfBytes_any (w : World) (a : Option Addr) (n c : Nat) (l : List UInt8) (h : RL bv w a n c l) (hn : n ≤ 100000) :
    Calls Try.prog 38 #[.slice a n c] w fun e w' => ∃ a' c', e = .returned (.slice a' (8 * n) c') ∧ OL .bool 4 w.heap.size w' a' (8 * n) c' (obL l) ∧ Below w.heap.size w w' := by
  go_enter Try.func38, Try.ntmps38
  go_wp2
  go_loopw [3, 4] (fun v i wr => ∃ (k a' c' : _), k ≤ n ∧ i = .int .i64 (k : Nat) ∧ v = .slice a' (8 * k) c' ∧ OL .bool 4 w.heap.size wr a' (8 * k) c' ((obL l).take (8 * k)) ∧ Below w.heap.size w wr) (fun _ i _ => n - (intOf i).toNat)
  case atStart => exact ⟨0, none, 0, Nat.zero_le _, rfl, rfl, OL.nil _ _ _ _, Below.refl _ _⟩
  case round =>
    obtain ⟨k, a', c', hk, rfl, rfl, hol, hb⟩ := hrel
    by_cases hlt : k < n
    · have hrr := h.below hb
      obtain ⟨b, off, x, rfl, hx, hck⟩ := hrr.at hlt
      have hx8 := x.toNat_lt
      change wr.cell? ⟨b, off + k, none⟩ = some (.int .u8 (x.toNat : Int)) at hck
      have HX := hid hx
      clear hrr hx
      go_wp2
      obtain ⟨wo, rfl⟩ : ∃ wo : World, wo = wr := ⟨_, rfl⟩
      go_loopw [3, 6] (fun v i wr => ∃ (j W : Nat) (a' : Option Addr) (c' : Nat), j ≤ 8 ∧ i = .int .i64 (W : Int) ∧ W = 128 / 2 ^ j ∧ v = .slice a' (8 * k + j) c' ∧ OL .bool 4 w.heap.size wr a' (8 * k + j) c' ((obL l).take (8 * k) ++ (ofL x.toNat 8).take j) ∧ Below w.heap.size w wr) (fun _ i _ => (intOf i).toNat)
      case atStart => exact ⟨0, 128, a', c', by omega, rfl, rfl, rfl, by simpa using hol, hb⟩
      case round =>
        obtain ⟨j, W, a2, c2, hj, rfl, hW, rfl, hol2, hb2⟩ := hrel
        by_cases hj8 : j < 8
        · have hW2 : W = 2 ^ (7 - j) := by
            rw [hW, show (128 : Nat) = 2 ^ 7 from rfl, Nat.pow_div (by omega) (by omega)]
          have hWp : 1 ≤ W := by rw [hW2]; exact Nat.one_le_two_pow
          have hWm : W ≤ 128 := by rw [hW]; exact Nat.div_le_self _ _
          have HW := hid hW; have HW2 := hid hW2
          clear hW hW2
          obtain ⟨q, hq⟩ : ∃ q, q = x.toNat / W := ⟨_, rfl⟩
          have hqi : (x.toNat : Int) / (W : Int) = (q : Int) := by rw [hq]; norm_cast
          have hqm : q ≤ 255 := by rw [hq]; have := Nat.div_le_self x.toNat W; omega
          obtain ⟨bt, hbt⟩ : ∃ bt, bt = ((q : Int) % 2 == 1) := ⟨_, rfl⟩
          have HB : Hid (bt = x.toNat.testBit (7 - j)) := by
            rw [hbt, hq, HW2.out, Nat.testBit_eq_decide_div_mod_eq]
            show (_ == _) = _
            rw [Bool.eq_iff_iff]; simp; norm_cast
          have hbt' := hbt.symm
          clear hbt hq
          have hs := hb2.size
          go_wp2_with (at_builtin; refine wpList_app (f := Value.bool) tB rfl _ _ rfl rfl (hol2.alloc _) rfl (ol_lit Value.bool _ w.heap.size wr [bt] _ 1 rfl rfl (by omega) hs).rl (fun _ => rfl) (by omega) (by omega) (by simp; omega) ?_; intro w2 a3 c3 hol3 hb3)
          go_roundw
          case rel => exact ⟨j + 1, W / 2, a3, c3, by omega, by go_num, by rw [HW.out, Nat.div_div_eq_div_mul, ← Nat.pow_succ], rfl, by rw [ofL_take_succ _ _ _ hj8, ← List.append_assoc, show 8 - 1 - j = 7 - j from by omega, ← HB.out]; exact hol3, (hb2.alloc hs _).trans hb3⟩
          case measure => first | (simp [intOf]; done) | (simp [intOf]; omega)
        · obtain rfl : j = 8 := by omega
          have hW0 : W = 0 := hW
          subst hW0
          clear hW
          go_wp2
          go_roundw
          case rel => exact ⟨k + 1, a2, c2, by omega, by go_num, rfl, by rw [obL_take_chunk l k x HX.out]; rw [show (ofL x.toNat 8).take 8 = ofL x.toNat 8 from List.take_of_length_le (by simp)] at hol2; exact hol2, hb2⟩
          case measure => simp [intOf]; omega
    · obtain rfl : k = n := by omega
      go_wp2
      go_ret
      exact ⟨a', c', rfl, by rw [List.take_of_length_le (by rw [obL_length, h.len]; omega)] at hol; exact hol, hb⟩

theorem drop_chunk {α : Type} (l : List α) (m n : Nat) : (l.take (m + n)).drop m = (l.drop m).take n := by
  rw [List.drop_take, Nat.add_sub_cancel_left]

theorem chunk_len {l : List Bool} {i : Nat} (h : i < l.length / 8) : ((l.drop (8 * i)).take 8).length = 8 := by simp; omega

theorem u8_of_num (m : Nat) : (Value.int .u8 (((m % 4294967296 : Nat) : Int) % 256)) = bv (UInt8.ofNat m) := by
  unfold bv
  congr 1
  simp

theorem refBytes_any (w : World) (a : Option Addr) (n c : Nat) (l : List Bool) (h : RL .bool w a n c l) (hn : n ≤ 1000000) :
    Calls Try.prog 47 #[.slice a n c] w fun e w' => ∃ a' c', e = .returned (.slice a' (n / 8) c') ∧ OL bv 5 w.heap.size w' a' (n / 8) c' (byL l) ∧ Below w.heap.size w w' := by
  obtain ⟨m, hm⟩ : ∃ m, m = n / 8 := ⟨_, rfl⟩
  rw [← hm]
  have hmn : 8 * m ≤ n ∧ n < 8 * m + 8 := by omega
  have hml : Hid (m = l.length / 8) := by rw [h.len]; exact hm
  clear hm
  go_enter Try.func47, Try.ntmps47
  go_wp2
  go_loopw [3, 4] (fun v i wr => ∃ (k : Nat) (a' : Option Addr) (c' : Nat), k ≤ m ∧ i = .int .i64 (8 * (k : Int)) ∧ v = .slice a' k c' ∧ OL bv 5 w.heap.size wr a' k c' ((byL l).take k) ∧ Below w.heap.size w wr) (fun _ i _ => n - (intOf i).toNat)
  case atStart => exact ⟨0, none, 0, Nat.zero_le _, rfl, rfl, OL.nil _ _ _ _, Below.refl _ _⟩
  case round =>
    obtain ⟨k, a', c', hk, rfl, rfl, hol, hb⟩ := hrel
    by_cases hlt : k < m
    · have hrr := h.below hb
      have hs := hb.size
      obtain ⟨y, hy⟩ : ∃ y, y = UInt8.ofNat (numL ((l.drop (8 * k)).take 8)) := ⟨_, rfl⟩
      have HY := hid hy; clear hy
      have hyv : Hid (Value.int .u8 (((numL ((l.take (8 * k + 8)).drop (8 * k)) % 4294967296 : Nat) : Int) % 256) = bv y) := by
        rw [u8_of_num, drop_chunk, HY.out]; exact rfl
      obtain ⟨z, hz⟩ : ∃ z, z = numL ((l.take (8 * k + 8)).drop (8 * k)) % 4294967296 := ⟨_, rfl⟩
      rw [← hz] at hyv
      have hzz : z < 4294967296 := by rw [hz]; exact Nat.mod_lt _ (by decide)
      have HZ := hid hz; clear hz
      go_wp2_with (first
        | (with_reducible refine wpList_cut (f := Value.bool) tB rfl _ _ _ rfl _ _ _ _ (8 * k) (8 * k + 8) rfl rfl rfl (by omega) (by omega) hrr (by omega) (by omega) 8 (by omega) ?_; intro a2 c2 hr2)
        | (go_at_call 56; refine (refNumber_any wr _ _ _ _ hr2 (by omega)).mono ?_; rw [← HZ.out]; rintro e w2 ⟨rfl, rfl⟩)
        | (at_builtin; refine wpList_app (f := bv) tY rfl _ _ rfl rfl (hol.alloc _) rfl (ol_lit bv _ w.heap.size wr [y] _ 1 (by rw [hyv.out]; rfl) rfl (by omega) hs).rl (fun _ => rfl) (by omega) (by omega) (by simp; omega) ?_; intro w2 a3 c3 hol3 hb3))
      go_roundw
      case rel => exact ⟨k + 1, a3, c3, by omega, by go_num, rfl, by rw [take_snoc (byL_get l k (by rw [← hml.out]; exact hlt)), ← HY.out]; exact hol3, (hb.alloc hs _).trans hb3⟩
      case measure => simp [intOf]; omega
    · obtain rfl : k = m := by omega
      go_wp2
      go_ret
      exact ⟨a', c', rfl, by rw [List.take_of_length_le (by rw [byL_length, ← hml.out]; omega)] at hol; exact hol, hb⟩
end Go.Proofs.Ytcgpdldccfpjgaa
