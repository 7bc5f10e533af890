/-
  Contracts of bits.Of and bits.OfBytes (layer 1): each returns what a plain function on lists says.
-/
import Derived.Test.YthpgcgkgokfnpaaLow
namespace Go.Proofs.Ythpgcgkgokfnpaa
open Go.RowKit
set_option linter.unusedVariables false

theorem tY : ElT Try.prog 24 5 (.int .u8 0) 1 := ⟨by kernel_rfl, by kernel_rfl, by kernel_rfl, by kernel_rfl, by kernel_rfl⟩

theorem fill_any (w : World) (g off n c x : Nat) (a : Option Addr) (cur : Array Value) (hx : x < 4294967296) (ha : 0 < n → a = some ⟨g, off, none⟩) (hg : w.heap[g]? = some (.cells cur 4 (0, 0))) (hfit : off + n ≤ cur.size) (hn : n ≤ 1000000) :
    Calls Try.prog 57 #[.slice a n c, .int .u32 (x : Int)] w fun e w' => e = .returned (.tuple #[]) ∧ (∃ cur', w'.heap[g]? = some (.cells cur' 4 (0, 0)) ∧ cur'.size = cur.size ∧
      (∀ j, off ≤ j → j < off + n → cur'[j]? = some (.bool (x.testBit (n - 1 - (j - off))))) ∧ ∀ j, (j < off ∨ off + n ≤ j) → cur'[j]? = cur[j]?) ∧ w.grownBy w' (some g) := by
  go_enter Try.func57, Try.ntmps57
  go_wp2
  go_loopw [11] (fun i wr => ∃ k : Nat, k ≤ n ∧ i = .int .i64 k ∧ (∃ cur', wr.heap[g]? = some (.cells cur' 4 (0, 0)) ∧ cur'.size = cur.size ∧
      (∀ j, off ≤ j → j < off + k → cur'[j]? = some (.bool (x.testBit (n - 1 - (j - off))))) ∧ ∀ j, (j < off ∨ off + k ≤ j) → cur'[j]? = cur[j]?) ∧ w.grownBy wr (some g)) (fun i _ => n - (intOf i).toNat)
  case atStart => exact ⟨0, Nat.zero_le _, rfl, ⟨cur, hg, rfl, fun j h1 h2 => by omega, fun j _ => rfl⟩, World.grownBy.refl _ _⟩
  case round =>
    obtain ⟨k, hk, rfl, ⟨cur', hg', hs', hin, hout⟩, hgr⟩ := hrel
    have HIN := hid hin; clear hin
    have HOUT := hid hout; clear hout
    have HG := hid hg'
    by_cases hlt : k < n
    · obtain rfl := ha (by omega)
      have hc : wr.cell? ⟨g, off + k, none⟩ = some cur'[off + k] := by
        rw [cell_of_row wr g (off + k) cur' _ _ hg']; simp [show off + k < cur'.size by omega]
      obtain ⟨v0, hv0⟩ : ∃ v0, v0 = cur'[off + k] := ⟨_, rfl⟩
      rw [← hv0] at hc
      clear hv0
      have hf : wr.frozen? ⟨g, off + k, none⟩ = false := frozen_of_row wr g (off + k) cur' _ hg'
      obtain ⟨y, hy⟩ : ∃ y : Nat, y = x / 2 ^ (n - 1 - k) := ⟨_, rfl⟩
      have hy1 : y < 4294967296 := by rw [hy]; exact Nat.lt_of_le_of_lt (Nat.div_le_self _ _) hx
      have hsh : Op.shift .shr .u32 (x : Int) .i64 ((n : Int) - 1 - (k : Int)) = pure (.int .u32 (y : Int)) := by
        rw [shift_shr_any _ _ _ _ (by omega), show ((n : Int) - 1 - (k : Int)).toNat = n - 1 - k from by omega, hy]
        congr 2
        by_cases hs : n - 1 - k ≤ 32
        · rw [show min (n - 1 - k) IntKind.u32.bits = n - 1 - k from Nat.min_eq_left hs]; norm_cast
        · have h2 : x / 2 ^ (n - 1 - k) = 0 := Nat.div_eq_of_lt (Nat.lt_of_lt_of_le hx (Nat.pow_le_pow_right (n := 2) (i := 32) (by decide) (by omega)))
          rw [show min (n - 1 - k) IntKind.u32.bits = 32 from Nat.min_eq_right (show 32 ≤ n - 1 - k by omega), h2]
          show (x : Int) / 2 ^ 32 = 0
          omega
      obtain ⟨bt, hbt⟩ : ∃ bt, bt = x.testBit (n - 1 - k) := ⟨_, rfl⟩
      have hb1 : (bits .and .u32 (y : Int) 1 == 1) = bt := by
        rw [show ((1 : Int)) = ((1 : Nat) : Int) from rfl, (u32_bits y 1 hy1 (by omega)).1, hbt, hy, Nat.testBit_eq_decide_div_mod_eq, Nat.and_one_is_mod, Bool.eq_iff_iff]
        simp
        norm_cast
      have HB := hid hbt; clear hbt
      clear hg' hy
      go_wp2
      go_roundw
      case rel =>
        have hset := heap_setCell_same wr g (off + k) cur' _ (.bool bt) HG.out
        refine ⟨k + 1, by omega, by go_num, ⟨_, hset, by simpa using hs', fun j h1 h2 => ?_, fun j h1 => ?_⟩, ?_⟩
        · rw [Array.getElem?_setIfInBounds]
          split
          · rename_i e; subst e; rw [if_pos (by omega), HB.out]; congr 4; omega
          · exact HIN.out j h1 (by omega)
        · rw [Array.getElem?_setIfInBounds, if_neg (by omega)]
          exact HOUT.out j (by omega)
        · exact ⟨hgr.os, hgr.tape, hgr.output, by simpa using hgr.size, fun q h1 h2 => (Below.heap_setCell _ _ _ _ (by simpa using h2)).trans (hgr.block q h1 h2)⟩
      case measure => simp [intOf]; omega
    · obtain rfl : k = n := by omega
      clear hg'
      go_wp2
      go_end0
      exact ⟨rfl, ⟨cur', HG.out, hs', HIN.out, HOUT.out⟩, hgr⟩

/-- How many bits Of gives. -/
def clampM (many : Int) : Nat := (min (max many 0) 64).toNat

theorem of_any (w : World) (x : Nat) (many : Int) (hx : x < 4294967296) (hm : -9223372036854775808 ≤ many ∧ many ≤ 9223372036854775807) :
    Calls Try.prog 56 #[.int .u32 (x : Int), .int .i64 many] w fun e w' => ∃ a c, e = .returned (.slice a (clampM many) c) ∧ OL .bool 4 w.heap.size w' a (clampM many) c (ofL x (clampM many)) ∧ Below w.heap.size w w' := by
  obtain ⟨m, hm0⟩ : ∃ m, m = clampM many := ⟨_, rfl⟩
  have hm64 : m ≤ 64 := by rw [hm0]; unfold clampM; omega
  have hcase : (many < 0 ∧ m = 0) ∨ (many > 64 ∧ m = 64) ∨ many = (m : Int) := by rw [hm0]; unfold clampM; omega
  rw [← hm0]
  clear hm0
  rcases hcase with ⟨h1, h2⟩ | ⟨h1, h2⟩ | h2
  all_goals
    have H2 := hid h2
    first | (have h3 : 0 ≤ many ∧ many ≤ 64 := by omega) | skip
    clear h2
    go_enter Try.func56, Try.ntmps56
    go_wp2_with (first
      | (at_make; refine wpList_mk (f := Value.bool) (n := m) tB false rfl rfl _ _ rfl _ _ _ _ rfl rfl (by have := H2.out; omega) (by have := H2.out; omega) (by omega) (by omega) ?_; intro w1 hown hb1 hs1; obtain ⟨cur, _, hg, hcs, _, _⟩ := hown.full)
      | (go_at_call 57; refine (fill_any w1 w.heap.size 0 _ _ x _ cur hx (fun _ => rfl) hg (by omega) (by omega)).mono ?_; rintro e w2 ⟨rfl, ⟨cur', hg', hs', hin, _⟩, hgr⟩))
    go_ret
    refine ⟨_, _, rfl, ol_of_cells hg' (Nat.le_refl _) (hs'.trans hcs) (by omega) (by simp) (fun j b hb => ?_), hb1.trans ((Below.refl _ _).grown hgr (by omega) (fun q hq => by simp at hq; omega))⟩
    have hj : j < (ofL x _).length := (List.getElem?_eq_some_iff.1 hb).1
    rw [ofL_length] at hj
    rw [ofL_get _ _ _ hj] at hb
    simp only [Option.some.injEq] at hb
    subst hb
    rw [hin j (by omega) (by omega)]
    simp

theorem ofBytes_any (w : World) (a : Option Addr) (n c : Nat) (l : List UInt8) (h : RL bv w a n c l) (hn : n ≤ 100000) :
    Calls Try.prog 33 #[.slice a n c] w fun e w' => ∃ a' c', e = .returned (.slice a' (8 * n) c') ∧ OL .bool 4 w.heap.size w' a' (8 * n) c' (obL l) ∧ Below w.heap.size w w' := by
  go_enter Try.func33, Try.ntmps33
  go_wp2_with (at_make; refine wpList_mk (f := Value.bool) (n := 8 * n) tB false rfl rfl _ _ rfl _ _ _ _ rfl rfl (by omega) (by omega) (by omega) (by omega) ?_; intro w1 hown hb1 hs1; obtain ⟨cur, _, hg, hcs, _, _⟩ := hown.full)
  go_loopw [12] (fun i wr => ∃ k : Nat, k ≤ n ∧ i = .int .i64 k ∧ (∃ cur', wr.heap[w.heap.size]? = some (.cells cur' 4 (0, 0)) ∧ cur'.size = 8 * n ∧ ∀ j, j < 8 * k → cur'[j]? = ((obL l)[j]?).map Value.bool) ∧ w1.grownBy wr (some w.heap.size)) (fun i _ => n - (intOf i).toNat)
  case atStart => exact ⟨0, Nat.zero_le _, rfl, ⟨cur, hg, hcs, fun j hj => by omega⟩, World.grownBy.refl _ _⟩
  case round =>
    obtain ⟨k, hk, rfl, ⟨cur', hg', hs', hin⟩, hgr⟩ := hrel
    by_cases hlt : k < n
    · have HIN := hid hin; clear hin
      have HG := hid hg'; clear hg'
      have hrr := h.below (hb1.trans ((Below.refl w.heap.size w1).grown hgr (by omega) (fun q hq => by simp at hq; omega)))
      obtain ⟨b, off, x, rfl, hx, hck⟩ := hrr.at hlt
      have hx8 := x.toNat_lt
      change wr.cell? ⟨b, off + k, none⟩ = some (.int .u8 (x.toNat : Int)) at hck
      clear hrr
      have HX := hid hx; clear hx
      go_wp2_with (go_at_call 57; refine (fill_any wr w.heap.size (k * 8) _ _ x.toNat _ cur' (by omega) (fun _ => rfl) HG.out (by omega) (by omega)).mono ?_; rintro e w2 ⟨rfl, hpost, hgr2⟩; have HP := hid hpost; clear hpost)
      go_roundw
      case rel =>
        obtain ⟨cur2, hg2, hs2, hin2, hout2⟩ := HP.out
        refine ⟨k + 1, by omega, by go_num, ⟨cur2, hg2, hs2.trans hs', fun j hj => ?_⟩, ⟨hgr2.os.trans hgr.os, hgr2.tape.trans hgr.tape, hgr2.output.trans hgr.output, Nat.le_trans hgr.size hgr2.size, fun q h1 h2 => (hgr2.block q (Nat.lt_of_lt_of_le h1 hgr.size) h2).trans (hgr.block q h1 h2)⟩⟩
        by_cases hj8 : j < 8 * k
        · rw [hout2 j (by omega)]; exact HIN.out j hj8
        · have hch := obL_chunk l k x HX.out
          have e1 : (obL l)[j]? = (ofL x.toNat 8)[j - 8 * k]? := by
            rw [← hch, List.getElem?_take, if_pos (by omega), List.getElem?_drop]; congr 1; omega
          rw [hin2 j (by omega) (by omega), e1, ofL_get _ _ _ (by omega)]
          simp only [Option.map_some]
          congr 3
          omega
      case measure => simp [intOf]; omega
    · obtain rfl : k = n := by omega
      have HIN := hid hin; clear hin
      have HG := hid hg'; clear hg'
      go_wp2
      go_ret
      refine ⟨_, _, rfl, ol_of_cells HG.out (Nat.le_refl _) hs' (by omega) (by rw [obL_length, h.len]) (fun j b hb => ?_), hb1.trans ((Below.refl _ _).grown hgr (by omega) (fun q hq => by simp at hq; omega))⟩
      have hj : j < (obL l).length := (List.getElem?_eq_some_iff.1 hb).1
      rw [obL_length, h.len] at hj
      rw [HIN.out j hj, hb]; rfl
end Go.Proofs.Ythpgcgkgokfnpaa
