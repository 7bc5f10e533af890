/-
  Contracts of the functions of layer 1 and of what the statements do with bits: each returns what a plain function on lists says.
-/
import Derived.Test.YtemiclgafajblaaBase
import Derived.Test.YtemiclgafajblaaM1
namespace Go.Proofs.Ytemiclgafajblaa
open Go.RowKit
set_option linter.unusedVariables false

theorem tB : ElT Try.prog 24 4 (.bool false) 1 := ⟨by kernel_rfl, by kernel_rfl, by kernel_rfl, by kernel_rfl, by kernel_rfl⟩
theorem tY : ElT Try.prog 23 5 (.int .u8 0) 1 := ⟨by kernel_rfl, by kernel_rfl, by kernel_rfl, by kernel_rfl, by kernel_rfl⟩

theorem all_snoc {l : List Bool} {k : Nat} {x : Bool} (h : l[k]? = some x) : (l.take (k + 1)).all id = ((l.take k).all id && x) := by
  rw [take_snoc h]; simp

theorem all_false {l : List Bool} {k : Nat} (h : l[k]? = some false) : l.all id = false := by
  rw [Bool.eq_false_iff]
  intro hh
  rw [List.all_eq_true] at hh
  exact absurd (hh false (List.mem_of_getElem? h)) (by simp)

theorem bus_any (w : World) (a : Option Addr) (n c : Nat) (l : List Bool) (h : RL .bool w a n c l) (hn : n ≤ 1000000) :
    Calls Try.prog 19 #[.slice a n c] w fun e w' => e = .returned (.bool (l.all id)) ∧ w = w' := by
  go_enter Try.func19, Try.ntmps19
  go_wp2
  go_loop [6] (fun i => ∃ k : Nat, k ≤ n ∧ i = .int .i64 k ∧ (l.take k).all id = true) (fun i => n - (intOf i).toNat)
  case atStart => exact ⟨0, Nat.zero_le _, rfl, rfl⟩
  case round =>
    obtain ⟨k, hk, rfl, hall⟩ := hrel
    by_cases hlt : k < n
    · obtain ⟨b, off, x, rfl, hx, hck⟩ := h.at hlt
      have HX := hid hx; clear hx
      have HA := hid hall; clear hall
      cases x
      · go_wp2
        go_ret
        exact ⟨ret_bool (all_false HX.out).symm, rfl⟩
      · go_wp2
        go_round
        case rel => exact ⟨k + 1, by omega, by go_num, by rw [all_snoc HX.out, HA.out]; rfl⟩
        case measure => simp [intOf]; omega
    · have HA := hid hall; clear hall
      have hkn : Hid (l.take k = l) := List.take_of_length_le (by rw [h.len]; omega)
      go_wp2
      go_ret
      exact ⟨ret_bool (HA.out.symm.trans (congrArg (·.all id) hkn.out)), rfl⟩

theorem same_any (w : World) (a : Option Addr) (n c : Nat) (l : List Bool) (a2 : Option Addr) (n2 c2 : Nat) (l2 : List Bool) (h : RL .bool w a n c l) (h2 : RL .bool w a2 n2 c2 l2) (hn : n ≤ 1000000) :
    Calls Try.prog 9 #[.slice a n c, .slice a2 n2 c2] w fun e w' => e = .returned (.bool (decide (l = l2))) ∧ w = w' := by
  by_cases hne : n = n2
  · subst hne
    have HE : Hid (∀ k, l.take k = l2.take k → n ≤ k → l = l2) := fun k hk hkn => by
      rwa [List.take_of_length_le (by rw [h.len]; omega), List.take_of_length_le (by rw [h2.len]; omega)] at hk
    go_enter Try.func9, Try.ntmps9
    go_wp2
    go_loop [14] (fun i => ∃ k : Nat, k ≤ n ∧ i = .int .i64 k ∧ l.take k = l2.take k) (fun i => n - (intOf i).toNat)
    case atStart => exact ⟨0, Nat.zero_le _, rfl, rfl⟩
    case round =>
      obtain ⟨k, hk, rfl, hall⟩ := hrel
      have HA := hid hall; clear hall
      by_cases hlt : k < n
      · obtain ⟨b, off, x, rfl, hx, hck⟩ := h.at hlt
        obtain ⟨b2, off2, x2, rfl, hx2, hck2⟩ := h2.at hlt
        have HX := hid hx; clear hx
        have HX2 := hid hx2; clear hx2
        by_cases hxx : x = x2
        · subst hxx
          go_wp2
          go_round
          case rel => exact ⟨k + 1, by omega, by go_num, by rw [take_snoc HX.out, take_snoc HX2.out, HA.out]⟩
          case measure => simp [intOf]; omega
        · have HN : Hid (¬ l = l2) := fun e => by
            have := HX.out; rw [e, HX2.out] at this; exact hxx (by simpa using this.symm)
          have hb : (x2 == x) = false := by simp; exact fun e => hxx e.symm
          have hb' : (x2 != x) = true := by simp; exact fun e => hxx e.symm
          clear hxx
          go_wp2
          go_ret
          exact ⟨ret_bool (decide_eq_false HN.out).symm, rfl⟩
      · have hl := HE.out k HA.out (by omega)
        have HL := hid hl; clear hl
        go_wp2
        go_ret
        exact ⟨ret_bool (decide_eq_true HL.out).symm, rfl⟩
  · have HN : Hid (¬ l = l2) := fun e => by
      subst e; exact hne (h.len.symm.trans h2.len)
    have hd : ((n : Int) == (n2 : Int)) = false := by simp; omega
    have hd' : ((n : Int) != (n2 : Int)) = true := by simp; omega
    go_enter Try.func9, Try.ntmps9
    go_wp2
    go_ret
    exact ⟨ret_bool (decide_eq_false HN.out).symm, rfl⟩

theorem anew_any (w : World) (a : Option Addr) (n c : Nat) (l : List Bool) (h : RL .bool w a n c l) (hn : n ≤ 1000000) :
    Calls Try.prog 8 #[.slice a n c] w fun e w' => ∃ a' c', e = .returned (.slice a' n c') ∧ OL .bool 4 w.heap.size w' a' n c' l ∧ Below w.heap.size w w' := by
  go_enter Try.func8, Try.ntmps8
  go_wp2_with (first
    | (at_make; refine wpList_mk (f := Value.bool) (n := n) tB false rfl rfl _ _ rfl _ _ _ _ rfl rfl rfl rfl (by omega) (by omega) ?_; intro w1 hown hb1 hs1)
    | (with_reducible refine wpList_cp (f := Value.bool) (n := n) tB rfl _ _ rfl rfl rfl hown (h.below hb1) (fun _ => rfl) ?_; intro w2 hown2 hb2))
  go_ret
  exact ⟨_, _, rfl, hown2, hb1.trans hb2⟩

theorem alike_any (w : World) (a : Option Addr) (n c : Nat) (l : List UInt8) (a2 : Option Addr) (n2 c2 : Nat) (l2 : List UInt8) (h : RL bv w a n c l) (h2 : RL bv w a2 n2 c2 l2) :
    Calls Try.prog 16 #[.slice a n c, .slice a2 n2 c2] w fun e w' => e = .returned (.bool (decide (l = l2))) ∧ w = w' := by
  have e1 := run_bstr (S := 9) tY (by kernel_rfl) (by kernel_rfl) h
  have e2 := run_bstr (S := 9) tY (by kernel_rfl) (by kernel_rfl) h2
  go_enter Try.func16, Try.ntmps16
  go_wp2
  go_ret
  exact ⟨ret_bool (by rw [Bool.eq_iff_iff]; simp), rfl⟩

theorem number_any (w : World) (a : Option Addr) (n c : Nat) (l : List Bool) (h : RL .bool w a n c l) (hn : n ≤ 1000000) :
    Calls Try.prog 12 #[.slice a n c] w fun e w' => e = .returned (.int .u32 ((numL l % 4294967296 : Nat) : Int)) ∧ w = w' := by
  go_enter Try.func12, Try.ntmps12
  go_wp2
  go_loop [3, 8] (fun m i => ∃ k m' : Nat, k ≤ n ∧ i = .int .i64 k ∧ m = .int .u32 (m' : Int) ∧ m' < 4294967296 ∧ m' = numL (l.take k) % 4294967296) (fun _ i => n - (intOf i).toNat)
  case atStart => exact ⟨0, 0, Nat.zero_le _, rfl, rfl, by omega, rfl⟩
  case round =>
    obtain ⟨k, m', hk, rfl, rfl, hm, hall⟩ := hrel
    have HA := hid hall; clear hall
    by_cases hlt : k < n
    · obtain ⟨b, off, x, rfl, hx, hck⟩ := h.at hlt
      have HX := hid hx; clear hx
      cases x
      · go_wp2
        go_round
        case rel => exact ⟨k + 1, m' * 2 % 4294967296, by omega, by go_num, by go_num, by omega, by have := num_step HX.out HA.out; simpa using this⟩
        case measure => simp [intOf]; omega
      · go_wp2
        go_round
        case rel =>
          have hs := num_step HX.out HA.out
          have hb := (u32_bits (m' * 2 % 4294967296) 1 (by omega) (by omega)).2
          refine ⟨k + 1, (m' * 2 % 4294967296) ||| 1, by omega, by go_num, ?_, ?_, hs⟩
          · rw [← hb]; congr 2
          · rw [show (1 : Nat) = true.toNat from rfl, hs]; omega
        case measure => simp [intOf]; omega
    · have HE : Hid (m' = numL l % 4294967296) := by
        have e := HA.out; rwa [List.take_of_length_le (by rw [h.len]; omega)] at e
      go_wp2
      go_ret
      exact ⟨ret_int (congrArg (fun q : Nat => (q : Int)) HE.out), rfl⟩

/-- How many are true. -/
def cntT (l : List Bool) : Nat := (l.filter id).length

theorem cntT_snoc {l : List Bool} {k : Nat} {x : Bool} (h : l[k]? = some x) : cntT (l.take (k + 1)) = cntT (l.take k) + x.toNat := by
  unfold cntT; rw [take_snoc h, List.filter_append]; cases x <;> simp

theorem cntT_le (l : List Bool) : cntT l ≤ l.length := List.length_filter_le _ _

theorem cntT_all (l : List Bool) : decide (cntT l = l.length) = l.all id := by
  rw [Bool.eq_iff_iff, decide_eq_true_eq, List.all_eq_true]
  exact List.length_filter_eq_length_iff

theorem refBus_any (w : World) (a : Option Addr) (n c : Nat) (l : List Bool) (h : RL .bool w a n c l) (hn : n ≤ 1000000) :
    Calls Try.prog 20 #[.slice a n c] w fun e w' => e = .returned (.bool (l.all id)) ∧ w = w' := by
  go_enter Try.func20, Try.ntmps20
  go_wp2
  go_loop [3, 4] (fun m i => ∃ k m' : Nat, k ≤ n ∧ i = .int .i64 k ∧ m = .int .i64 (m' : Int) ∧ m' ≤ k ∧ m' = cntT (l.take k)) (fun _ i => n - (intOf i).toNat)
  case atStart => exact ⟨0, 0, Nat.zero_le _, rfl, rfl, by omega, rfl⟩
  case round =>
    obtain ⟨k, m', hk, rfl, rfl, hm, hall⟩ := hrel
    have HA := hid hall; clear hall
    by_cases hlt : k < n
    · obtain ⟨b, off, x, rfl, hx, hck⟩ := h.at hlt
      have HX := hid hx; clear hx
      cases x
      · go_wp2
        go_round
        case rel => exact ⟨k + 1, m', by omega, by go_num, by go_num, by omega, by rw [cntT_snoc HX.out, HA.out]; rfl⟩
        case measure => simp [intOf]; omega
      · go_wp2
        go_round
        case rel => exact ⟨k + 1, m' + 1, by omega, by go_num, by go_num, by omega, by rw [cntT_snoc HX.out, HA.out]; rfl⟩
        case measure => simp [intOf]; omega
    · have HE : Hid (decide (m' = n) = l.all id) := by
        have e := HA.out; rw [List.take_of_length_le (by rw [h.len]; omega)] at e
        rw [← cntT_all, h.len, ← e]; exact rfl
      go_wp2
      go_ret
      exact ⟨ret_bool (by rw [← HE.out, Bool.eq_iff_iff]; simp; omega), rfl⟩

theorem fill_any (w : World) (g off n c x : Nat) (a : Option Addr) (cur : Array Value) (hx : x < 4294967296) (ha : 0 < n → a = some ⟨g, off, none⟩) (hg : w.heap[g]? = some (.cells cur 4 (0, 0))) (hfit : off + n ≤ cur.size) (hn : n ≤ 1000000) :
    Calls Try.prog 23 #[.slice a n c, .int .u32 (x : Int)] w fun e w' => e = .returned (.tuple #[]) ∧ (∃ cur', w'.heap[g]? = some (.cells cur' 4 (0, 0)) ∧ cur'.size = cur.size ∧
      (∀ j, off ≤ j → j < off + n → cur'[j]? = some (.bool (x.testBit (n - 1 - (j - off))))) ∧ ∀ j, (j < off ∨ off + n ≤ j) → cur'[j]? = cur[j]?) ∧ w.grownBy w' (some g) := by
  go_enter Try.func23, Try.ntmps23
  go_wp2
  go_loopw [11] (fun i wr => ∃ k : Nat, k ≤ n ∧ i = .int .i64 k ∧ (∃ cur', wr.heap[g]? = some (.cells cur' 4 (0, 0)) ∧ cur'.size = cur.size ∧
      (∀ j, off ≤ j → j < off + k → cur'[j]? = some (.bool (x.testBit (n - 1 - (j - off))))) ∧ ∀ j, (j < off ∨ off + k ≤ j) → cur'[j]? = cur[j]?) ∧ w.grownBy wr (some g)) (fun i _ => n - (intOf i).toNat)
  case atStart => exact ⟨0, Nat.zero_le _, rfl, ⟨cur, hg, rfl, fun j h1 h2 => by omega, fun j _ => rfl⟩, World.grownBy.refl _ _⟩
  case round =>
    obtain ⟨k, hk, rfl, ⟨cur', hg', hs', hin, hout⟩, hgr⟩ := hrel
    have HIN := hid hin; clear hin
    have HOUT := hid hout; clear hout
    have HG := hid hg'
    by_cases hlt : k < n
    · obtain rfl := ha (by omega)
      have hc : wr.cell? ⟨g, off + k, none⟩ = some cur'[off + k] := by
        rw [cell_of_row wr g (off + k) cur' _ _ hg']; simp [show off + k < cur'.size by omega]
      obtain ⟨v0, hv0⟩ : ∃ v0, v0 = cur'[off + k] := ⟨_, rfl⟩
      rw [← hv0] at hc
      clear hv0
      have hf : wr.frozen? ⟨g, off + k, none⟩ = false := frozen_of_row wr g (off + k) cur' _ hg'
      obtain ⟨y, hy⟩ : ∃ y : Nat, y = x / 2 ^ (n - 1 - k) := ⟨_, rfl⟩
      have hy1 : y < 4294967296 := by rw [hy]; exact Nat.lt_of_le_of_lt (Nat.div_le_self _ _) hx
      have hsh : Op.shift .shr .u32 (x : Int) .i64 ((n : Int) - 1 - (k : Int)) = pure (.int .u32 (y : Int)) := by
        rw [shift_shr_any _ _ _ _ (by omega), show ((n : Int) - 1 - (k : Int)).toNat = n - 1 - k from by omega, hy]
        congr 2
        by_cases hs : n - 1 - k ≤ 32
        · rw [show min (n - 1 - k) IntKind.u32.bits = n - 1 - k from Nat.min_eq_left hs]; norm_cast
        · have h2 : x / 2 ^ (n - 1 - k) = 0 := Nat.div_eq_of_lt (Nat.lt_of_lt_of_le hx (Nat.pow_le_pow_right (n := 2) (i := 32) (by decide) (by omega)))
          rw [show min (n - 1 - k) IntKind.u32.bits = 32 from Nat.min_eq_right (show 32 ≤ n - 1 - k by omega), h2]
          show (x : Int) / 2 ^ 32 = 0
          omega
      obtain ⟨bt, hbt⟩ : ∃ bt, bt = x.testBit (n - 1 - k) := ⟨_, rfl⟩
      have hb1 : (bits .and .u32 (y : Int) 1 == 1) = bt := by
        rw [show ((1 : Int)) = ((1 : Nat) : Int) from rfl, (u32_bits y 1 hy1 (by omega)).1, hbt, hy, Nat.testBit_eq_decide_div_mod_eq, Nat.and_one_is_mod, Bool.eq_iff_iff]
        simp
        norm_cast
      have HB := hid hbt; clear hbt
      clear hg' hy
      go_wp2
      go_roundw
      case rel =>
        have hset := heap_setCell_same wr g (off + k) cur' _ (.bool bt) HG.out
        refine ⟨k + 1, by omega, by go_num, ⟨_, hset, by simpa using hs', fun j h1 h2 => ?_, fun j h1 => ?_⟩, ?_⟩
        · rw [Array.getElem?_setIfInBounds]
          split
          · rename_i e; subst e; rw [if_pos (by omega), HB.out]; congr 4; omega
          · exact HIN.out j h1 (by omega)
        · rw [Array.getElem?_setIfInBounds, if_neg (by omega)]
          exact HOUT.out j (by omega)
        · exact ⟨hgr.os, hgr.tape, hgr.output, by simpa using hgr.size, fun q h1 h2 => (Below.heap_setCell _ _ _ _ (by simpa using h2)).trans (hgr.block q h1 h2)⟩
      case measure => simp [intOf]; omega
    · obtain rfl : k = n := by omega
      clear hg'
      go_wp2
      go_end0
      exact ⟨rfl, ⟨cur', HG.out, hs', HIN.out, HOUT.out⟩, hgr⟩

/-- How many bits Of gives. -/
def clampM (many : Int) : Nat := (min (max many 0) 64).toNat

theorem of_any (w : World) (x : Nat) (many : Int) (hx : x < 4294967296) (hm : -9223372036854775808 ≤ many ∧ many ≤ 9223372036854775807) :
    Calls Try.prog 10 #[.int .u32 (x : Int), .int .i64 many] w fun e w' => ∃ a c, e = .returned (.slice a (clampM many) c) ∧ OL .bool 4 w.heap.size w' a (clampM many) c (ofL x (clampM many)) ∧ Below w.heap.size w w' := by
  obtain ⟨m, hm0⟩ : ∃ m, m = clampM many := ⟨_, rfl⟩
  have hm64 : m ≤ 64 := by rw [hm0]; unfold clampM; omega
  have hcase : (many < 0 ∧ m = 0) ∨ (many > 64 ∧ m = 64) ∨ many = (m : Int) := by rw [hm0]; unfold clampM; omega
  rw [← hm0]
  clear hm0
  rcases hcase with ⟨h1, h2⟩ | ⟨h1, h2⟩ | h2
  all_goals
    have H2 := hid h2
    first | (have h3 : 0 ≤ many ∧ many ≤ 64 := by omega) | skip
    clear h2
    go_enter Try.func10, Try.ntmps10
    go_wp2_with (first
      | (at_make; refine wpList_mk (f := Value.bool) (n := m) tB false rfl rfl _ _ rfl _ _ _ _ rfl rfl (by have := H2.out; omega) (by have := H2.out; omega) (by omega) (by omega) ?_; intro w1 hown hb1 hs1; obtain ⟨cur, _, hg, hcs, _, _⟩ := hown.full)
      | (go_at_call 23; refine (fill_any w1 w.heap.size 0 _ _ x _ cur hx (fun _ => rfl) hg (by omega) (by omega)).mono ?_; rintro e w2 ⟨rfl, ⟨cur', hg', hs', hin, _⟩, hgr⟩))
    go_ret
    refine ⟨_, _, rfl, ol_of_cells hg' (Nat.le_refl _) (hs'.trans hcs) (by omega) (by simp) (fun j b hb => ?_), hb1.trans ((Below.refl _ _).grown hgr (by omega) (fun q hq => by simp at hq; omega))⟩
    have hj : j < (ofL x _).length := (List.getElem?_eq_some_iff.1 hb).1
    rw [ofL_length] at hj
    rw [ofL_get _ _ _ hj] at hb
    simp only [Option.some.injEq] at hb
    subst hb
    rw [hin j (by omega) (by omega)]
    simp
end Go.Proofs.Ytemiclgafajblaa
