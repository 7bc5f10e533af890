/-
  Contracts of the functions of layer 1, more of them: those that make lists of bits and bytes.
-/
import Derived.Test.YtemiclgafajblaaB1
namespace Go.Proofs.Ytemiclgafajblaa
open Go.RowKit
set_option linter.unusedVariables false

theorem refOf_any (w : World) (x : Nat) (many : Int) (hx : x < 4294967296) (hm : -9223372036854775808 ≤ many ∧ many ≤ 9223372036854775807) :
    Calls Try.prog 11 #[.int .u32 (x : Int), .int .i64 many] w fun e w' => ∃ a c, e = .returned (.slice a (clampM many) c) ∧ OL .bool 4 w.heap.size w' a (clampM many) c (ofL x (clampM many)) ∧ Below w.heap.size w w' := by
  obtain ⟨m, hm0⟩ : ∃ m, m = clampM many := ⟨_, rfl⟩
  have hm64 : m ≤ 64 := by rw [hm0]; unfold clampM; omega
  obtain ⟨M, hM0⟩ : ∃ M, M = min many 64 := ⟨_, rfl⟩
  have hMm : (M < 0 ∧ m = 0) ∨ M = (m : Int) := by rw [hm0, hM0]; unfold clampM; omega
  have HM := hid hMm; clear hMm
  rw [← hm0]
  clear hm0
  have hcase : (64 < many ∧ M = 64) ∨ (many ≤ 64 ∧ M = many) := by omega
  clear hM0
  have hM64 : M ≤ 64 ∧ -9223372036854775808 ≤ M := by omega
  rcases hcase with ⟨h1, h2⟩ | ⟨h1, h2⟩
  all_goals
    subst h2
    go_enter Try.func11, Try.ntmps11
    go_wp2
    go_loopw [0, 5, 6] (fun v0 v i wr => ∃ (k y : Nat) (a : Option Addr) (c : Nat), k ≤ m ∧ i = .int .i64 k ∧ y < 4294967296 ∧ v0 = .int .u32 (y : Int) ∧ y = x / 2 ^ k ∧ v = .slice a k c ∧ OL .bool 4 w.heap.size wr a k c (ofL x k) ∧ Below w.heap.size w wr) (fun _ _ i _ => m - (intOf i).toNat)
    case atStart => exact ⟨0, x, none, 0, Nat.zero_le _, rfl, hx, rfl, by simp, rfl, OL.nil _ _ _ _, Below.refl _ _⟩
    case round =>
      obtain ⟨k, y, a, c, hk, rfl, hy, rfl, hyx, rfl, hol, hb⟩ := hrel
      have HY := hid hyx; clear hyx
      by_cases hlt : k < m
      · first | (have ht : (k : Int) < M := by have := HM.out; omega) | (have ht : (k : Int) < 64 := by omega)
        obtain ⟨bt, hbt⟩ : ∃ bt, bt = ((y : Int) % 2 == 1) := ⟨_, rfl⟩
        have HB := hid hbt
        have hbt' := hbt.symm
        clear hbt
        have hs := hb.size
        go_wp2_with (at_builtin; refine wpList_app (f := Value.bool) tB rfl _ _ rfl rfl (ol_lit Value.bool _ w.heap.size wr [bt] _ 1 rfl rfl (by omega) hs) rfl (hol.rl.below ((Below.refl _ _).alloc (Nat.le_refl _) _)) (fun _ => rfl) (by omega) (by omega) (by simp; omega) ?_; intro w2 a2 c2 hol2 hb2)
        go_roundw
        case rel =>
          have e1 : ofL x (k + 1) = [bt] ++ ofL x k := by
            rw [ofL, HB.out, HY.out, Nat.testBit_eq_decide_div_mod_eq]
            simp only [List.cons_append, List.nil_append, List.cons.injEq, and_true]
            rw [Bool.eq_iff_iff]; simp; norm_cast
          exact ⟨k + 1, y / 2, a2, c2, by omega, by go_num, by omega, by go_num, by rw [HY.out, Nat.div_div_eq_div_mul, ← Nat.pow_succ], by rw [Nat.add_comm], by rw [e1, Nat.add_comm k 1]; exact hol2, (hb.alloc hs _).trans hb2⟩
        case measure => simp [intOf]; omega
      · first | (have ht : ¬ (k : Int) < M := by have := HM.out; omega) | (have ht : ¬ (k : Int) < 64 := by have := HM.out; omega)
        obtain rfl : k = m := by omega
        go_wp2
        go_ret
        exact ⟨a, c, rfl, hol, hb⟩

theorem refNumber_any (w : World) (a : Option Addr) (n c : Nat) (l : List Bool) (h : RL .bool w a n c l) (hn : n ≤ 1000000) :
    Calls Try.prog 13 #[.slice a n c] w fun e w' => e = .returned (.int .u32 ((numL l % 4294967296 : Nat) : Int)) ∧ w = w' := by
  obtain ⟨l', hl'⟩ : ∃ l', l' = l.drop (n - 32) := ⟨_, rfl⟩
  obtain ⟨N, hN⟩ : ∃ N, N = min n 32 := ⟨_, rfl⟩
  have hll : l'.length = N := by rw [hl', List.length_drop, h.len, hN]; omega
  have hnum : numL l % 4294967296 = numL l' := by
    have hlt := numL_lt l'
    have hle : 2 ^ l'.length ≤ 2 ^ 32 := Nat.pow_le_pow_right (by decide) (by omega)
    by_cases h32 : 32 ≤ n
    · have e : l = l.take (n - 32) ++ l' := by rw [hl', List.take_append_drop]
      rw [e, numL_append, show l'.length = 32 from by omega, Nat.mul_comm]
      rw [show (4294967296 : Nat) = 2 ^ 32 from rfl, Nat.mul_add_mod, Nat.mod_eq_of_lt (by rw [show l'.length = 32 from by omega] at hlt; exact hlt)]
    · rw [hl', show n - 32 = 0 from by omega, List.drop_zero] at *
      exact Nat.mod_eq_of_lt (by omega)
  have HNUM := hid hnum; clear hnum
  have hN32 : N ≤ 32 := by omega
  have hcase : (32 < n ∧ N = 32) ∨ (n ≤ 32 ∧ N = n) := by omega
  clear hN
  rcases hcase with ⟨h32, h3⟩ | ⟨h32, h3⟩
  all_goals
    subst h3
    first
      | (have hr' : RL .bool w a N c l' := by rw [hl', show N - 32 = 0 by omega]; exact h)
      | skip
    have HL := hid hl'; clear hl'
    go_enter Try.func13, Try.ntmps13
    go_wp2_with (with_reducible refine wpList_cutFrom tB rfl _ _ rfl _ _ (n - 32) rfl rfl (by omega) h (by omega) 32 (by omega) ?_; intro a' c' hr'; rw [← HL.out] at hr')
    go_loop [3, 4, 5] (fun m v i => ∃ k m' y : Nat, k ≤ l'.length ∧ i = .int .i64 ((k : Int) - 1) ∧ m = .int .u32 (m' : Int) ∧ v = .int .u32 (y : Int) ∧ m' = numL (l'.drop k) ∧ y = 2 ^ (l'.length - k) % 4294967296) (fun _ _ i => (intOf i + 1).toNat)
    case atStart => exact ⟨l'.length, 0, 1, Nat.le_refl _, by simp [hll], rfl, rfl, by rw [List.drop_length]; rfl, by simp⟩
    case round =>
      obtain ⟨k, m', y, hk, rfl, rfl, rfl, hm, hy⟩ := hrel
      have hm1 : m' < 2 ^ (l'.length - k) := by rw [hm]; have := numL_lt (l'.drop k); rwa [List.length_drop] at this
      have hm2 : m' < 4294967296 := Nat.lt_of_lt_of_le hm1 (Nat.pow_le_pow_right (n := 2) (j := 32) (by decide) (by omega))
      rw [hll] at hm1 hy hk
      by_cases hk0 : k = 0
      · have HE : Hid (m' = numL l % 4294967296) := by rw [HNUM.out, hm, hk0, List.drop_zero]; exact rfl
        subst hk0
        clear hm hy hm1
        go_wp2
        go_ret
        exact ⟨ret_int (congrArg (fun q : Nat => (q : Int)) HE.out), rfl⟩
      · obtain ⟨j, rfl⟩ : ∃ j, k = j + 1 := ⟨k - 1, by omega⟩
        obtain ⟨b, off, x, rfl, hx, hck⟩ := hr'.at (k := j) (by omega)
        have hy2 : y = 2 ^ (l'.length - (j + 1)) := by
          rw [hy, hll]
          exact Nat.mod_eq_of_lt (Nat.lt_of_le_of_lt (Nat.pow_le_pow_right (n := 2) (j := 31) (by decide) (by omega)) (by decide))
        have hsum : m' + y < 4294967296 := by
          rw [hll] at hy2
          have h1 : 2 ^ (l'.length - j) ≤ 2 ^ 32 := Nat.pow_le_pow_right (by decide) (by omega)
          rw [show l'.length - j = l'.length - (j + 1) + 1 from by omega, Nat.pow_succ, hll, ← hy2] at h1
          omega
        have hd : l'.drop j = x :: l'.drop (j + 1) := by
          rw [List.drop_eq_getElem_cons (by omega)]
          congr 1
          have := List.getElem?_eq_some_iff.1 hx
          exact this.2
        have H1 : Hid (m' + x.toNat * y = numL (l'.drop j)) := by
          rw [hd, numL_cons, List.length_drop, ← hm, ← hy2, Nat.add_comm]; exact rfl
        have H2 : Hid (y * 2 % 4294967296 = 2 ^ (l'.length - j) % 4294967296) := by
          rw [hy2, ← Nat.pow_succ, show (l'.length - (j + 1)).succ = l'.length - j from by omega]; exact rfl
        have hyy : y < 4294967296 := by omega
        clear hm hy hm1 hx hd hy2
        cases x
        all_goals
          go_wp2
          go_round
          case rel => exact ⟨j, _, y * 2 % 4294967296, by omega, by go_num, by first | rfl | exact congrArg (Value.int .u32) (by norm_cast), by go_num, by rw [← H1.out]; simp, H2.out⟩
          case measure => first | (simp [intOf]; done) | (simp [intOf]; omega)

/-- A bit as its letter. -/
def chB (x : Bool) : UInt8 := if x then 114 else 100

theorem text_any (w : World) (a : Option Addr) (n c : Nat) (l : List Bool) (h : RL .bool w a n c l) (hn : n ≤ 1000000) :
    Calls Try.prog 22 #[.slice a n c] w fun e w' => e = .returned (.string ⟨(l.map chB).toArray⟩) ∧ w = w' := by
  go_enter Try.func22, Try.ntmps22
  go_wp2
  go_loop [3, 8] (fun s i => ∃ (k : Nat) (t : List UInt8), k ≤ n ∧ i = .int .i64 k ∧ s = .string ⟨t.toArray⟩ ∧ t = (l.take k).map chB) (fun _ i => n - (intOf i).toNat)
  case atStart => exact ⟨0, [], Nat.zero_le _, rfl, rfl, rfl⟩
  case round =>
    obtain ⟨k, t, hk, rfl, rfl, ht⟩ := hrel
    have htl : t.length = k := by rw [ht, List.length_map, List.length_take, h.len]; omega
    have HT := hid ht; clear ht
    have htl' := hid htl
    by_cases hlt : k < n
    · obtain ⟨b, off, x, rfl, hx, hck⟩ := h.at hlt
      have HX := hid hx; clear hx
      have hadd : ∀ y : UInt8, (Op.stringOp .add ⟨t.toArray⟩ ⟨#[y]⟩).run Try.prog w = .ok (.string ⟨(t ++ [y]).toArray⟩) w := fun y => by
        have := run_string_add_sum (P := Try.prog) w ⟨t.toArray⟩ ⟨#[y]⟩ (by simp [ByteArray.size] <;> omega)
        rw [this, ByteArray.mk_append_mk]
      clear htl
      cases x
      · have h1 := hadd 100
        clear hadd
        go_wp2
        go_round
        case rel => exact ⟨k + 1, t ++ [100], by omega, by go_num, rfl, by rw [take_snoc HX.out, List.map_append, ← HT.out]; rfl⟩
        case measure => simp [intOf]; omega
      · have h1 := hadd 114
        clear hadd
        go_wp2
        go_round
        case rel => exact ⟨k + 1, t ++ [114], by omega, by go_num, rfl, by rw [take_snoc HX.out, List.map_append, ← HT.out]; rfl⟩
        case measure => simp [intOf]; omega
    · have HE : Hid (t = l.map chB) := by
        have e := HT.out; rwa [List.take_of_length_le (by rw [h.len]; omega)] at e
      clear htl
      go_wp2
      go_ret
      exact ⟨ret_str (by rw [HE.out]), rfl⟩

theorem ofBytes_any (w : World) (a : Option Addr) (n c : Nat) (l : List UInt8) (h : RL bv w a n c l) (hn : n ≤ 100000) :
    Calls Try.prog 14 #[.slice a n c] w fun e w' => ∃ a' c', e = .returned (.slice a' (8 * n) c') ∧ OL .bool 4 w.heap.size w' a' (8 * n) c' (obL l) ∧ Below w.heap.size w w' := by
  go_enter Try.func14, Try.ntmps14
  go_wp2_with (at_make; refine wpList_mk (f := Value.bool) (n := 8 * n) tB false rfl rfl _ _ rfl _ _ _ _ rfl rfl (by omega) (by omega) (by omega) (by omega) ?_; intro w1 hown hb1 hs1; obtain ⟨cur, _, hg, hcs, _, _⟩ := hown.full)
  go_loopw [12] (fun i wr => ∃ k : Nat, k ≤ n ∧ i = .int .i64 k ∧ (∃ cur', wr.heap[w.heap.size]? = some (.cells cur' 4 (0, 0)) ∧ cur'.size = 8 * n ∧ ∀ j, j < 8 * k → cur'[j]? = ((obL l)[j]?).map Value.bool) ∧ w1.grownBy wr (some w.heap.size)) (fun i _ => n - (intOf i).toNat)
  case atStart => exact ⟨0, Nat.zero_le _, rfl, ⟨cur, hg, hcs, fun j hj => by omega⟩, World.grownBy.refl _ _⟩
  case round =>
    obtain ⟨k, hk, rfl, ⟨cur', hg', hs', hin⟩, hgr⟩ := hrel
    by_cases hlt : k < n
    · have HIN := hid hin; clear hin
      have HG := hid hg'; clear hg'
      have hrr := h.below (hb1.trans ((Below.refl w.heap.size w1).grown hgr (by omega) (fun q hq => by simp at hq; omega)))
      obtain ⟨b, off, x, rfl, hx, hck⟩ := hrr.at hlt
      have hx8 := x.toNat_lt
      change wr.cell? ⟨b, off + k, none⟩ = some (.int .u8 (x.toNat : Int)) at hck
      clear hrr
      have HX := hid hx; clear hx
      go_wp2_with (go_at_call 23; refine (fill_any wr w.heap.size (k * 8) _ _ x.toNat _ cur' (by omega) (fun _ => rfl) HG.out (by omega) (by omega)).mono ?_; rintro e w2 ⟨rfl, hpost, hgr2⟩; have HP := hid hpost; clear hpost)
      go_roundw
      case rel =>
        obtain ⟨cur2, hg2, hs2, hin2, hout2⟩ := HP.out
        refine ⟨k + 1, by omega, by go_num, ⟨cur2, hg2, hs2.trans hs', fun j hj => ?_⟩, ⟨hgr2.os.trans hgr.os, hgr2.tape.trans hgr.tape, hgr2.output.trans hgr.output, Nat.le_trans hgr.size hgr2.size, fun q h1 h2 => (hgr2.block q (Nat.lt_of_lt_of_le h1 hgr.size) h2).trans (hgr.block q h1 h2)⟩⟩
        by_cases hj8 : j < 8 * k
        · rw [hout2 j (by omega)]; exact HIN.out j hj8
        · have hch := obL_chunk l k x HX.out
          have e1 : (obL l)[j]? = (ofL x.toNat 8)[j - 8 * k]? := by
            rw [← hch, List.getElem?_take, if_pos (by omega), List.getElem?_drop]; congr 1; omega
          rw [hin2 j (by omega) (by omega), e1, ofL_get _ _ _ (by omega)]
          simp only [Option.map_some]
          congr 3
          omega
      case measure => simp [intOf]; omega
    · obtain rfl : k = n := by omega
      have HIN := hid hin; clear hin
      have HG := hid hg'; clear hg'
      go_wp2
      go_ret
      refine ⟨_, _, rfl, ol_of_cells HG.out (Nat.le_refl _) hs' (by omega) (by rw [obL_length, h.len]) (fun j b hb => ?_), hb1.trans ((Below.refl _ _).grown hgr (by omega) (fun q hq => by simp at hq; omega))⟩
      have hj : j < (obL l).length := (List.getElem?_eq_some_iff.1 hb).1
      rw [obL_length, h.len] at hj
      rw [HIN.out j hj, hb]; rfl
end Go.Proofs.Ytemiclgafajblaa
