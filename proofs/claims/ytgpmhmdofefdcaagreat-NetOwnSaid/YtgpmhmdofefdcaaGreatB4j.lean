/-
  The contract of crc.Sum: a loop over an iterator that yields the bits one by one. It returns the check sum of the bits.
  Contracts of layer 3, more of them: crc.Bits, and the document's own answers, Sum and Bits.
  The contract of the document's own Sum of layer 3: a division of polynomials, done in place. It returns the check sum of the bits.
  Contracts of the document's OfBytes and Bytes (layer 1).
  Frames: what the functions of layer 4 say as plain functions; contracts of Long and Right (the program's and the document's).
  Contracts of contest and head (the program's), and of the document's head.
  A row of bits that is read from its beginning on: contract of take.
-/
import Derived.Test.YtgpmhmdofefdcaaGreatB3
import Derived.RangeFuncNested
import Derived.RangeFuncBound
import Derived.RangeFuncCalls
import Derived.RangeFuncLeaves
import Derived.Shelf.Abstract
import Derived.Shelf.RegionOpen
import Derived.OwnWalkIn
import Derived.TacticsInMore
import Derived.LoopNIn
import Derived.LoopIn
import Derived.Test.YtgpmhmdofefdcaaGreatB1f
import Derived.BigGuard
import Derived.Deep.Light
import Derived.Test.YtgpmhmdofefdcaaGreatB2
import Derived.Lib.QuietBelow
namespace Go.Proofs.YtgpmhmdofefdcaaGreat
open Go.RowKit Go.Shelf
set_option linter.unusedVariables false

attribute [local go_sem] Oper.semAt_some

theorem one_new {w : World} (E : TypeId) (v : Value) : (w.alloc (.cells #[v] E)).cell? ⟨w.heap.size, 0, none⟩ = some v ∧ (w.alloc (.cells #[v] E)).frozen? ⟨w.heap.size, 0, none⟩ = false := by
  have h := heap_alloc_new w (.cells #[v] E)
  exact ⟨by rw [cell_of_row _ _ 0 _ _ _ h]; rfl, frozen_of_row _ _ 0 _ _ h⟩

theorem one_new2 {w : World} (E : TypeId) (v : Value) (o : Obj) : ((w.alloc (.cells #[v] E)).alloc o).cell? ⟨w.heap.size, 0, none⟩ = some v ∧ ((w.alloc (.cells #[v] E)).alloc o).frozen? ⟨w.heap.size, 0, none⟩ = false := by
  have h : ((w.alloc (.cells #[v] E)).alloc o).heap[w.heap.size]? = some (.cells #[v] E) := by
    rw [Below.heap_alloc _ o w.heap.size (by simp)]; exact heap_alloc_new w _
  exact ⟨by rw [cell_of_row _ _ 0 _ _ _ h]; rfl, frozen_of_row _ _ 0 _ _ h⟩

set_option maxRecDepth 100000 in
set_option maxHeartbeats 2000000 in
/-- The iterator's closure, for every loop body that keeps what lay below n0. -/
theorem each1_in (F : Fence) (n : Nat) (hf : F.fn 83) (hro : F.round = none) (hn : 1 ≤ n) (lp Bs : Nat) (w0 : World) (a : Option Addr) (m c : Nat) (l : List Bool) (hm : m ≤ 1000000) (h : RL .bool w0 a m c l) (J Jx : List Bool → World → Prop)
    (hY : ∀ pre x W, J pre W → pre.length < m → YieldAt F (n - 1) Tryz.prog lp #[.bool x] W fun e W' =>
      (e = .returned (.bool true) ∧ J (pre ++ [x]) W' ∧ Below w0.heap.size W W') ∨ (e = .returned (.bool false) ∧ Jx (pre ++ [x]) W'))
    (W : World) (hBs : W.cell? ⟨Bs, 0, none⟩ = some (.slice a m c)) (hB : Below w0.heap.size w0 W) (h0 : J [] W) :
    CallsIn F n Tryz.prog 83 #[.func (.yield lp) #[] #[], .pointer (some ⟨Bs, 0, none⟩)] W fun e W' => (∃ v, e = .returned v) ∧
      ((∃ ys, ys = l ∧ J ys W') ∨ (∃ pre, pre <+: l ∧ Jx pre W')) := by
  refine callsIn_of_wp Tryz.func83 rfl hf ?_ hro
  simp only [Tryz.ntmps83, List.size_toArray, List.length_cons, List.length_nil, Nat.reduceAdd, Nat.reduceSub, Array.replicate_succ, Array.replicate_zero, List.push_toArray, List.append_toArray, List.nil_append, List.cons_append]
  gi_wp2
  gi_loopw [7] (fun i wr => ∃ k : Nat, k ≤ m ∧ i = .int .i64 k ∧ J (l.take k) wr ∧ Below w0.heap.size w0 wr)
    (fun i _ => m - (intOf i).toNat)
  case atStart => exact ⟨0, Nat.zero_le _, rfl, by rw [List.take_zero]; exact h0, hB⟩
  case round =>
    obtain ⟨k, hk, rfl, hJs, hnx⟩ := hrel
    by_cases hlt : k < m
    · obtain ⟨b, off, x, rfl, hx, hck⟩ := (h.below hnx).at hlt
      have HX := hid hx; clear hx
      obtain ⟨fn, tmps, assign, body, hy, hR⟩ := hY _ x wr hJs (by rw [List.length_take, h.len]; omega)
      rw [← take_snoc HX.out] at hR
      gi_wp2
      refine hR.mono ?_
      rintro e W3 (⟨rfl, hJ3, hk3⟩ | ⟨rfl, hJx3⟩)
      · gi_wp2
        go_roundw
        case rel => exact ⟨k + 1, by omega, by go_num, hJ3, hnx.trans hk3⟩
        case measure => simp [intOf]; omega
      · gi_wp2
        refine bodyPost_ret (results_none rfl _ _ _) rfl ?_
        exact ⟨⟨_, rfl⟩, .inr ⟨_, List.take_prefix _ _, hJx3⟩⟩
    · obtain rfl : k = m := by omega
      rw [List.take_of_length_le (by rw [h.len]; omega)] at hJs
      gi_wp2
      go_end0
      exact ⟨⟨_, rfl⟩, .inl ⟨_, rfl, hJs⟩⟩

theorem each_any (w : World) (a : Option Addr) (m c : Nat) :
    Calls Tryz.prog 66 #[.slice a m c] w fun e w' => e = .returned (.func (.func 83) #[] #[.pointer (some ⟨w.heap.size, 0, none⟩)]) ∧ w' = w.alloc (.cells #[.slice a m c] 29) := by
  have hmf : ∀ (fn : Fn) (first cap : Array Value) (w : World), (Instr.makeFunc fn first cap).run Tryz.prog w = .ok (.func fn first cap) w := fun _ _ _ _ => rfl
  go_enter Tryz.func66, Tryz.ntmps66
  go_wp2
  go_ret
  exact ⟨rfl, rfl⟩

theorem each_stops (F : Fence) (n : Nat) (hf : F.fn 83) (hro : F.round = none) (hn : 1 ≤ n) (Bs : Nat) (w0 : World) (a : Option Addr) (m c : Nat) (l : List Bool) (hm : m ≤ 1000000) (h : RL .bool w0 a m c l)
    (w : World) (hBs : Bs < w.heap.size) (hc : w.cell? ⟨Bs, 0, none⟩ = some (.slice a m c)) (hB : Below w0.heap.size w0 w) :
    SeqStopsK F n Tryz.prog 83 #[.pointer (some ⟨Bs, 0, none⟩)] (fun x : Bool => #[Value.bool x]) (Below w0.heap.size) (fun ys => ys = l) (fun pre => pre <+: l) m w := fun lp J Jx W hW _ _ hY h0 =>
  each1_in F n hf hro hn lp Bs w0 a m c l hm h J Jx hY W ((hW.cell (p := ⟨Bs, 0, none⟩) hBs).trans hc) (hB.trans (hW.mono hB.size)) h0

theorem nxV_nat (s : BitVec 15) (x : Bool) : nxV (BitVec.ofNat 15 s.toNat) x = nxV s x := by rw [BitVec.ofNat_toNat, BitVec.setWidth_eq]

set_option maxRecDepth 100000 in
set_option maxHeartbeats 2000000 in
theorem sum_any (w : World) (a : Option Addr) (m c : Nat) (l : List Bool) (h : RL .bool w a m c l) (hm : m ≤ 1000000) :
    Calls Tryz.prog 48 #[.slice a m c] w fun e w' => e = .returned (.int .u16 ((suV l).toNat : Int)) ∧ Below w.heap.size w w' := by
  refine (callsIn_wide (n := 4)).1 ?_
  refine callsIn_of_wp_marks Tryz.func48 rfl trivial ?_ rfl
  simp only [Tryz.ntmps48, List.size_toArray, List.length_cons, List.length_nil, Nat.reduceAdd, Nat.reduceSub, Array.replicate_succ, Array.replicate_zero, List.push_toArray, List.append_toArray, List.nil_append, List.cons_append]
  gi_wp2_with (refine ⟨trivial, ?_⟩; gi_at_call 66; refine (callsIn_wide.2 (each_any _ _ _ _)).mono ?_; rintro e w' ⟨rfl, rfl⟩)
  have hs := one_new (w := w) 99 (.int .u16 0)
  have hb := one_new (w := w.alloc (.cells #[.int .u16 0] 99)) 29 (.slice a m c)
  have hs2 := one_new2 (w := w) 99 (.int .u16 0) (.cells #[.slice a m c] 29)
  rw [World.size_alloc] at hb
  have hB0 : Below w.heap.size w ((w.alloc (.cells #[.int .u16 0] 99)).alloc (.cells #[.slice a m c] 29)) := bnew (bnew0 w _) _
  refine wpIn_rangeFunc_ownF rfl (by omega) (gf := 83) (lb := #[.pointer (some ⟨w.heap.size + 1, 0, none⟩)]) rfl trivial (enters_of Tryz.func83 (by kernel_rfl) rfl)
    (each_stops Fence.wide _ trivial rfl (by omega) (w.heap.size + 1) w a m c l hm h _ (by simp) hb.1 hB0) belowK_t (belowK_b (by simp; omega)) (Below.refl _ _) (fun _ => rfl)
    (fun pre W => (W.cell? ⟨w.heap.size, 0, none⟩ = some (.int .u16 ((suV pre).toNat : Int)) ∧ W.frozen? ⟨w.heap.size, 0, none⟩ = false) ∧ Below w.heap.size w W)
    (fun _ _ _ => False)
    (OwnFrom.and (Own.from (fun s A B row hs hg hr => ⟨cell_kept hs.1 hg hr, (frozen_kept hs.1 hg hr).trans hs.2⟩) _) (ownFrom_below (Nat.le_refl _) (by simp; omega)))
    (fun _ _ _ _ _ hs _ _ => hs)
    ⟨hs2, hB0⟩
    (fun x => { tmps := #[.slice a m c, undef, .int .u16 0, .pointer (some ⟨w.heap.size, 0, none⟩), .bool x, .slice a m c, .func (.func 83) #[] #[.pointer (some ⟨w.heap.size + 1, 0, none⟩)], .bool x, undef, undef, undef, undef], defers := [] }) ?assign ?body ?done ?stop
  case assign =>
    intro lp x W K hK
    gi_wp2
    exact hK
  case body =>
    rintro lp pre x W ⟨⟨hc, hf⟩, hB⟩ _
    have HS := hid (suV_snoc pre x)
    obtain ⟨s, hs0⟩ : ∃ s, s = suV pre := ⟨_, rfl⟩
    rw [← hs0] at hc HS
    have hs15 := s.isLt
    clear hs0
    gi_wp2_with (refine ⟨trivial, ?_⟩; gi_at_call 67; refine (CallsIn.inRound lp (callsIn_wide.2 (crcNext_any _ s.toNat x (by omega)))).mono ?_; rw [nxV_nat]; rintro e w' ⟨rfl, rfl⟩)
    exact ⟨KeepsOthers.setCell _ _ _, (Below.refl w.heap.size W).setCell (p := ⟨w.heap.size, 0, none⟩) (Nat.le_refl _) _, ⟨by rw [HS.out]; exact World.cell?_setCell_same' _ _ _ (by rw [hc]; rfl), by rw [World.frozen?_setCell]; exact hf⟩, hB.setCell (p := ⟨w.heap.size, 0, none⟩) (Nat.le_refl _) _⟩
  case done =>
    rintro D ys W hD rfl ⟨⟨hc, _⟩, hB⟩ hK
    gi_wp2
    refine ⟨by simp, .inl ⟨_, _, rfl, run_takeDeferred hK, ?_⟩⟩
    exact ⟨_, results_tmp rfl _ _ _, rfl, hB.trans (belowK_b (w := w) (Nat.le_refl _) W D _ _ (by simp at hD; omega) hK rfl rfl)⟩
  case stop =>
    rintro D c pre W _ _ h _
    exact h.elim
end Go.Proofs.YtgpmhmdofefdcaaGreat

namespace Go.Proofs.YtgpmhmdofefdcaaGreat
open Go.RowKit
set_option linter.unusedVariables false

theorem bits_any (w : World) (x : Nat) (hx : x < 65536) :
    Calls Tryz.prog 47 #[.int .u16 (x : Int)] w fun e w' => ∃ a c, e = .returned (.slice a 15 c) ∧ OL .bool 4 w.heap.size w' a 15 c (ofL x 15) ∧ Below w.heap.size w w' := by
  have hc : clampM 15 = 15 := by decide
  go_enter Tryz.func47, Tryz.ntmps47
  go_wp2_with (go_at_call 51; refine (of_any w x 15 (by omega) (by omega)).mono ?_; rw [hc]; rintro e w1 ⟨a1, c1, rfl, hol1, hb1⟩)
  go_ret
  exact ⟨_, _, rfl, hol1, hb1⟩

theorem half14 (k : Nat) (hk : k ≤ 15) : 16384 / 2 ^ k = if k = 15 then 0 else 2 ^ (14 - k) := by
  by_cases h : k = 15
  · subst h; rfl
  · rw [if_neg h, show (16384 : Nat) = 2 ^ 14 from rfl, Nat.pow_div (by omega) (by decide)]

end Go.Proofs.YtgpmhmdofefdcaaGreat

namespace Go.Proofs.YtgpmhmdofefdcaaGreat
open Go.RowKit
set_option linter.unusedVariables false

/-- What stands at place j when i steps of the division are done. -/
def refF (l : List Bool) (i j : Nat) : Bool := (suV (l.take i)).getMsbD (j - i) != (l[j]?.getD false)

/-- The polynomial, its highest bit first. -/
def pol (k : Nat) : Bool := k == 0 || (0x4599#15).getMsbD (k - 1)

theorem refF_zero (l : List Bool) (j : Nat) : refF l 0 j = l[j]?.getD false := by
  have h : suV (l.take 0) = 0#15 := by rw [List.take_zero]; rfl
  unfold refF
  rw [h, BitVec.getMsbD_zero]; simp

theorem refF_at {l : List Bool} {i : Nat} {x : Bool} (h : l[i]? = some x) : refF l i i = ((suV (l.take i)).msb != x) := by
  unfold refF
  rw [h, Nat.sub_self, Option.getD_some, BitVec.msb_eq_getMsbD_zero]

theorem refF_step {l : List Bool} {i j : Nat} {x : Bool} (h : l[i]? = some x) (hj : i + 1 ≤ j) : refF l (i + 1) j = (refF l i j != (refF l i i && pol (j - i))) := by
  have h1 : ∀ s : BitVec 15, (s <<< 1).getMsbD (j - (i + 1)) = s.getMsbD (j - i) := fun s => by
    rw [BitVec.getMsbD_shiftLeft]; congr 1; omega
  have h2 : pol (j - i) = (0x4599#15).getMsbD (j - (i + 1)) := by
    unfold pol
    rw [show (j - i == 0) = false from by simp; omega, Bool.false_or, show j - i - 1 = j - (i + 1) from by omega]
  rw [refF_at h, h2]
  unfold refF
  rw [take_snoc h, suV_snoc]
  unfold nxV
  rw [BitVec.getMsbD_xor, h1]
  cases (suV (l.take i)).msb != x
  · simp
  · simp only [if_true, Bool.true_and]
    cases (suV (l.take i)).getMsbD (j - i) <;> cases (0x4599#15).getMsbD (j - (i + 1)) <;> cases l[j]?.getD false <;> rfl

theorem refF_end {l : List Bool} {j : Nat} (h : l.length ≤ j) : refF l l.length j = (suV l).getMsbD (j - l.length) := by
  unfold refF
  rw [List.take_length, List.getElem?_eq_none h]; simp

theorem biV_get (s : BitVec 15) {t : Nat} (h : t < 15) : (biV s)[t]? = some (s.getMsbD t) := by
  unfold biV
  rw [ofL_get _ _ _ h, BitVec.testBit_toNat]
  unfold BitVec.getMsbD
  simp [h]

theorem numL_biV (s : BitVec 15) : numL (biV s) = s.toNat := by
  unfold biV
  rw [numL_ofL, Nat.mod_eq_of_lt s.isLt]

/-- The polynomial as the cells of an array. -/
def polA : Array Value := #[.bool true, .bool true, .bool false, .bool false, .bool false, .bool true, .bool false, .bool true, .bool true, .bool false, .bool false, .bool true, .bool true, .bool false, .bool false, .bool true]

theorem polA_get : ∀ k, k < 16 → polA[k]? = some (.bool (pol k)) := by
  intro k hk
  match k, hk with
  | 0, _ => rfl
  | 1, _ => rfl
  | 2, _ => rfl
  | 3, _ => rfl
  | 4, _ => rfl
  | 5, _ => rfl
  | 6, _ => rfl
  | 7, _ => rfl
  | 8, _ => rfl
  | 9, _ => rfl
  | 10, _ => rfl
  | 11, _ => rfl
  | 12, _ => rfl
  | 13, _ => rfl
  | 14, _ => rfl
  | 15, _ => rfl
  | k + 16, h => exact absurd h (by omega)

section
variable {w wr : World} {g c N : Nat} {F F' : Nat → Bool} {lo lo' : Nat}
end

theorem pol_far {t : Nat} (h : 16 ≤ t) : pol t = false := by
  unfold pol BitVec.getMsbD
  rw [show (t == 0) = false from by simp; omega, decide_eq_false (by omega)]; rfl

theorem half_lt {s : BitVec 15} {t : Nat} (h : t < 15) : numL ((biV s).take t) < 16384 := by
  have h1 := numL_lt ((biV s).take t)
  rw [List.length_take] at h1
  exact Nat.lt_of_lt_of_le h1 (Nat.pow_le_pow_right (n := 2) (j := 14) (by decide) (by omega))

theorem biV_length (s : BitVec 15) : (biV s).length = 15 := by simp [biV]

end Go.Proofs.YtgpmhmdofefdcaaGreat

namespace Go.Proofs.YtgpmhmdofefdcaaGreat
open Go.RowKit
set_option linter.unusedVariables false

theorem ofL_take_succ (x m j : Nat) (h : j < m) : (ofL x m).take (j + 1) = (ofL x m).take j ++ [x.testBit (m - 1 - j)] := take_snoc (ofL_get x m j h)

theorem obL_take_chunk (l : List UInt8) (k : Nat) (x : UInt8) (h : l[k]? = some x) : (obL l).take (8 * (k + 1)) = (obL l).take (8 * k) ++ ofL x.toNat 8 := by
  rw [← obL_chunk l k x h, show 8 * (k + 1) = 8 * k + 8 from by omega, List.take_add]

theorem drop_chunk {α : Type} (l : List α) (m n : Nat) : (l.take (m + n)).drop m = (l.drop m).take n := by
  rw [List.drop_take, Nat.add_sub_cancel_left]

theorem chunk_len {l : List Bool} {i : Nat} (h : i < l.length / 8) : ((l.drop (8 * i)).take 8).length = 8 := by simp; omega

theorem u8_of_num (m : Nat) : (Value.int .u8 (((m % 4294967296 : Nat) : Int) % 256)) = bv (UInt8.ofNat m) := by
  unfold bv
  congr 1
  simp

end Go.Proofs.YtgpmhmdofefdcaaGreat

namespace Go.Proofs.YtgpmhmdofefdcaaGreat
open Go.RowKit Go.Sort
set_option linter.unusedVariables false

/-- How many bytes a frame has. -/
def lonF (rem : Bool) (dlc : Nat) : Nat := if rem then 0 else min dlc 8

/-- Whether a frame with n bytes is right. -/
def riF (id : Nat) (ext rem : Bool) (dlc n : Nat) : Bool := decide (id ≤ if ext then 536870911 else 2047) && decide (dlc ≤ 15) && decide (n = lonF rem dlc)

/-- A frame that was laid in a new box: its cells, in every world that has only grown and drawn since. -/
theorem boxed (w : World) (E : TypeId) (v0 v1 v2 v3 v4 : Value) : ∃ w0, Hid (w.alloc (.cells #[v0, v1, v2, v3, v4] E) = w0) ∧ w0.heap[w.heap.size]? = some (.cells #[v0, v1, v2, v3, v4] E (0, 0)) ∧
    (∀ d os, (grow (redrawn w0 d) os).cell? ⟨w.heap.size, 0, none⟩ = some v0) ∧ (∀ d os, (grow (redrawn w0 d) os).cell? ⟨w.heap.size, 1, none⟩ = some v1) ∧ (∀ d os, (grow (redrawn w0 d) os).cell? ⟨w.heap.size, 2, none⟩ = some v2) ∧
    (∀ d os, (grow (redrawn w0 d) os).cell? ⟨w.heap.size, 3, none⟩ = some v3) ∧ (∀ d os, (grow (redrawn w0 d) os).cell? ⟨w.heap.size, 4, none⟩ = some v4) ∧ Below w.heap.size w w0 := by
  have h := heap_alloc_new w (.cells #[v0, v1, v2, v3, v4] E)
  obtain ⟨k0, k1, k2, k3, k4⟩ := bx5 h
  exact ⟨_, rfl, h, fun d os => cell_regrown k0 d os, fun d os => cell_regrown k1 d os, fun d os => cell_regrown k2 d os, fun d os => cell_regrown k3 d os, fun d os => cell_regrown k4 d os, bnew0 _ _⟩

theorem frLong_any (w : World) (id : Nat) (ext rem : Bool) (dlc : Nat) (a : Option Addr) (n c : Nat) (hd : dlc < 256) :
    Calls Tryz.prog 14 #[.agg #[.int .u32 (id : Int), .bool ext, .bool rem, .int .u8 (dlc : Int), .slice a n c]] w fun e w' => e = .returned (.int .i64 (lonF rem dlc : Int)) ∧ Below w.heap.size w w' := by
  obtain ⟨p, hp⟩ : ∃ p, p = min dlc 8 := ⟨_, rfl⟩
  have hp8 : p ≤ 8 := by omega
  have hmin : ∀ (ts : Array TypeId) (t : TypeId) (w' : World), (Builtin.min_ ts t #[.int .u8 (dlc : Int), .int .u8 8]).run Tryz.prog w' = .ok (.int .u8 (p : Int)) w' := fun ts t w' => by
    rw [run_min_int2]; congr 2; split <;> omega
  cases rem
  · have hl : lonF false dlc = p := by rw [hp]; rfl
    rw [hl]
    clear hl hp
    go_enter Tryz.func14, Tryz.ntmps14
    go_wp2
    go_ret
    exact ⟨rfl, bnew0 _ _⟩
  · go_enter Tryz.func14, Tryz.ntmps14
    go_wp2
    go_ret
    exact ⟨rfl, bnew0 _ _⟩

end Go.Proofs.YtgpmhmdofefdcaaGreat

namespace Go.Proofs.YtgpmhmdofefdcaaGreat
open Go.RowKit Go.Sort
set_option linter.unusedVariables false

/-- The first part of a head. -/
def conL (id : Nat) (ext rem : Bool) : List Bool := if ext then [false] ++ ofL (id / 262144) 11 ++ [true, true] ++ ofL id 18 ++ [rem] else [false] ++ ofL id 11 ++ [rem, false]

/-- A head. -/
def heL (id : Nat) (ext rem : Bool) (dlc : Nat) : List Bool := conL id ext rem ++ [false] ++ (if ext then [false] else []) ++ ofL dlc 4

def conN (ext : Bool) : Nat := if ext then 33 else 14
def heN (ext : Bool) : Nat := if ext then 39 else 19

theorem conL_length (id : Nat) (ext rem : Bool) : (conL id ext rem).length = conN ext := by cases ext <;> simp [conL, conN]
theorem heL_length (id : Nat) (ext rem : Bool) (dlc : Nat) : (heL id ext rem dlc).length = heN ext := by cases ext <;> simp [heL, conL, heN]

theorem clamp_11 : clampM 11 = 11 := by decide
theorem clamp_18 : clampM 18 = 18 := by decide
theorem clamp_4 : clampM 4 = 4 := by decide

/-- A row that grows beside a box that was laid first. -/
structure St (w w' : World) (a : Option Addr) (n c : Nat) (l : List Bool) (bx : Array Value) (T : TypeId) : Prop where
  row : OL .bool 4 (w.heap.size + 1) w' a n c l
  box : w'.heap[w.heap.size]? = some (.cells bx T (0, 0))
  bel : Below w.heap.size w w'
  siz : w.heap.size + 1 ≤ w'.heap.size

section
variable {w w' w'' : World} {a a' : Option Addr} {n c n' c' : Nat} {l l' : List Bool} {bx : Array Value} {T : TypeId}
theorem St.call (h : St w w' a n c l bx T) (g : Below w'.heap.size w' w'') : St w w'' a n c l bx T := ⟨h.row.below g, bx_below h.box g, bstep h.bel g, Nat.le_trans h.siz g.size⟩
theorem St.alloc (h : St w w' a n c l bx T) (o : Obj) : St w (w'.alloc o) a n c l bx T := ⟨h.row.alloc o, bx_alloc o h.box, bnew h.bel o, by simp; have := h.siz; omega⟩
theorem St.app (h : St w w' a n c l bx T) (hol : OL .bool 4 (w.heap.size + 1) w'' a' n' c' l') (g : Below (w.heap.size + 1) w' w'') : St w w'' a' n' c' l' bx T :=
  ⟨hol, by rw [g.block _ (Nat.lt_succ_self _)]; exact h.box, h.bel.trans (g.mono (by omega)), Nat.le_trans h.siz g.size⟩
theorem St.lit (w : World) (bx : Array Value) (T : TypeId) (b : Bool) : St w ((w.alloc (.cells bx T)).alloc (.cells #[.bool b] 4)) (some ⟨w.heap.size + 1, 0, none⟩) 1 1 [b] bx T := by
  have h1 := ol_lit Value.bool 4 (w.heap.size + 1) (w.alloc (.cells bx T)) [b] #[.bool b] 1 rfl rfl (by omega) (by simp)
  rw [heap_size_alloc] at h1
  exact ⟨h1, bx_alloc _ (heap_alloc_new w _), bnew (bnew0 _ _) _, by simp⟩
theorem St.ol (h : St w w' a n c l bx T) : OL .bool 4 w.heap.size w' a n c l := h.row.mono (by omega)
end

theorem lit1 (w : World) (x : Bool) : RL .bool (w.alloc (.cells #[.bool x] 4)) (some ⟨w.heap.size, 0, none⟩) 1 1 [x] := (ol_lit Value.bool 4 w.heap.size w [x] #[.bool x] 1 rfl rfl (by omega) (Nat.le_refl _)).rl
theorem lit2 (w : World) (x y : Bool) : RL .bool (w.alloc (.cells #[.bool x, .bool y] 4)) (some ⟨w.heap.size, 0, none⟩) 2 2 [x, y] := (ol_lit Value.bool 4 w.heap.size w [x, y] #[.bool x, .bool y] 2 rfl rfl (by omega) (Nat.le_refl _)).rl
theorem lit3 (w : World) (x y z : Bool) : RL .bool (w.alloc (.cells #[.bool x, .bool y, .bool z] 4)) (some ⟨w.heap.size, 0, none⟩) 3 3 [x, y, z] := (ol_lit Value.bool 4 w.heap.size w [x, y, z] #[.bool x, .bool y, .bool z] 3 rfl rfl (by omega) (Nat.le_refl _)).rl

theorem contest_any (w : World) (id : Nat) (ext rem : Bool) (dlc : Nat) (a : Option Addr) (n c : Nat) (hi : id < 4294967296) :
    Calls Tryz.prog 39 #[.agg #[.int .u32 (id : Int), .bool ext, .bool rem, .int .u8 (dlc : Int), .slice a n c]] w fun e w' => ∃ a' c', e = .returned (.slice a' (conN ext) c') ∧ OL .bool 4 w.heap.size w' a' (conN ext) c' (conL id ext rem) ∧ Below w.heap.size w w' := by
  cases ext
  · go_enter Tryz.func39, Tryz.ntmps39
    go_wp2_with (first
      | (go_at_call 51; (with_reducible refine (of_any _ id 11 hi (by omega)).mono ?_); rw [clamp_11]; rintro e w2 ⟨a2, c2, rfl, hol2, g2⟩; have st2 := (St.lit w _ 26 false).call g2; obtain ⟨_, _, k2, _, _⟩ := bx5 st2.box; clear k2; have hs2 := st2.siz)
      | (at_builtin; refine wpList_app (f := Value.bool) (B := w.heap.size + 1) (w := w2) tB rfl _ _ rfl rfl st2.row rfl hol2.rl (fun _ => rfl) (by omega) (by omega) (by omega) ?_; intro w3 a3 c3 hol3 g3; have st3 := st2.app hol3 g3; obtain ⟨_, _, k2, _, _⟩ := bx5 st3.box; have hs3 := st3.siz)
      | (at_builtin; refine wpList_app (f := Value.bool) (B := w.heap.size + 1) tB rfl _ _ rfl rfl (st3.alloc _).row rfl (lit2 w3 rem false) (fun _ => rfl) (by omega) (by omega) (by simp; omega) ?_; intro w4 a4 c4 hol4 g4; have st4 := (st3.alloc _).app hol4 g4))
    go_ret
    exact ⟨_, _, rfl, st4.ol, st4.bel⟩
  · obtain ⟨y, hy⟩ : ∃ y, y = id / 262144 := ⟨_, rfl⟩
    have hi2 : y < 4294967296 := by omega
    have hsh : Op.shift .shr .u32 (id : Int) .u64 18 = pure (.int .u32 (y : Int)) := by
      rw [shift_shr_any _ _ _ _ (by omega), hy]
      rfl
    have HY : Hid (conL id true rem = [false] ++ ofL y 11 ++ [true, true] ++ ofL id 18 ++ [rem]) := by show _ = _; rw [hy]; rfl
    rw [HY.out]
    clear hy
    go_enter Tryz.func39, Tryz.ntmps39
    go_wp2_with (first
      | (go_at_call 51; (with_reducible refine (of_any _ y 11 hi2 (by omega)).mono ?_); rw [clamp_11]; rintro e w2 ⟨a2, c2, rfl, hol2, g2⟩; have st2 := (St.lit w _ 26 false).call g2; have hs2 := st2.siz)
      | (at_builtin; refine wpList_app (f := Value.bool) (B := w.heap.size + 1) (w := w2) tB rfl _ _ rfl rfl st2.row rfl hol2.rl (fun _ => rfl) (by omega) (by omega) (by omega) ?_; intro w3 a3 c3 hol3 g3; have st3 := st2.app hol3 g3; have hs3 := st3.siz)
      | (at_builtin; refine wpList_app (f := Value.bool) (B := w.heap.size + 1) tB rfl _ _ rfl rfl (st3.alloc _).row rfl (lit2 w3 true true) (fun _ => rfl) (by omega) (by omega) (by simp; omega) ?_; intro w4 a4 c4 hol4 g4; have st4 := (st3.alloc _).app hol4 g4; obtain ⟨k0, _, _, _, _⟩ := bx5 st4.box)
      | (go_at_call 51; (with_reducible refine (of_any w4 id 18 hi (by omega)).mono ?_); rw [clamp_18]; rintro e w5 ⟨a5, c5, rfl, hol5, g5⟩; have st5 := st4.call g5; have hs5 := st5.siz)
      | (at_builtin; refine wpList_app (f := Value.bool) (B := w.heap.size + 1) (w := w5) tB rfl _ _ rfl rfl st5.row rfl hol5.rl (fun _ => rfl) (by omega) (by omega) (by omega) ?_; intro w6 a6 c6 hol6 g6; have st6 := st5.app hol6 g6; obtain ⟨_, _, k2, _, _⟩ := bx5 st6.box; have hs6 := st6.siz)
      | (at_builtin; refine wpList_app (f := Value.bool) (B := w.heap.size + 1) tB rfl _ _ rfl rfl (st6.alloc _).row rfl (lit1 w6 rem) (fun _ => rfl) (by omega) (by omega) (by simp; omega) ?_; intro w7 a7 c7 hol7 g7; have st7 := (st6.alloc _).app hol7 g7))
    go_ret
    exact ⟨_, _, rfl, st7.ol, st7.bel⟩

theorem head_any (w : World) (id : Nat) (ext rem : Bool) (dlc : Nat) (a : Option Addr) (n c : Nat) (hi : id < 4294967296) (hd : dlc < 256) :
    Calls Tryz.prog 45 #[.agg #[.int .u32 (id : Int), .bool ext, .bool rem, .int .u8 (dlc : Int), .slice a n c]] w fun e w' => ∃ a' c', e = .returned (.slice a' (heN ext) c') ∧ OL .bool 4 w.heap.size w' a' (heN ext) c' (heL id ext rem dlc) ∧ Below w.heap.size w w' := by
  cases ext
  · have hc : ∀ w0, Calls Tryz.prog 39 #[.agg #[.int .u32 (id : Int), .bool false, .bool rem, .int .u8 (dlc : Int), .slice a n c]] w0 fun e w' => ∃ a' c', e = .returned (.slice a' (14) c') ∧ OL .bool 4 w0.heap.size w' a' (14) c' (conL id false rem) ∧ Below w0.heap.size w0 w' := fun w0 => contest_any w0 id false rem dlc a n c hi
    go_enter Tryz.func45, Tryz.ntmps45
    go_wp2_with (first
      | (go_at_call 39; refine (hc _).mono ?_; rintro e w2 ⟨a2, c2, rfl, hol2, g2⟩; have st2 : St w w2 a2 14 c2 (conL id false rem) _ _ := ⟨by simpa using hol2, bx_below (heap_alloc_new w _) g2, bstep (bnew0 _ _) g2, by have := g2.size; simp at this; omega⟩; have hs2 := st2.siz; clear hol2 g2)
      | (at_builtin; refine wpList_app (f := Value.bool) (B := w.heap.size + 1) tB rfl _ _ rfl rfl (st2.alloc _).row rfl (lit1 w2 false) (fun _ => rfl) (by omega) (by omega) (by simp; omega) ?_; intro w3 a3 c3 hol3 g3; have st3 := (st2.alloc _).app hol3 g3; obtain ⟨_, k1, _, k3, _⟩ := bx5 st3.box; have hs3 := st3.siz)
      | (go_at_call 51; (with_reducible refine (of_any w3 dlc 4 (by omega) (by omega)).mono ?_); rw [clamp_4]; rintro e w5 ⟨a5, c5, rfl, hol5, g5⟩; have st5 := st3.call g5; have hs5 := st5.siz)
      | (at_builtin; refine wpList_app (f := Value.bool) (B := w.heap.size + 1) (w := w5) tB rfl _ _ rfl rfl st5.row rfl hol5.rl (fun _ => rfl) (by omega) (by omega) (by omega) ?_; intro w6 a6 c6 hol6 g6; have st6 := st5.app hol6 g6))
    go_ret
    exact ⟨_, _, rfl, st6.ol, st6.bel⟩
  · have hc : ∀ w0, Calls Tryz.prog 39 #[.agg #[.int .u32 (id : Int), .bool true, .bool rem, .int .u8 (dlc : Int), .slice a n c]] w0 fun e w' => ∃ a' c', e = .returned (.slice a' (33) c') ∧ OL .bool 4 w0.heap.size w' a' (33) c' (conL id true rem) ∧ Below w0.heap.size w0 w' := fun w0 => contest_any w0 id true rem dlc a n c hi
    go_enter Tryz.func45, Tryz.ntmps45
    go_wp2_with (first
      | (go_at_call 39; refine (hc _).mono ?_; rintro e w2 ⟨a2, c2, rfl, hol2, g2⟩; have st2 : St w w2 a2 33 c2 (conL id true rem) _ _ := ⟨by simpa using hol2, bx_below (heap_alloc_new w _) g2, bstep (bnew0 _ _) g2, by have := g2.size; simp at this; omega⟩; have hs2 := st2.siz; clear hol2 g2)
      | (at_builtin; refine wpList_app (f := Value.bool) (B := w.heap.size + 1) tB rfl _ _ rfl rfl (st2.alloc _).row rfl (lit1 w2 false) (fun _ => rfl) (by omega) (by omega) (by simp; omega) ?_; intro w3 a3 c3 hol3 g3; have st3 := (st2.alloc _).app hol3 g3; obtain ⟨_, k1, _, k3, _⟩ := bx5 st3.box; have hs3 := st3.siz)
      | (at_builtin; refine wpList_app (f := Value.bool) (B := w.heap.size + 1) tB rfl _ _ rfl rfl (st3.alloc _).row rfl (lit1 w3 false) (fun _ => rfl) (by omega) (by omega) (by simp; omega) ?_; intro w4 a4 c4 hol4 g4; have st4 := (st3.alloc _).app hol4 g4; obtain ⟨_, k1', _, k3', _⟩ := bx5 st4.box; have hs4 := st4.siz)
      | (go_at_call 51; (with_reducible refine (of_any w4 dlc 4 (by omega) (by omega)).mono ?_); rw [clamp_4]; rintro e w5 ⟨a5, c5, rfl, hol5, g5⟩; have st5 := st4.call g5; have hs5 := st5.siz)
      | (at_builtin; refine wpList_app (f := Value.bool) (B := w.heap.size + 1) (w := w5) tB rfl _ _ rfl rfl st5.row rfl hol5.rl (fun _ => rfl) (by omega) (by omega) (by omega) ?_; intro w6 a6 c6 hol6 g6; have st6 := st5.app hol6 g6))
    go_ret
    exact ⟨_, _, rfl, st6.ol, st6.bel⟩
end Go.Proofs.YtgpmhmdofefdcaaGreat

namespace Go.Proofs.YtgpmhmdofefdcaaGreat
open Go.RowKit Go.Sort
set_option linter.unusedVariables false

/-- A row whose bits were there at w0 lies in block g. -/
def Rw (w0 w : World) (g : Nat) (l : List Bool) : Prop := ∃ a n c, w.heap[g]? = some (.cells #[.slice a n c] 149 (0, 0)) ∧ RL .bool w0 a n c l

theorem Rw.grown {w0 w w' : World} {g : Nat} {l : List Bool} (h : Rw w0 w g l) (he : w'.heap[g]? = w.heap[g]?) : Rw w0 w' g l := by
  obtain ⟨a, n, c, hb, hr⟩ := h
  exact ⟨a, n, c, by rw [he]; exact hb, hr⟩

theorem one_bx' {w : World} {g : Nat} {E : TypeId} {v0 : Value} (h : w.heap[g]? = some (.cells #[v0] E (0, 0))) : w.cell? ⟨g, 0, none⟩ = some v0 ∧ w.frozen? ⟨g, 0, none⟩ = false :=
  ⟨by rw [cell_of_row w g 0 _ _ _ h]; rfl, frozen_of_row w g 0 _ _ h⟩

theorem rtake_any (w0 w : World) (g : Nat) (l : List Bool) (m : Nat) (hg : w0.heap.size ≤ g) (hb : Below w0.heap.size w0 w) (hr : Rw w0 w g l) (hm : m ≤ l.length) (hm1 : m ≤ 1000) :
    Calls Tryz.prog 108 #[.pointer (some ⟨g, 0, none⟩), .int .i64 (m : Int)] w fun e w' => e = .returned (.int .u32 ((numL (l.take m) % 4294967296 : Nat) : Int)) ∧ Rw w0 w' g (l.drop m) ∧ w.grownBy w' (some g) := by
  obtain ⟨a, n, c, hbx, hrl⟩ := hr
  obtain ⟨c0, f0⟩ := one_bx' hbx
  have hmn : m ≤ n := by rw [← hrl.len]; exact hm
  have hlt := bx_lt hbx
  have hw := hrl.below hb
  obtain ⟨v, hv⟩ : ∃ v, v = numL (l.take m) % 4294967296 := ⟨_, rfl⟩
  rw [← hv]
  have HV := hid hv; clear hv
  obtain ⟨a1, p1, p2, hr1⟩ := run_cutTo tB hrl .i64 m hmn
  obtain ⟨a2, c2, p3, p4, hr2⟩ := run_cutFrom tB hrl .i64 m hmn
  have hw1 := hr1.below hb
  have HR2 := hid hr2; clear hr2
  clear hrl hr1 hw
  go_enter Tryz.func108, Tryz.ntmps108
  go_wp2_with (first
    | (go_at_call 107; refine (number_any w a1 m c _ hw1 (by omega)).mono ?_; rw [← HV.out]; rintro e w2 ⟨rfl, rfl⟩))
  go_ret
  refine ⟨rfl, ⟨a2, n - m, c2, heap_setCell_same _ g 0 _ _ _ hbx, HR2.out⟩, rfl, rfl, rfl, by simp, fun q h1 h2 => Below.heap_setCell _ _ _ _ (by simpa using h2)⟩
end Go.Proofs.YtgpmhmdofefdcaaGreat
