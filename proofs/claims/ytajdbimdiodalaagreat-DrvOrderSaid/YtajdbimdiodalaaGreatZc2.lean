/-
  Texts of this place, put together: B3, B4j, B4n, B4e, M4, B4r. What stands here is used by the statement; conditions: none of their own.
-/
import Derived.Test.YtajdbimdiodalaaGreatZc1
import Derived.WalkSmall
import Derived.Laws.BitsAllLaws
import Derived.RangeFuncNested
import Derived.RangeFuncBound
import Derived.RangeFuncCalls
import Derived.RangeFuncLeaves
import Derived.Shelf.Abstract
import Derived.Shelf.RegionOpen
import Derived.OwnWalkIn
import Derived.TacticsInMore
import Derived.LoopNIn
import Derived.LoopIn
import Derived.BigGuard
import Derived.Deep.Light
import Derived.Lib.QuietBelow
import Derived.Deep.RegionLaw
import Derived.Deep.CutRange
import Derived.Deep.DeepCutAuto
import Derived.StillTailTactics
namespace Go.Proofs.YtajdbimdiodalaaGreat
open Go.RowKit
set_option linter.unusedVariables false

theorem owed_five (w : World) (b : Bool) :
    Calls Tryz.prog 172 #[.agg #[.bool b, .int .u8 5]] w fun e w' => e = .returned (.tuple #[.bool (!b), .bool true]) ∧ Below w.heap.size w w' := by
  have := owed_any w b 5 (by omega)
  simpa using this

theorem owed_none (w : World) (b : Bool) (m : Nat) (hm : m < 256) (h5 : m ≠ 5) :
    Calls Tryz.prog 172 #[.agg #[.bool b, .int .u8 (m : Int)]] w fun e w' => e = .returned (.tuple #[.bool false, .bool false]) ∧ Below w.heap.size w w' := by
  have := owed_any w b m hm
  simpa [h5] using this

theorem next_five (w : World) (b : Bool) :
    Calls Tryz.prog 204 #[.agg #[.bool b, .int .u8 5], .bool (!b)] w fun e w' => e = .returned (.tuple #[.agg #[.bool (!b), .int .u8 1], .int .u8 1]) ∧ Below w.heap.size w w' := by
  have := next_any w b 5 (!b) ⟨by omega, by omega⟩
  rw [nxt_owed] at this
  exact this

theorem drop_at {l : List Bool} {k : Nat} {x : Bool} (h : l[k]? = some x) : l.drop k = x :: l.drop (k + 1) := by
  obtain ⟨h1, h2⟩ := List.getElem?_eq_some_iff.1 h
  rw [List.drop_eq_getElem_cons h1, h2]

theorem put_any (w : World) (a : Option Addr) (n c : Nat) (l : List Bool) (h : RL .bool w a n c l) (hn : n ≤ 100000) :
    Calls Tryz.prog 184 #[.slice a n c] w fun e w' => ∃ a' c', e = .returned (.slice a' (putL l).length c') ∧ OL .bool 4 w.heap.size w' a' (putL l).length c' (putL l) ∧ Below w.heap.size w w' := by
  have hlen := hid (putL_len l)
  go_enter Tryz.func184, Tryz.ntmps184
  go_wp2_with (at_make; refine wpList_mk0 (f := Value.bool) (n := n + n / 4) tB rfl _ _ rfl _ _ _ rfl rfl (by omega) (by omega) (by omega) ?_; intro w1 hown hb1 hs1; obtain ⟨g, hg⟩ : ∃ g, g = w.heap.size + 1 := ⟨_, rfl⟩; rw [← hg] at hs1; have HG := hid hg; clear hg)
  have H0 := hid hown; clear hown
  go_loopw [3, 18] (fun v i wr => ∃ (k m : Nat) (b : Bool) (out : List Bool) (a' : Option Addr) (c' : Nat), k ≤ n ∧ i = .int .i64 k ∧ v = .slice a' out.length c' ∧ OL .bool 4 w.heap.size wr a' out.length c' out ∧
      wr.heap[g]? = some (.cells #[.bool b, .int .u8 (m : Int)] 38 (0, 0)) ∧ NB a' g ∧ Below w.heap.size w wr ∧ rightA b m ∧ m ≤ 4 ∧ out ++ putF b m (l.drop k) = putL l) (fun _ i _ => n - (intOf i).toNat)
  case atStart => exact ⟨0, 0, false, [], _, _, Nat.zero_le _, rfl, rfl, H0.out.alloc _, by rw [← hs1]; exact heap_alloc_new _ _, NB.at (by have := HG.out; omega), bnew hb1 _, ⟨by omega, fun _ => rfl⟩, by omega, by rw [List.drop_zero]; rfl⟩
  case round =>
    obtain ⟨k, m, b, out, a', c', hk, rfl, rfl, hol, hbx, hnb, hb, hr, hm4, hspec⟩ := hrel
    have HS := hid hspec; clear hspec
    have hlo : out.length ≤ 200000 := by
      have h1 := hlen.out
      have h2 : out.length ≤ (putL l).length := by rw [← HS.out, List.length_append]; omega
      rw [h.len] at h1
      omega
    have HR := hid hr; clear hr
    by_cases hlt : k < n
    · have hrr := h.below hb
      obtain ⟨b0, off, x, rfl, hx, hck⟩ := hrr.at hlt
      have HX := hid hx; clear hx hrr
      have hs := hb.size
      have hgl := bx_lt hbx
      obtain ⟨b1, hb1'⟩ : ∃ b1, b1 = (nxt b m x).1.1 := ⟨_, rfl⟩
      obtain ⟨m1, hm1⟩ : ∃ m1, m1 = (nxt b m x).1.2 := ⟨_, rfl⟩
      obtain ⟨kd, hkd⟩ : ∃ kd, kd = (nxt b m x).2 := ⟨_, rfl⟩
      have hm15 : m1 ≤ 5 := by rw [hm1]; exact (nxt_right HR.out).1.1
      have HB1 := hid hb1'; have HM1 := hid hm1; have HKD := hid hkd
      clear hb1' hm1 hkd
      by_cases h5 : m1 = 5
      · obtain ⟨e1, e2⟩ := nxt_five hm4 (HM1.out.symm.trans h5)
        have hb1x : b1 = x := by rw [HB1.out, e1]
        have hn5 : Hid (nxt b m x = ((x, 5), 0)) := e1
        subst h5
        subst hb1x
        clear HB1 HM1 HKD e1 e2
        go_wp2_with (first
          | (at_builtin; refine wpList_appg (f := Value.bool) tB rfl _ _ rfl rfl (hol.alloc _) rfl (ol_lit Value.bool _ w.heap.size wr [b1] _ 1 rfl rfl (by omega) hs).rl (by omega) (fun _ => rfl) (by omega) (by omega) (by simp; omega) ?_; intro w2 a2 c2 hol2 hb2 hk2 hs2; have hs2' : w.heap.size + 1 ≤ w2.heap.size := by { rw [heap_size_alloc] at hs2; omega }; have hbx2 : w2.heap[g]? = _ := ((hk2 g (by simp; omega) hnb).1).trans (bx_alloc _ hbx); have hnb2 := (hk2 g (by simp; omega) hnb).2; obtain ⟨c0, c1, f0, f1⟩ := bx hbx2)
          | (go_at_call 204; (with_reducible refine (next_any w2 b m b1 HR.out).mono ?_); rw [hn5.out]; rintro e w3 ⟨rfl, g3⟩; have hbx3 := bx_below hbx2 g3; obtain ⟨d0, d1, k0, k1⟩ := bx hbx3)
          | (go_at_call 172; refine (owed_five _ b1).mono ?_; rintro e w4 ⟨rfl, g4⟩; have hbx4 := bx_below (bx_set (.bool b1) (.int .u8 5) hbx3) g4; have hol4 := ((hol2.below g3).box hnb2 (.bool b1) (.int .u8 5)).below g4; have hs4 : w.heap.size + 1 ≤ w4.heap.size := by { have h1 := g4.size; have h2 := g3.size; simp at h1; omega }; have hb4 : Below w.heap.size w w4 := (((hb.alloc hs _).trans hb2).trans (((g3.mono (by omega)).setCell (by show w.heap.size ≤ g; have := HG.out; omega) _).setCell (by show w.heap.size ≤ g; have := HG.out; omega) _)).trans (g4.mono (by simp; have := g3.size; omega)))
          | (at_builtin; refine wpList_appg (f := Value.bool) tB rfl _ _ rfl rfl (hol4.alloc _) rfl (ol_lit Value.bool _ w.heap.size w4 [!b1] _ 1 rfl rfl (by omega) (by omega)).rl (by omega) (fun _ => rfl) (by omega) (by omega) (by simp; omega) ?_; intro w5 a5 c5 hol5 hb5 hk5 hs5; have hs5' : w.heap.size + 1 ≤ w5.heap.size := by { rw [heap_size_alloc] at hs5; omega }; have hbx5 : w5.heap[g]? = _ := ((hk5 g (by simp; have := bx_lt hbx4; omega) hnb2).1).trans (bx_alloc _ hbx4); have hnb5 := (hk5 g (by simp; have := bx_lt hbx4; omega) hnb2).2; obtain ⟨p0, p1, q0, q1⟩ := bx hbx5)
          | (go_at_call 204; (with_reducible refine (next_five w5 b1).mono ?_); rintro e w6 ⟨rfl, g6⟩; have hbx6 := bx_below hbx5 g6; obtain ⟨r0, r1, t0, t1⟩ := bx hbx6))
        go_roundw
        case rel =>
          refine ⟨k + 1, 1, !b1, out ++ [b1] ++ [!b1], a5, c5, by omega, by go_num, by simp, by simpa using (hol5.below g6).box hnb5 _ _, bx_set _ _ hbx6, hnb5, ?_, ⟨by omega, by omega⟩, by omega, ?_⟩
          · exact ((hb4.alloc (by omega) _).trans hb5).trans (((g6.mono (by omega)).setCell (by show w.heap.size ≤ g; have := HG.out; omega) _).setCell (by show w.heap.size ≤ g; have := HG.out; omega) _)
          · rw [← HS.out, drop_at HX.out, putF, if_pos (by rw [hn5.out])]; simp
        case measure => simp [intOf]; omega
      · have hm14 : m1 ≤ 4 := by omega
        go_wp2_with (first
          | (at_builtin; refine wpList_appg (f := Value.bool) tB rfl _ _ rfl rfl (hol.alloc _) rfl (ol_lit Value.bool _ w.heap.size wr [x] _ 1 rfl rfl (by omega) hs).rl (by omega) (fun _ => rfl) (by omega) (by omega) (by simp; omega) ?_; intro w2 a2 c2 hol2 hb2 hk2 hs2; have hs2' : w.heap.size + 1 ≤ w2.heap.size := by { rw [heap_size_alloc] at hs2; omega }; have hbx2 : w2.heap[g]? = _ := ((hk2 g (by simp; omega) hnb).1).trans (bx_alloc _ hbx); have hnb2 := (hk2 g (by simp; omega) hnb).2; obtain ⟨c0, c1, f0, f1⟩ := bx hbx2)
          | (go_at_call 204; refine (next_any w2 b m x HR.out).mono ?_; rw [← HB1.out, ← HM1.out, ← HKD.out]; rintro e w3 ⟨rfl, g3⟩; have hbx3 := bx_below hbx2 g3; obtain ⟨d0, d1, k0, k1⟩ := bx hbx3)
          | (go_at_call 172; refine (owed_none _ b1 m1 (by omega) h5).mono ?_; rintro e w4 ⟨rfl, g4⟩; have hbx4 := bx_below (bx_set (.bool b1) (.int .u8 (m1 : Int)) hbx3) g4))
        go_roundw
        case rel =>
          refine ⟨k + 1, m1, b1, out ++ [x], a2, c2, by omega, by go_num, by simp, by simpa using ((hol2.below g3).box hnb2 _ _).below g4, hbx4, hnb2, ?_, ?_, hm14, ?_⟩
          · exact (((hb.alloc hs _).trans hb2).trans (((g3.mono (by omega)).setCell (by show w.heap.size ≤ g; have := HG.out; omega) _).setCell (by show w.heap.size ≤ g; have := HG.out; omega) _)).trans (g4.mono (by simp; have := g3.size; omega))
          · rw [HB1.out, HM1.out]; exact (nxt_right HR.out).1
          · rw [← HS.out, drop_at HX.out, putF, if_neg (by rw [← HM1.out]; exact h5), ← HB1.out, ← HM1.out]; simp
        case measure => simp [intOf]; omega
    · obtain rfl : k = n := by omega
      have hout : Hid (out = putL l) := by
        have e := HS.out
        rw [List.drop_eq_nil_of_le (by rw [h.len]; omega)] at e
        show out = putL l
        simpa [putF] using e
      go_wp2
      go_ret
      have e := hout.out
      subst e
      exact ⟨a', c', rfl, hol, hb⟩

end Go.Proofs.YtajdbimdiodalaaGreat

namespace Go.Proofs.YtajdbimdiodalaaGreat
open Go.RowKit
set_option linter.unusedVariables false

end Go.Proofs.YtajdbimdiodalaaGreat

namespace Go.Proofs.YtajdbimdiodalaaGreat
open Go.RowKit
set_option linter.unusedVariables false

end Go.Proofs.YtajdbimdiodalaaGreat

namespace Go.Proofs.YtajdbimdiodalaaGreat
open Go.RowKit
set_option linter.unusedVariables false

end Go.Proofs.YtajdbimdiodalaaGreat

namespace Go.Proofs.YtajdbimdiodalaaGreat

/-- The check sum after one more bit. -/
def nxV (s : BitVec 15) (b : Bool) : BitVec 15 := (s <<< 1) ^^^ (if s.msb != b then 0x4599#15 else 0#15)

/-- The check sum behind more bits. -/
def foV (s : BitVec 15) (l : List Bool) : BitVec 15 := l.foldl nxV s

/-- The check sum of bits. -/
def suV (l : List Bool) : BitVec 15 := foV 0#15 l

theorem foV_append (s : BitVec 15) (l m : List Bool) : foV s (l ++ m) = foV (foV s l) m := by simp [foV]
theorem suV_append (l m : List Bool) : suV (l ++ m) = foV (suV l) m := foV_append _ _ _
theorem suV_snoc (l : List Bool) (x : Bool) : suV (l ++ [x]) = nxV (suV l) x := by rw [suV_append]; rfl

theorem nxV_xor (a c : BitVec 15) (x y : Bool) : nxV (a ^^^ c) (x != y) = nxV a x ^^^ nxV c y := by
  have hm : (a ^^^ c).msb = (a.msb != c.msb) := by simp [BitVec.msb_xor]
  have hs : (a ^^^ c) <<< 1 = a <<< 1 ^^^ c <<< 1 := by
    exact BitVec.shiftLeft_xor_distrib a c 1
  unfold nxV
  rw [hm, hs]
  generalize a <<< 1 = p
  generalize c <<< 1 = q
  ext i hi
  simp only [BitVec.getElem_xor]
  generalize p[i] = u
  generalize q[i] = v
  cases a.msb <;> cases c.msb <;> cases x <;> cases y <;> simp only [bne_self_eq_false, Bool.bne_false, Bool.bne_true, Bool.not_false, if_true, if_false, Bool.false_eq_true, BitVec.getElem_zero] <;> generalize (0x4599#15)[i] = t <;> cases u <;> cases v <;> (try cases t) <;> rfl

/-- Two lists of one length, turned about by each other. -/
def xoL (l m : List Bool) : List Bool := List.zipWith (fun x y => x != y) l m

theorem foV_xor : ∀ (l m : List Bool) (a c : BitVec 15), l.length = m.length → foV (a ^^^ c) (xoL l m) = foV a l ^^^ foV c m := by
  intro l
  induction l with
  | nil => intro m a c h; cases m with
    | nil => rfl
    | cons y m => simp at h
  | cons x l ih =>
    intro m a c h
    cases m with
    | nil => simp at h
    | cons y m =>
      show foV (nxV (a ^^^ c) (x != y)) (xoL l m) = _
      rw [nxV_xor, ih m _ _ (by simpa using h)]
      rfl

/-- The 15 bits of a sum. -/
def biV (s : BitVec 15) : List Bool := ofL s.toNat 15

theorem nxV_own (s : BitVec 15) : nxV s s.msb = s <<< 1 := by simp [nxV]

theorem foV_bits (s : BitVec 15) : ∀ k, k ≤ 15 → foV s (ofL s.toNat 15 |>.take k) = s <<< k := by
  intro k
  induction k with
  | zero => intro _; simp [foV]
  | succ k ih =>
    intro hk
    rw [take_snoc (x := s.toNat.testBit (14 - k)) (by rw [ofL_get _ _ _ (by omega)]), foV_append, ih (by omega)]
    have hm : s.toNat.testBit (14 - k) = (s <<< k).msb := by
      rw [BitVec.msb_eq_getLsbD_last, BitVec.getLsbD_shiftLeft, BitVec.testBit_toNat]
      simp [show ¬ (14 < k) by omega]
    rw [hm]
    show nxV (s <<< k) (s <<< k).msb = _
    rw [nxV_own, ← BitVec.shiftLeft_add]

theorem foV_own (s : BitVec 15) : foV s (biV s) = 0#15 := by
  have := foV_bits s 15 (Nat.le_refl _)
  rw [List.take_of_length_le (by simp)] at this
  unfold biV
  rw [this]
  ext i hi
  simp

theorem suV_whole (l : List Bool) : suV (l ++ biV (suV l)) = 0#15 := by rw [suV_append, foV_own]

/-- Dominant bits ahead say nothing. -/
theorem suV_zeros (k : Nat) : suV (List.replicate k false) = 0#15 := by
  induction k with
  | zero => rfl
  | succ k ih => rw [List.replicate_succ', suV_snoc, ih]; rfl

theorem suV_ahead (k : Nat) (l : List Bool) : suV (List.replicate k false ++ l) = suV l := by rw [suV_append, suV_zeros]; rfl

/-- Whatever is not 0 is not 0 behind one more dominant bit: the lowest bit of the polynomial is set. -/
theorem nxV_zero {s : BitVec 15} (h : nxV s false = 0#15) : s = 0#15 := by
  have h0 : (nxV s false).getLsbD 0 = false := by rw [h]; rfl
  have hm : s.msb = false := by
    unfold nxV at h0
    cases hs : s.msb
    · rfl
    · rw [hs] at h0
      simp at h0
  have h1 : s <<< 1 = 0#15 := by
    unfold nxV at h
    rw [hm] at h
    simpa using h
  ext i hi
  by_cases h14 : i = 14
  · subst h14
    rw [BitVec.msb_eq_getLsbD_last] at hm
    simpa using hm
  · have h2 : (s <<< 1).getLsbD (i + 1) = false := by rw [h1]; simp
    rw [BitVec.getLsbD_shiftLeft] at h2
    simp [show i + 1 < 15 by omega] at h2
    rw [← BitVec.getLsbD_eq_getElem, h2]; simp

theorem foV_zeros_ne {s : BitVec 15} (h : s ≠ 0#15) (k : Nat) : foV s (List.replicate k false) ≠ 0#15 := by
  induction k with
  | zero => exact h
  | succ k ih =>
    rw [List.replicate_succ', foV_append]
    exact fun e => ih (nxV_zero e)

/-- Bits within 15 beside one another, not all of them dominant, have a sum that is not 0. -/
theorem suV_burst {b : List Bool} (hb : b.length ≤ 15) (ht : true ∈ b) : suV b ≠ 0#15 := by
  obtain ⟨c, hc⟩ : ∃ c, c = List.replicate (15 - b.length) false ++ b := ⟨_, rfl⟩
  have hl : c.length = 15 := by rw [hc]; simp; omega
  have hs : suV b = suV c := by rw [hc, suV_ahead]
  obtain ⟨B, hB⟩ : ∃ B : BitVec 15, B = BitVec.ofNat 15 (numL c) := ⟨_, rfl⟩
  have hlt := numL_lt c
  rw [hl] at hlt
  have hBn : B.toNat = numL c := by rw [hB, BitVec.toNat_ofNat, Nat.mod_eq_of_lt hlt]
  have hbi : biV B = c := by unfold biV; rw [hBn, ← hl, ofL_numL]
  have hx := foV_xor (List.replicate 15 false) (biV B) B 0#15 (by simp [biV])
  have hz : xoL (List.replicate 15 false) (biV B) = biV B := by
    apply List.ext_getElem?
    intro i
    unfold xoL
    rw [List.getElem?_zipWith]
    by_cases hi : i < 15
    · rw [List.getElem?_replicate, if_pos hi]
      cases hq : (biV B)[i]? <;> simp
    · rw [List.getElem?_replicate, if_neg hi, List.getElem?_eq_none (by simp [biV]; omega)]
  rw [hz, BitVec.xor_zero, foV_own, hbi] at hx
  have hne : B ≠ 0#15 := by
    intro e
    have h0 : numL c = 0 := by rw [← hBn, e]; rfl
    have hall : c = List.replicate 15 false := by
      have := ofL_numL c
      rw [h0, hl] at this
      rw [← this]; decide
    have hm : true ∈ c := by rw [hc]; exact List.mem_append.2 (.inr ht)
    rw [hall] at hm
    simp at hm
  have h2 := foV_zeros_ne hne 15
  intro e
  rw [hs] at e
  have e2 : foV 0#15 c = 0#15 := e
  rw [e2, BitVec.xor_zero] at hx
  exact h2 hx.symm

end Go.Proofs.YtajdbimdiodalaaGreat

namespace Go.Proofs.YtajdbimdiodalaaGreat
open Go.RowKit
set_option linter.unusedVariables false

theorem and14 (x : Nat) : x &&& 16384 = if x.testBit 14 then 16384 else 0 := by
  apply Nat.eq_of_testBit_eq
  intro i
  rw [Nat.testBit_and, show (16384 : Nat) = 2 ^ 14 from rfl, Nat.testBit_two_pow]
  by_cases h : 14 = i
  · subst h
    cases x.testBit 14
    · rfl
    · decide
  · rw [decide_eq_false h, Bool.and_false]
    cases x.testBit 14
    · simp
    · rw [if_pos rfl, Nat.testBit_two_pow, decide_eq_false h]

theorem nxV_toNat (x : Nat) (b : Bool) : (nxV (BitVec.ofNat 15 x) b).toNat = (x * 2 % 32768) ^^^ (if x.testBit 14 != b then 17817 else 0) := by
  have hm : (BitVec.ofNat 15 x).msb = x.testBit 14 := by
    rw [BitVec.msb_eq_getLsbD_last, BitVec.getLsbD_ofNat]; simp
  unfold nxV
  rw [hm, BitVec.toNat_xor, BitVec.toNat_shiftLeft, BitVec.toNat_ofNat, Nat.shiftLeft_eq]
  congr 1
  · show (x % 32768 * 2 ^ 1) % 32768 = _
    omega
  · cases x.testBit 14 != b <;> rfl

theorem crcNext_any (w : World) (x : Nat) (b : Bool) (hx : x < 65536) :
    Calls Tryz.prog 218 #[.int .u16 (x : Int), .bool b] w fun e w' => e = .returned (.int .u16 ((nxV (BitVec.ofNat 15 x) b).toNat : Int)) ∧ w = w' := by
  have hs := nxV_toNat x b
  have e1 : bits .and .u16 (x : Int) 16384 = ((if x.testBit 14 then 16384 else 0 : Nat) : Int) := by
    rw [show ((16384 : Int)) = ((16384 : Nat) : Int) from rfl, u16_and_nat x 16384 hx (by omega), and14]
  obtain ⟨y, hy⟩ : ∃ y, y = x * 2 % 32768 := ⟨_, rfl⟩
  have hy1 : y < 32768 := by omega
  have e2 : bits .and .u16 (IntKind.u16.wrap ((x : Int) * 2)) 32767 = (y : Int) := by
    rw [show IntKind.u16.wrap ((x : Int) * 2) = ((x * 2 % 65536 : Nat) : Int) from by rw [IntKind.wrap_u16]; omega, show ((32767 : Int)) = ((32767 : Nat) : Int) from rfl, u16_and_nat _ 32767 (by omega) (by omega), show (32767 : Nat) = 2 ^ 15 - 1 from rfl, Nat.and_two_pow_sub_one_eq_mod, hy]
    congr 1
    omega
  have e3 : bits .xor .u16 (y : Int) 17817 = ((y ^^^ 17817 : Nat) : Int) := by
    rw [show ((17817 : Int)) = ((17817 : Nat) : Int) from rfl, u16_xor_nat y 17817 (by omega) (by omega)]
  rw [← hy] at hs
  obtain ⟨t, ht⟩ : ∃ t, t = x.testBit 14 := ⟨_, rfl⟩
  rw [← ht] at hs e1
  have HS := hid hs
  clear hs hy ht
  cases t <;> cases b
  all_goals
    simp at e1
    go_enter Tryz.func218, Tryz.ntmps218
    go_wp2
    go_ret
    exact ⟨ret_int (by rw [HS.out]; simp), rfl⟩
end Go.Proofs.YtajdbimdiodalaaGreat

namespace Go.Proofs.YtajdbimdiodalaaGreat
open Go.RowKit Go.Shelf
set_option linter.unusedVariables false

attribute [local go_sem] Oper.semAt_some

theorem one_new {w : World} (E : TypeId) (v : Value) : (w.alloc (.cells #[v] E)).cell? ⟨w.heap.size, 0, none⟩ = some v ∧ (w.alloc (.cells #[v] E)).frozen? ⟨w.heap.size, 0, none⟩ = false := by
  have h := heap_alloc_new w (.cells #[v] E)
  exact ⟨by rw [cell_of_row _ _ 0 _ _ _ h]; rfl, frozen_of_row _ _ 0 _ _ h⟩

theorem one_new2 {w : World} (E : TypeId) (v : Value) (o : Obj) : ((w.alloc (.cells #[v] E)).alloc o).cell? ⟨w.heap.size, 0, none⟩ = some v ∧ ((w.alloc (.cells #[v] E)).alloc o).frozen? ⟨w.heap.size, 0, none⟩ = false := by
  have h : ((w.alloc (.cells #[v] E)).alloc o).heap[w.heap.size]? = some (.cells #[v] E) := by
    rw [Below.heap_alloc _ o w.heap.size (by simp)]; exact heap_alloc_new w _
  exact ⟨by rw [cell_of_row _ _ 0 _ _ _ h]; rfl, frozen_of_row _ _ 0 _ _ h⟩

set_option maxRecDepth 100000 in
set_option maxHeartbeats 2000000 in
/-- The iterator's closure, for every loop body that keeps what lay below n0. -/
theorem each1_in (F : Fence) (n : Nat) (hf : F.fn 221) (hro : F.round = none) (hn : 1 ≤ n) (lp Bs : Nat) (w0 : World) (a : Option Addr) (m c : Nat) (l : List Bool) (hm : m ≤ 1000000) (h : RL .bool w0 a m c l) (J Jx : List Bool → World → Prop)
    (hY : ∀ pre x W, J pre W → pre.length < m → YieldAt F (n - 1) Tryz.prog lp #[.bool x] W fun e W' =>
      (e = .returned (.bool true) ∧ J (pre ++ [x]) W' ∧ Below w0.heap.size W W') ∨ (e = .returned (.bool false) ∧ Jx (pre ++ [x]) W'))
    (W : World) (hBs : W.cell? ⟨Bs, 0, none⟩ = some (.slice a m c)) (hB : Below w0.heap.size w0 W) (h0 : J [] W) :
    CallsIn F n Tryz.prog 221 #[.func (.yield lp) #[] #[], .pointer (some ⟨Bs, 0, none⟩)] W fun e W' => (∃ v, e = .returned v) ∧
      ((∃ ys, ys = l ∧ J ys W') ∨ (∃ pre, pre <+: l ∧ Jx pre W')) := by
  refine callsIn_of_wp Tryz.func221 rfl hf ?_ hro
  simp only [Tryz.ntmps221, List.size_toArray, List.length_cons, List.length_nil, Nat.reduceAdd, Nat.reduceSub, Array.replicate_succ, Array.replicate_zero, List.push_toArray, List.append_toArray, List.nil_append, List.cons_append]
  gi_wp2
  gi_loopw [7] (fun i wr => ∃ k : Nat, k ≤ m ∧ i = .int .i64 k ∧ J (l.take k) wr ∧ Below w0.heap.size w0 wr)
    (fun i _ => m - (intOf i).toNat)
  case atStart => exact ⟨0, Nat.zero_le _, rfl, by rw [List.take_zero]; exact h0, hB⟩
  case round =>
    obtain ⟨k, hk, rfl, hJs, hnx⟩ := hrel
    by_cases hlt : k < m
    · obtain ⟨b, off, x, rfl, hx, hck⟩ := (h.below hnx).at hlt
      have HX := hid hx; clear hx
      obtain ⟨fn, tmps, assign, body, hy, hR⟩ := hY _ x wr hJs (by rw [List.length_take, h.len]; omega)
      rw [← take_snoc HX.out] at hR
      gi_wp2
      refine hR.mono ?_
      rintro e W3 (⟨rfl, hJ3, hk3⟩ | ⟨rfl, hJx3⟩)
      · gi_wp2
        go_roundw
        case rel => exact ⟨k + 1, by omega, by go_num, hJ3, hnx.trans hk3⟩
        case measure => simp [intOf]; omega
      · gi_wp2
        refine bodyPost_ret (results_none rfl _ _ _) rfl ?_
        exact ⟨⟨_, rfl⟩, .inr ⟨_, List.take_prefix _ _, hJx3⟩⟩
    · obtain rfl : k = m := by omega
      rw [List.take_of_length_le (by rw [h.len]; omega)] at hJs
      gi_wp2
      go_end0
      exact ⟨⟨_, rfl⟩, .inl ⟨_, rfl, hJs⟩⟩

theorem each_any (w : World) (a : Option Addr) (m c : Nat) :
    Calls Tryz.prog 217 #[.slice a m c] w fun e w' => e = .returned (.func (.func 221) #[] #[.pointer (some ⟨w.heap.size, 0, none⟩)]) ∧ w' = w.alloc (.cells #[.slice a m c] 36) := by
  have hmf : ∀ (fn : Fn) (first cap : Array Value) (w : World), (Instr.makeFunc fn first cap).run Tryz.prog w = .ok (.func fn first cap) w := fun _ _ _ _ => rfl
  go_enter Tryz.func217, Tryz.ntmps217
  go_wp2
  go_ret
  exact ⟨rfl, rfl⟩

theorem each_stops (F : Fence) (n : Nat) (hf : F.fn 221) (hro : F.round = none) (hn : 1 ≤ n) (Bs : Nat) (w0 : World) (a : Option Addr) (m c : Nat) (l : List Bool) (hm : m ≤ 1000000) (h : RL .bool w0 a m c l)
    (w : World) (hBs : Bs < w.heap.size) (hc : w.cell? ⟨Bs, 0, none⟩ = some (.slice a m c)) (hB : Below w0.heap.size w0 w) :
    SeqStopsK F n Tryz.prog 221 #[.pointer (some ⟨Bs, 0, none⟩)] (fun x : Bool => #[Value.bool x]) (Below w0.heap.size) (fun ys => ys = l) (fun pre => pre <+: l) m w := fun lp J Jx W hW _ _ hY h0 =>
  each1_in F n hf hro hn lp Bs w0 a m c l hm h J Jx hY W ((hW.cell (p := ⟨Bs, 0, none⟩) hBs).trans hc) (hB.trans (hW.mono hB.size)) h0

theorem nxV_nat (s : BitVec 15) (x : Bool) : nxV (BitVec.ofNat 15 s.toNat) x = nxV s x := by rw [BitVec.ofNat_toNat, BitVec.setWidth_eq]

set_option maxRecDepth 100000 in
set_option maxHeartbeats 2000000 in
theorem sum_any (w : World) (a : Option Addr) (m c : Nat) (l : List Bool) (h : RL .bool w a m c l) (hm : m ≤ 1000000) :
    Calls Tryz.prog 203 #[.slice a m c] w fun e w' => e = .returned (.int .u16 ((suV l).toNat : Int)) ∧ Below w.heap.size w w' := by
  refine (callsIn_wide (n := 4)).1 ?_
  refine callsIn_of_wp_marks Tryz.func203 rfl trivial ?_ rfl
  simp only [Tryz.ntmps203, List.size_toArray, List.length_cons, List.length_nil, Nat.reduceAdd, Nat.reduceSub, Array.replicate_succ, Array.replicate_zero, List.push_toArray, List.append_toArray, List.nil_append, List.cons_append]
  gi_wp2_with (refine ⟨trivial, ?_⟩; gi_at_call 217; refine (callsIn_wide.2 (each_any _ _ _ _)).mono ?_; rintro e w' ⟨rfl, rfl⟩)
  have hs := one_new (w := w) 98 (.int .u16 0)
  have hb := one_new (w := w.alloc (.cells #[.int .u16 0] 98)) 36 (.slice a m c)
  have hs2 := one_new2 (w := w) 98 (.int .u16 0) (.cells #[.slice a m c] 36)
  rw [World.size_alloc] at hb
  have hB0 : Below w.heap.size w ((w.alloc (.cells #[.int .u16 0] 98)).alloc (.cells #[.slice a m c] 36)) := bnew (bnew0 w _) _
  refine wpIn_rangeFunc_ownF rfl (by omega) (gf := 221) (lb := #[.pointer (some ⟨w.heap.size + 1, 0, none⟩)]) rfl trivial (enters_of Tryz.func221 (by kernel_rfl) rfl)
    (each_stops Fence.wide _ trivial rfl (by omega) (w.heap.size + 1) w a m c l hm h _ (by simp) hb.1 hB0) belowK_t (belowK_b (by simp; omega)) (Below.refl _ _) (fun _ => rfl)
    (fun pre W => (W.cell? ⟨w.heap.size, 0, none⟩ = some (.int .u16 ((suV pre).toNat : Int)) ∧ W.frozen? ⟨w.heap.size, 0, none⟩ = false) ∧ Below w.heap.size w W)
    (fun _ _ _ => False)
    (OwnFrom.and (Own.from (fun s A B row hs hg hr => ⟨cell_kept hs.1 hg hr, (frozen_kept hs.1 hg hr).trans hs.2⟩) _) (ownFrom_below (Nat.le_refl _) (by simp; omega)))
    (fun _ _ _ _ _ hs _ _ => hs)
    ⟨hs2, hB0⟩
    (fun x => { tmps := #[.slice a m c, undef, .int .u16 0, .pointer (some ⟨w.heap.size, 0, none⟩), .bool x, .slice a m c, .func (.func 221) #[] #[.pointer (some ⟨w.heap.size + 1, 0, none⟩)], .bool x, undef, undef, undef, undef], defers := [] }) ?assign ?body ?done ?stop
  case assign =>
    intro lp x W K hK
    gi_wp2
    exact hK
  case body =>
    rintro lp pre x W ⟨⟨hc, hf⟩, hB⟩ _
    have HS := hid (suV_snoc pre x)
    obtain ⟨s, hs0⟩ : ∃ s, s = suV pre := ⟨_, rfl⟩
    rw [← hs0] at hc HS
    have hs15 := s.isLt
    clear hs0
    gi_wp2_with (refine ⟨trivial, ?_⟩; gi_at_call 218; refine (CallsIn.inRound lp (callsIn_wide.2 (crcNext_any _ s.toNat x (by omega)))).mono ?_; rw [nxV_nat]; rintro e w' ⟨rfl, rfl⟩)
    exact ⟨KeepsOthers.setCell _ _ _, (Below.refl w.heap.size W).setCell (p := ⟨w.heap.size, 0, none⟩) (Nat.le_refl _) _, ⟨by rw [HS.out]; exact World.cell?_setCell_same' _ _ _ (by rw [hc]; rfl), by rw [World.frozen?_setCell]; exact hf⟩, hB.setCell (p := ⟨w.heap.size, 0, none⟩) (Nat.le_refl _) _⟩
  case done =>
    rintro D ys W hD rfl ⟨⟨hc, _⟩, hB⟩ hK
    gi_wp2
    refine ⟨by simp, .inl ⟨_, _, rfl, run_takeDeferred hK, ?_⟩⟩
    exact ⟨_, results_tmp rfl _ _ _, rfl, hB.trans (belowK_b (w := w) (Nat.le_refl _) W D _ _ (by simp at hD; omega) hK rfl rfl)⟩
  case stop =>
    rintro D c pre W _ _ h _
    exact h.elim
end Go.Proofs.YtajdbimdiodalaaGreat

namespace Go.Proofs.YtajdbimdiodalaaGreat
open Go.RowKit
set_option linter.unusedVariables false

theorem bits_any (w : World) (x : Nat) (hx : x < 65536) :
    Calls Tryz.prog 202 #[.int .u16 (x : Int)] w fun e w' => ∃ a c, e = .returned (.slice a 15 c) ∧ OL .bool 4 w.heap.size w' a 15 c (ofL x 15) ∧ Below w.heap.size w w' := by
  have hc : clampM 15 = 15 := by decide
  go_enter Tryz.func202, Tryz.ntmps202
  go_wp2_with (go_at_call 215; refine (of_any w x 15 (by omega) (by omega)).mono ?_; rw [hc]; rintro e w1 ⟨a1, c1, rfl, hol1, hb1⟩)
  go_ret
  exact ⟨_, _, rfl, hol1, hb1⟩

end Go.Proofs.YtajdbimdiodalaaGreat

namespace Go.Proofs.YtajdbimdiodalaaGreat
open Go.RowKit
set_option linter.unusedVariables false

/-- The polynomial, its highest bit first. -/
def pol (k : Nat) : Bool := k == 0 || (0x4599#15).getMsbD (k - 1)

theorem numL_biV (s : BitVec 15) : numL (biV s) = s.toNat := by
  unfold biV
  rw [numL_ofL, Nat.mod_eq_of_lt s.isLt]

/-- The polynomial as the cells of an array. -/
def polA : Array Value := #[.bool true, .bool true, .bool false, .bool false, .bool false, .bool true, .bool false, .bool true, .bool true, .bool false, .bool false, .bool true, .bool true, .bool false, .bool false, .bool true]

/-- The world while the division goes on: the row in block g tells F from place lo on; the polynomial's block lies where it lay. -/
structure RefSt (w wr : World) (g c N : Nat) (F : Nat → Bool) (lo : Nat) : Prop where
  row : ∃ cur, wr.heap[g]? = some (.cells cur 4 (0, 0)) ∧ cur.size = c ∧ ∀ j, lo ≤ j → j < N → cur[j]? = some (.bool (F j))
  pol : wr.heap[w.heap.size]? = some (.cells polA 226 (0, 0))
  bel : Below w.heap.size w wr

section
variable {w wr : World} {g c N : Nat} {F F' : Nat → Bool} {lo lo' : Nat}
theorem RefSt.cell (h : RefSt w wr g c N F lo) {j : Nat} (h1 : lo ≤ j) (h2 : j < N) : wr.cell? ⟨g, j, none⟩ = some (.bool (F j)) := by
  obtain ⟨cur, hg, _, hc⟩ := h.row
  rw [cell_of_row wr g j cur _ _ hg]; exact hc j h1 h2

theorem RefSt.thaw (h : RefSt w wr g c N F lo) (j : Nat) : wr.frozen? ⟨g, j, none⟩ = false := by
  obtain ⟨cur, hg, _, _⟩ := h.row
  exact frozen_of_row wr g j cur _ hg

theorem RefSt.congr (h : RefSt w wr g c N F lo) (hl : lo ≤ lo') (hF : ∀ j, lo' ≤ j → j < N → F' j = F j) : RefSt w wr g c N F' lo' := by
  obtain ⟨cur, hg, hs, hc⟩ := h.row
  exact ⟨⟨cur, hg, hs, fun j h1 h2 => by rw [hF j h1 h2]; exact hc j (by omega) h2⟩, h.pol, h.bel⟩

theorem RefSt.drew (h : RefSt w wr g c N F lo) : RefSt w wr.drew g c N F lo := ⟨h.row, h.pol, h.bel.drew⟩

theorem RefSt.set (h : RefSt w wr g c N F lo) (hg0 : w.heap.size < g) (hN : N ≤ c) {i : Nat} (hi : i < N) {v : Bool} (hv : F' i = v) (hF : ∀ j, lo ≤ j → j < N → j ≠ i → F' j = F j) : RefSt w (wr.setCell ⟨g, i, none⟩ (.bool v)) g c N F' lo := by
  obtain ⟨cur, hg, hs, hc⟩ := h.row
  refine ⟨⟨_, heap_setCell_same wr g i cur _ (.bool v) hg, by simpa using hs, fun j h1 h2 => ?_⟩, ?_, h.bel.setCell (Nat.le_of_lt hg0) _⟩
  · rw [Array.getElem?_setIfInBounds]
    split
    · rename_i e; subst e; rw [if_pos (by omega), hv]
    · rename_i e; rw [hF j h1 h2 (fun e2 => e e2.symm)]; exact hc j h1 h2
  · rw [heap_setCell_other _ _ _ _ (show w.heap.size ≠ g by omega)]; exact h.pol
end

theorem biV_length (s : BitVec 15) : (biV s).length = 15 := by simp [biV]

end Go.Proofs.YtajdbimdiodalaaGreat

namespace Go.Proofs.YtajdbimdiodalaaGreat
open Go.RowKit
set_option linter.unusedVariables false

end Go.Proofs.YtajdbimdiodalaaGreat

namespace Go.Proofs.YtajdbimdiodalaaGreat
open Go.RowKit Go.Sort
set_option linter.unusedVariables false

/-- How many bytes a frame has. -/
def lonF (rem : Bool) (dlc : Nat) : Nat := if rem then 0 else min dlc 8

/-- Whether a frame with n bytes is right. -/
def riF (id : Nat) (ext rem : Bool) (dlc n : Nat) : Bool := decide (id ≤ if ext then 536870911 else 2047) && decide (dlc ≤ 15) && decide (n = lonF rem dlc)

/-- A frame that was laid in a new box: its cells, in every world that has only grown and drawn since. -/
theorem boxed (w : World) (E : TypeId) (v0 v1 v2 v3 v4 : Value) : ∃ w0, Hid (w.alloc (.cells #[v0, v1, v2, v3, v4] E) = w0) ∧ w0.heap[w.heap.size]? = some (.cells #[v0, v1, v2, v3, v4] E (0, 0)) ∧
    (∀ d os, (grow (redrawn w0 d) os).cell? ⟨w.heap.size, 0, none⟩ = some v0) ∧ (∀ d os, (grow (redrawn w0 d) os).cell? ⟨w.heap.size, 1, none⟩ = some v1) ∧ (∀ d os, (grow (redrawn w0 d) os).cell? ⟨w.heap.size, 2, none⟩ = some v2) ∧
    (∀ d os, (grow (redrawn w0 d) os).cell? ⟨w.heap.size, 3, none⟩ = some v3) ∧ (∀ d os, (grow (redrawn w0 d) os).cell? ⟨w.heap.size, 4, none⟩ = some v4) ∧ Below w.heap.size w w0 := by
  have h := heap_alloc_new w (.cells #[v0, v1, v2, v3, v4] E)
  obtain ⟨k0, k1, k2, k3, k4⟩ := bx5 h
  exact ⟨_, rfl, h, fun d os => cell_regrown k0 d os, fun d os => cell_regrown k1 d os, fun d os => cell_regrown k2 d os, fun d os => cell_regrown k3 d os, fun d os => cell_regrown k4 d os, bnew0 _ _⟩

theorem frLong_any (w : World) (id : Nat) (ext rem : Bool) (dlc : Nat) (a : Option Addr) (n c : Nat) (hd : dlc < 256) :
    Calls Tryz.prog 81 #[.agg #[.int .u32 (id : Int), .bool ext, .bool rem, .int .u8 (dlc : Int), .slice a n c]] w fun e w' => e = .returned (.int .i64 (lonF rem dlc : Int)) ∧ Below w.heap.size w w' := by
  obtain ⟨p, hp⟩ : ∃ p, p = min dlc 8 := ⟨_, rfl⟩
  have hp8 : p ≤ 8 := by omega
  have hmin : ∀ (ts : Array TypeId) (t : TypeId) (w' : World), (Builtin.min_ ts t #[.int .u8 (dlc : Int), .int .u8 8]).run Tryz.prog w' = .ok (.int .u8 (p : Int)) w' := fun ts t w' => by
    rw [run_min_int2]; congr 2; split <;> omega
  cases rem
  · have hl : lonF false dlc = p := by rw [hp]; rfl
    rw [hl]
    clear hl hp
    go_enter Tryz.func81, Tryz.ntmps81
    go_wp2
    go_ret
    exact ⟨rfl, bnew0 _ _⟩
  · go_enter Tryz.func81, Tryz.ntmps81
    go_wp2
    go_ret
    exact ⟨rfl, bnew0 _ _⟩

end Go.Proofs.YtajdbimdiodalaaGreat

namespace Go.Proofs.YtajdbimdiodalaaGreat
open Go.RowKit Go.Sort
set_option linter.unusedVariables false

/-- The first part of a head. -/
def conL (id : Nat) (ext rem : Bool) : List Bool := if ext then [false] ++ ofL (id / 262144) 11 ++ [true, true] ++ ofL id 18 ++ [rem] else [false] ++ ofL id 11 ++ [rem, false]

/-- A head. -/
def heL (id : Nat) (ext rem : Bool) (dlc : Nat) : List Bool := conL id ext rem ++ [false] ++ (if ext then [false] else []) ++ ofL dlc 4

def conN (ext : Bool) : Nat := if ext then 33 else 14
def heN (ext : Bool) : Nat := if ext then 39 else 19

theorem conL_length (id : Nat) (ext rem : Bool) : (conL id ext rem).length = conN ext := by cases ext <;> simp [conL, conN]
theorem heL_length (id : Nat) (ext rem : Bool) (dlc : Nat) : (heL id ext rem dlc).length = heN ext := by cases ext <;> simp [heL, conL, heN]

theorem clamp_11 : clampM 11 = 11 := by decide
theorem clamp_18 : clampM 18 = 18 := by decide
theorem clamp_4 : clampM 4 = 4 := by decide

/-- A row that grows beside a box that was laid first. -/
structure St (w w' : World) (a : Option Addr) (n c : Nat) (l : List Bool) (bx : Array Value) (T : TypeId) : Prop where
  row : OL .bool 4 (w.heap.size + 1) w' a n c l
  box : w'.heap[w.heap.size]? = some (.cells bx T (0, 0))
  bel : Below w.heap.size w w'
  siz : w.heap.size + 1 ≤ w'.heap.size

section
variable {w w' w'' : World} {a a' : Option Addr} {n c n' c' : Nat} {l l' : List Bool} {bx : Array Value} {T : TypeId}
theorem St.call (h : St w w' a n c l bx T) (g : Below w'.heap.size w' w'') : St w w'' a n c l bx T := ⟨h.row.below g, bx_below h.box g, bstep h.bel g, Nat.le_trans h.siz g.size⟩
theorem St.alloc (h : St w w' a n c l bx T) (o : Obj) : St w (w'.alloc o) a n c l bx T := ⟨h.row.alloc o, bx_alloc o h.box, bnew h.bel o, by simp; have := h.siz; omega⟩
theorem St.app (h : St w w' a n c l bx T) (hol : OL .bool 4 (w.heap.size + 1) w'' a' n' c' l') (g : Below (w.heap.size + 1) w' w'') : St w w'' a' n' c' l' bx T :=
  ⟨hol, by rw [g.block _ (Nat.lt_succ_self _)]; exact h.box, h.bel.trans (g.mono (by omega)), Nat.le_trans h.siz g.size⟩
theorem St.lit (w : World) (bx : Array Value) (T : TypeId) (b : Bool) : St w ((w.alloc (.cells bx T)).alloc (.cells #[.bool b] 4)) (some ⟨w.heap.size + 1, 0, none⟩) 1 1 [b] bx T := by
  have h1 := ol_lit Value.bool 4 (w.heap.size + 1) (w.alloc (.cells bx T)) [b] #[.bool b] 1 rfl rfl (by omega) (by simp)
  rw [heap_size_alloc] at h1
  exact ⟨h1, bx_alloc _ (heap_alloc_new w _), bnew (bnew0 _ _) _, by simp⟩
theorem St.ol (h : St w w' a n c l bx T) : OL .bool 4 w.heap.size w' a n c l := h.row.mono (by omega)
end

theorem lit1 (w : World) (x : Bool) : RL .bool (w.alloc (.cells #[.bool x] 4)) (some ⟨w.heap.size, 0, none⟩) 1 1 [x] := (ol_lit Value.bool 4 w.heap.size w [x] #[.bool x] 1 rfl rfl (by omega) (Nat.le_refl _)).rl
theorem lit2 (w : World) (x y : Bool) : RL .bool (w.alloc (.cells #[.bool x, .bool y] 4)) (some ⟨w.heap.size, 0, none⟩) 2 2 [x, y] := (ol_lit Value.bool 4 w.heap.size w [x, y] #[.bool x, .bool y] 2 rfl rfl (by omega) (Nat.le_refl _)).rl
theorem contest_any (w : World) (id : Nat) (ext rem : Bool) (dlc : Nat) (a : Option Addr) (n c : Nat) (hi : id < 4294967296) :
    Calls Tryz.prog 214 #[.agg #[.int .u32 (id : Int), .bool ext, .bool rem, .int .u8 (dlc : Int), .slice a n c]] w fun e w' => ∃ a' c', e = .returned (.slice a' (conN ext) c') ∧ OL .bool 4 w.heap.size w' a' (conN ext) c' (conL id ext rem) ∧ Below w.heap.size w w' := by
  cases ext
  · go_enter Tryz.func214, Tryz.ntmps214
    go_wp2_with (first
      | (go_at_call 215; (with_reducible refine (of_any _ id 11 hi (by omega)).mono ?_); rw [clamp_11]; rintro e w2 ⟨a2, c2, rfl, hol2, g2⟩; have st2 := (St.lit w _ 35 false).call g2; obtain ⟨_, _, k2, _, _⟩ := bx5 st2.box; clear k2; have hs2 := st2.siz)
      | (at_builtin; refine wpList_app (f := Value.bool) (B := w.heap.size + 1) (w := w2) tB rfl _ _ rfl rfl st2.row rfl hol2.rl (fun _ => rfl) (by omega) (by omega) (by omega) ?_; intro w3 a3 c3 hol3 g3; have st3 := st2.app hol3 g3; obtain ⟨_, _, k2, _, _⟩ := bx5 st3.box; have hs3 := st3.siz)
      | (at_builtin; refine wpList_app (f := Value.bool) (B := w.heap.size + 1) tB rfl _ _ rfl rfl (st3.alloc _).row rfl (lit2 w3 rem false) (fun _ => rfl) (by omega) (by omega) (by simp; omega) ?_; intro w4 a4 c4 hol4 g4; have st4 := (st3.alloc _).app hol4 g4))
    go_ret
    exact ⟨_, _, rfl, st4.ol, st4.bel⟩
  · obtain ⟨y, hy⟩ : ∃ y, y = id / 262144 := ⟨_, rfl⟩
    have hi2 : y < 4294967296 := by omega
    have hsh : Op.shift .shr .u32 (id : Int) .u64 18 = pure (.int .u32 (y : Int)) := by
      rw [shift_shr_any _ _ _ _ (by omega), hy]
      rfl
    have HY : Hid (conL id true rem = [false] ++ ofL y 11 ++ [true, true] ++ ofL id 18 ++ [rem]) := by show _ = _; rw [hy]; rfl
    rw [HY.out]
    clear hy
    go_enter Tryz.func214, Tryz.ntmps214
    go_wp2_with (first
      | (go_at_call 215; (with_reducible refine (of_any _ y 11 hi2 (by omega)).mono ?_); rw [clamp_11]; rintro e w2 ⟨a2, c2, rfl, hol2, g2⟩; have st2 := (St.lit w _ 35 false).call g2; have hs2 := st2.siz)
      | (at_builtin; refine wpList_app (f := Value.bool) (B := w.heap.size + 1) (w := w2) tB rfl _ _ rfl rfl st2.row rfl hol2.rl (fun _ => rfl) (by omega) (by omega) (by omega) ?_; intro w3 a3 c3 hol3 g3; have st3 := st2.app hol3 g3; have hs3 := st3.siz)
      | (at_builtin; refine wpList_app (f := Value.bool) (B := w.heap.size + 1) tB rfl _ _ rfl rfl (st3.alloc _).row rfl (lit2 w3 true true) (fun _ => rfl) (by omega) (by omega) (by simp; omega) ?_; intro w4 a4 c4 hol4 g4; have st4 := (st3.alloc _).app hol4 g4; obtain ⟨k0, _, _, _, _⟩ := bx5 st4.box)
      | (go_at_call 215; (with_reducible refine (of_any w4 id 18 hi (by omega)).mono ?_); rw [clamp_18]; rintro e w5 ⟨a5, c5, rfl, hol5, g5⟩; have st5 := st4.call g5; have hs5 := st5.siz)
      | (at_builtin; refine wpList_app (f := Value.bool) (B := w.heap.size + 1) (w := w5) tB rfl _ _ rfl rfl st5.row rfl hol5.rl (fun _ => rfl) (by omega) (by omega) (by omega) ?_; intro w6 a6 c6 hol6 g6; have st6 := st5.app hol6 g6; obtain ⟨_, _, k2, _, _⟩ := bx5 st6.box; have hs6 := st6.siz)
      | (at_builtin; refine wpList_app (f := Value.bool) (B := w.heap.size + 1) tB rfl _ _ rfl rfl (st6.alloc _).row rfl (lit1 w6 rem) (fun _ => rfl) (by omega) (by omega) (by simp; omega) ?_; intro w7 a7 c7 hol7 g7; have st7 := (st6.alloc _).app hol7 g7))
    go_ret
    exact ⟨_, _, rfl, st7.ol, st7.bel⟩

theorem head_any (w : World) (id : Nat) (ext rem : Bool) (dlc : Nat) (a : Option Addr) (n c : Nat) (hi : id < 4294967296) (hd : dlc < 256) :
    Calls Tryz.prog 200 #[.agg #[.int .u32 (id : Int), .bool ext, .bool rem, .int .u8 (dlc : Int), .slice a n c]] w fun e w' => ∃ a' c', e = .returned (.slice a' (heN ext) c') ∧ OL .bool 4 w.heap.size w' a' (heN ext) c' (heL id ext rem dlc) ∧ Below w.heap.size w w' := by
  cases ext
  · have hc : ∀ w0, Calls Tryz.prog 214 #[.agg #[.int .u32 (id : Int), .bool false, .bool rem, .int .u8 (dlc : Int), .slice a n c]] w0 fun e w' => ∃ a' c', e = .returned (.slice a' (14) c') ∧ OL .bool 4 w0.heap.size w' a' (14) c' (conL id false rem) ∧ Below w0.heap.size w0 w' := fun w0 => contest_any w0 id false rem dlc a n c hi
    go_enter Tryz.func200, Tryz.ntmps200
    go_wp2_with (first
      | (go_at_call 214; refine (hc _).mono ?_; rintro e w2 ⟨a2, c2, rfl, hol2, g2⟩; have st2 : St w w2 a2 14 c2 (conL id false rem) _ _ := ⟨by simpa using hol2, bx_below (heap_alloc_new w _) g2, bstep (bnew0 _ _) g2, by have := g2.size; simp at this; omega⟩; have hs2 := st2.siz; clear hol2 g2)
      | (at_builtin; refine wpList_app (f := Value.bool) (B := w.heap.size + 1) tB rfl _ _ rfl rfl (st2.alloc _).row rfl (lit1 w2 false) (fun _ => rfl) (by omega) (by omega) (by simp; omega) ?_; intro w3 a3 c3 hol3 g3; have st3 := (st2.alloc _).app hol3 g3; obtain ⟨_, k1, _, k3, _⟩ := bx5 st3.box; have hs3 := st3.siz)
      | (go_at_call 215; (with_reducible refine (of_any w3 dlc 4 (by omega) (by omega)).mono ?_); rw [clamp_4]; rintro e w5 ⟨a5, c5, rfl, hol5, g5⟩; have st5 := st3.call g5; have hs5 := st5.siz)
      | (at_builtin; refine wpList_app (f := Value.bool) (B := w.heap.size + 1) (w := w5) tB rfl _ _ rfl rfl st5.row rfl hol5.rl (fun _ => rfl) (by omega) (by omega) (by omega) ?_; intro w6 a6 c6 hol6 g6; have st6 := st5.app hol6 g6))
    go_ret
    exact ⟨_, _, rfl, st6.ol, st6.bel⟩
  · have hc : ∀ w0, Calls Tryz.prog 214 #[.agg #[.int .u32 (id : Int), .bool true, .bool rem, .int .u8 (dlc : Int), .slice a n c]] w0 fun e w' => ∃ a' c', e = .returned (.slice a' (33) c') ∧ OL .bool 4 w0.heap.size w' a' (33) c' (conL id true rem) ∧ Below w0.heap.size w0 w' := fun w0 => contest_any w0 id true rem dlc a n c hi
    go_enter Tryz.func200, Tryz.ntmps200
    go_wp2_with (first
      | (go_at_call 214; refine (hc _).mono ?_; rintro e w2 ⟨a2, c2, rfl, hol2, g2⟩; have st2 : St w w2 a2 33 c2 (conL id true rem) _ _ := ⟨by simpa using hol2, bx_below (heap_alloc_new w _) g2, bstep (bnew0 _ _) g2, by have := g2.size; simp at this; omega⟩; have hs2 := st2.siz; clear hol2 g2)
      | (at_builtin; refine wpList_app (f := Value.bool) (B := w.heap.size + 1) tB rfl _ _ rfl rfl (st2.alloc _).row rfl (lit1 w2 false) (fun _ => rfl) (by omega) (by omega) (by simp; omega) ?_; intro w3 a3 c3 hol3 g3; have st3 := (st2.alloc _).app hol3 g3; obtain ⟨_, k1, _, k3, _⟩ := bx5 st3.box; have hs3 := st3.siz)
      | (at_builtin; refine wpList_app (f := Value.bool) (B := w.heap.size + 1) tB rfl _ _ rfl rfl (st3.alloc _).row rfl (lit1 w3 false) (fun _ => rfl) (by omega) (by omega) (by simp; omega) ?_; intro w4 a4 c4 hol4 g4; have st4 := (st3.alloc _).app hol4 g4; obtain ⟨_, k1', _, k3', _⟩ := bx5 st4.box; have hs4 := st4.siz)
      | (go_at_call 215; (with_reducible refine (of_any w4 dlc 4 (by omega) (by omega)).mono ?_); rw [clamp_4]; rintro e w5 ⟨a5, c5, rfl, hol5, g5⟩; have st5 := st4.call g5; have hs5 := st5.siz)
      | (at_builtin; refine wpList_app (f := Value.bool) (B := w.heap.size + 1) (w := w5) tB rfl _ _ rfl rfl st5.row rfl hol5.rl (fun _ => rfl) (by omega) (by omega) (by omega) ?_; intro w6 a6 c6 hol6 g6; have st6 := st5.app hol6 g6))
    go_ret
    exact ⟨_, _, rfl, st6.ol, st6.bel⟩
end Go.Proofs.YtajdbimdiodalaaGreat

namespace Go.Proofs.YtajdbimdiodalaaGreat
open Go.RowKit Go.Sort
set_option linter.unusedVariables false

/-- A row whose bits were there at w0 lies in block g. -/
def Rw (w0 w : World) (g : Nat) (l : List Bool) : Prop := ∃ a n c, w.heap[g]? = some (.cells #[.slice a n c] 239 (0, 0)) ∧ RL .bool w0 a n c l

theorem Rw.grown {w0 w w' : World} {g : Nat} {l : List Bool} (h : Rw w0 w g l) (he : w'.heap[g]? = w.heap[g]?) : Rw w0 w' g l := by
  obtain ⟨a, n, c, hb, hr⟩ := h
  exact ⟨a, n, c, by rw [he]; exact hb, hr⟩

theorem one_bx' {w : World} {g : Nat} {E : TypeId} {v0 : Value} (h : w.heap[g]? = some (.cells #[v0] E (0, 0))) : w.cell? ⟨g, 0, none⟩ = some v0 ∧ w.frozen? ⟨g, 0, none⟩ = false :=
  ⟨by rw [cell_of_row w g 0 _ _ _ h]; rfl, frozen_of_row w g 0 _ _ h⟩

theorem rtake_any (w0 w : World) (g : Nat) (l : List Bool) (m : Nat) (hg : w0.heap.size ≤ g) (hb : Below w0.heap.size w0 w) (hr : Rw w0 w g l) (hm : m ≤ l.length) (hm1 : m ≤ 1000) :
    Calls Tryz.prog 207 #[.pointer (some ⟨g, 0, none⟩), .int .i64 (m : Int)] w fun e w' => e = .returned (.int .u32 ((numL (l.take m) % 4294967296 : Nat) : Int)) ∧ Rw w0 w' g (l.drop m) ∧ w.grownBy w' (some g) := by
  obtain ⟨a, n, c, hbx, hrl⟩ := hr
  obtain ⟨c0, f0⟩ := one_bx' hbx
  have hmn : m ≤ n := by rw [← hrl.len]; exact hm
  have hlt := bx_lt hbx
  have hw := hrl.below hb
  obtain ⟨v, hv⟩ : ∃ v, v = numL (l.take m) % 4294967296 := ⟨_, rfl⟩
  rw [← hv]
  have HV := hid hv; clear hv
  obtain ⟨a1, p1, p2, hr1⟩ := run_cutTo tB hrl .i64 m hmn
  obtain ⟨a2, c2, p3, p4, hr2⟩ := run_cutFrom tB hrl .i64 m hmn
  have hw1 := hr1.below hb
  have HR2 := hid hr2; clear hr2
  clear hrl hr1 hw
  go_enter Tryz.func207, Tryz.ntmps207
  go_wp2_with (first
    | (go_at_call 206; refine (number_any w a1 m c _ hw1 (by omega)).mono ?_; rw [← HV.out]; rintro e w2 ⟨rfl, rfl⟩))
  go_ret
  refine ⟨rfl, ⟨a2, n - m, c2, heap_setCell_same _ g 0 _ _ _ hbx, HR2.out⟩, rfl, rfl, rfl, by simp, fun q h1 h2 => Below.heap_setCell _ _ _ _ (by simpa using h2)⟩
end Go.Proofs.YtajdbimdiodalaaGreat

namespace Go.Proofs.YtajdbimdiodalaaGreat
open Go.RowKit Go.Sort
set_option linter.unusedVariables false

/-- The state of fields: the row that is read, what was there, the box of the result. -/
structure Fs (w0 w wc : World) (g : Nat) (l : List Bool) : Prop where
  row : Rw w0 wc g l
  bel : Below w0.heap.size w0 wc
  gr : w.grownBy wc (some g)
  b2 : wc.heap[w.heap.size]? = some (.cells #[.int .u32 0, .bool false, .bool false, .int .u8 0, .slice none 0 0] 35 (0, 0))

theorem grow_trans {w w1 w2 : World} {o : Option Nat} (h : w.grownBy w1 o) (h2 : w1.grownBy w2 o) : w.grownBy w2 o :=
  ⟨h2.os.trans h.os, h2.tape.trans h.tape, h2.output.trans h.output, Nat.le_trans h.size h2.size, fun q h1 hn => (h2.block q (Nat.lt_of_lt_of_le h1 h.size) hn).trans (h.block q h1 hn)⟩

theorem grow_box {w w' : World} {g q : Nat} {o : Obj} (h : w.grownBy w' (some g)) (hb : w.heap[q]? = some o) (hq : q ≠ g) : w'.heap[q]? = some o := by
  rw [h.block q (bx_lt hb) (by simpa using hq)]; exact hb

section
variable {w0 w wc w' : World} {g q : Nat} {l l' : List Bool}
theorem Fs.take (h : Fs w0 w wc g l) (hg : w0.heap.size ≤ g) (hgw : g < w.heap.size) (hr : Rw w0 w' g l') (hgr : wc.grownBy w' (some g)) : Fs w0 w w' g l' :=
  ⟨hr, h.bel.grown hgr h.bel.size (fun k hk => by simp at hk; omega), grow_trans h.gr hgr, grow_box hgr h.b2 (by omega)⟩
theorem Fs.size (h : Fs w0 w wc g l) : w.heap.size < wc.heap.size := bx_lt h.b2
theorem Fs.alloc (h : Fs w0 w wc g l) (hgw : g < w.heap.size) (o : Obj) : Fs w0 w (wc.alloc o) g l :=
  ⟨h.row.grown (Below.heap_alloc _ _ _ (by have := h.size; omega)), h.bel.alloc h.bel.size o, grow_trans h.gr ⟨rfl, rfl, rfl, by simp, fun k hk _ => Below.heap_alloc _ _ _ hk⟩, bx_alloc _ h.b2⟩
theorem Fs.set (h : Fs w0 w wc g l) (hgw : g < w.heap.size) (hg : w0.heap.size ≤ g) (hq : w.heap.size < q) (i : Nat) (v : Value) : Fs w0 w (wc.setCell ⟨q, i, none⟩ v) g l :=
  ⟨h.row.grown (heap_setCell_other _ _ _ _ (by simp; omega)), h.bel.setCell (by simp; omega) _,
   ⟨h.gr.os, h.gr.tape, h.gr.output, by simpa using h.gr.size, fun k hk hn => (heap_setCell_other _ _ _ _ (by simp; omega)).trans (h.gr.block k hk hn)⟩, by rw [heap_setCell_other _ _ _ _ (by simp; omega)]; exact h.b2⟩
end

/-- take at a state of fields. -/
theorem Fs.call {w0 w wc : World} {g : Nat} {l : List Bool} (h : Fs w0 w wc g l) (hg : w0.heap.size ≤ g) (hgw : g < w.heap.size) (k : Int) (m v : Nat) (l' : List Bool) (hk : k = (m : Int)) (hm : m ≤ l.length) (hv : v = numL (l.take m) % 4294967296) (hl : l' = l.drop m) (hm1 : m ≤ 1000 := by omega) :
    Calls Tryz.prog 207 #[.pointer (some ⟨g, 0, none⟩), .int .i64 k] wc fun e w' => e = .returned (.int .u32 (v : Int)) ∧ Fs w0 w w' g l' ∧ wc.grownBy w' (some g) := by
  subst hk hv hl
  exact (rtake_any w0 wc g l m hg h.bel h.row hm hm1).mono fun e w' ⟨he, h2, h3⟩ => ⟨he, h.take hg hgw h2 h3, h3⟩

theorem num1 {l : List Bool} {x : Bool} (h : l[0]? = some x) : numL (l.take 1) % 4294967296 = x.toNat := by
  cases l with
  | nil => cases h
  | cons y l => simp at h; subst h; cases y <;> rfl

theorem rg_set {w0 w wc : World} {g : Nat} {l : List Bool} (h : Rw w0 wc g l ∧ w.grownBy wc (some g)) (hgw : g < w.heap.size) (i : Nat) (v : Value) : Rw w0 (wc.setCell ⟨w.heap.size, i, none⟩ v) g l ∧ w.grownBy (wc.setCell ⟨w.heap.size, i, none⟩ v) (some g) :=
  ⟨h.1.grown (heap_setCell_other _ _ _ _ (by simp; omega)), h.2.os, h.2.tape, h.2.output, by simpa using h.2.size, fun k hk hn => (heap_setCell_other _ _ _ _ (by simp; omega)).trans (h.2.block k hk hn)⟩

theorem Fs.fin {w0 w wc : World} {g : Nat} {l : List Bool} (h : Fs w0 w wc g l) (hgw : g < w.heap.size) (v0 v1 v2 v3 v4 : Value) :
    Rw w0 (((((wc.setCell ⟨w.heap.size, 0, none⟩ v0).setCell ⟨w.heap.size, 1, none⟩ v1).setCell ⟨w.heap.size, 2, none⟩ v2).setCell ⟨w.heap.size, 3, none⟩ v3).setCell ⟨w.heap.size, 4, none⟩ v4) g l ∧
    w.grownBy (((((wc.setCell ⟨w.heap.size, 0, none⟩ v0).setCell ⟨w.heap.size, 1, none⟩ v1).setCell ⟨w.heap.size, 2, none⟩ v2).setCell ⟨w.heap.size, 3, none⟩ v3).setCell ⟨w.heap.size, 4, none⟩ v4) (some g) := by
  exact rg_set (rg_set (rg_set (rg_set (rg_set ⟨h.row, h.gr⟩ hgw 0 v0) hgw 1 v1) hgw 2 v2) hgw 3 v3) hgw 4 v4

/-- The same, beside the box of the frame that is filled. -/
structure Fq (w0 w wc : World) (g : Nat) (l : List Bool) (q : Nat) (vs : Array Value) : Prop where
  fs : Fs w0 w wc g l
  b3 : wc.heap[q]? = some (.cells vs 35 (0, 0))
  hq : w.heap.size < q

theorem Fq.new {w0 w wc : World} {g : Nat} {l : List Bool} (h : Fs w0 w wc g l) (hgw : g < w.heap.size) (vs : Array Value) : Fq w0 w (wc.alloc (.cells vs 35)) g l wc.heap.size vs := ⟨h.alloc hgw _, heap_alloc_new wc _, h.size⟩
theorem Fq.set {w0 w wc : World} {g q : Nat} {l : List Bool} {vs : Array Value} (h : Fq w0 w wc g l q vs) (hgw : g < w.heap.size) (hg : w0.heap.size ≤ g) (i : Nat) (v : Value) : Fq w0 w (wc.setCell ⟨q, i, none⟩ v) g l q (vs.setIfInBounds i v) :=
  ⟨h.fs.set hgw hg h.hq i v, heap_setCell_same wc q i _ _ v h.b3, h.hq⟩
theorem Fq.call {w0 w wc : World} {g q : Nat} {l : List Bool} {vs : Array Value} (h : Fq w0 w wc g l q vs) (hg : w0.heap.size ≤ g) (hgw : g < w.heap.size) (k : Int) (m v : Nat) (l' : List Bool) (hk : k = (m : Int)) (hm : m ≤ l.length) (hv : v = numL (l.take m) % 4294967296) (hl : l' = l.drop m) (hm1 : m ≤ 1000 := by omega) :
    Calls Tryz.prog 207 #[.pointer (some ⟨g, 0, none⟩), .int .i64 k] wc fun e w' => e = .returned (.int .u32 (v : Int)) ∧ Fq w0 w w' g l' q vs := 
  (h.fs.call hg hgw k m v l' hk hm hv hl hm1).mono fun e w' ⟨he, h2, h3⟩ => ⟨he, h2, grow_box h3 h.b3 (by have := h.hq; omega), h.hq⟩

theorem Fq.set0 {w0 w wc : World} {g q : Nat} {l : List Bool} {v0 v1 v2 v3 v4 : Value} (h : Fq w0 w wc g l q #[v0, v1, v2, v3, v4]) (hgw : g < w.heap.size) (hg : w0.heap.size ≤ g) (v : Value) : Fq w0 w (wc.setCell ⟨q, 0, none⟩ v) g l q #[v, v1, v2, v3, v4] := by
  have := h.set hgw hg 0 v
  simpa using this
theorem Fq.set1 {w0 w wc : World} {g q : Nat} {l : List Bool} {v0 v1 v2 v3 v4 : Value} (h : Fq w0 w wc g l q #[v0, v1, v2, v3, v4]) (hgw : g < w.heap.size) (hg : w0.heap.size ≤ g) (v : Value) : Fq w0 w (wc.setCell ⟨q, 1, none⟩ v) g l q #[v0, v, v2, v3, v4] := by
  have := h.set hgw hg 1 v
  simpa using this
theorem Fq.set2 {w0 w wc : World} {g q : Nat} {l : List Bool} {v0 v1 v2 v3 v4 : Value} (h : Fq w0 w wc g l q #[v0, v1, v2, v3, v4]) (hgw : g < w.heap.size) (hg : w0.heap.size ≤ g) (v : Value) : Fq w0 w (wc.setCell ⟨q, 2, none⟩ v) g l q #[v0, v1, v, v3, v4] := by
  have := h.set hgw hg 2 v
  simpa using this
theorem Fq.set3 {w0 w wc : World} {g q : Nat} {l : List Bool} {v0 v1 v2 v3 v4 : Value} (h : Fq w0 w wc g l q #[v0, v1, v2, v3, v4]) (hgw : g < w.heap.size) (hg : w0.heap.size ≤ g) (v : Value) : Fq w0 w (wc.setCell ⟨q, 3, none⟩ v) g l q #[v0, v1, v2, v, v4] := by
  have := h.set hgw hg 3 v
  simpa using this

set_option maxHeartbeats 4000000 in
theorem fields_base (w0 w : World) (g : Nat) (l : List Bool) (hg : w0.heap.size ≤ g) (hgw : g < w.heap.size) (hb : Below w0.heap.size w0 w) (hr : Rw w0 w g l) (hm : 19 ≤ l.length) (h13 : l[13]? = some false) :
    Calls Tryz.prog 208 #[.func (.func 207) #[.pointer (some ⟨g, 0, none⟩)] #[]] w fun e w' => e = .returned (.agg #[.int .u32 (numL ((l.drop 1).take 11) : Int), .bool false, .bool (l[12]?.getD false), .int .u8 (numL ((l.drop 15).take 4) : Int), .slice none 0 0]) ∧ Rw w0 w' g (l.drop 19) ∧ w.grownBy w' (some g) := by
  have fs1 : Fs w0 w (w.alloc (.cells #[.int .u32 0, .bool false, .bool false, .int .u8 0, .slice none 0 0] 35)) g l :=
    ⟨hr.grown (Below.heap_alloc _ _ _ hgw), hb.alloc hb.size _, ⟨rfl, rfl, rfl, by simp, fun k hk _ => Below.heap_alloc _ _ _ hk⟩, heap_alloc_new w _⟩
  obtain ⟨id, hid'⟩ : ∃ id, id = numL ((l.drop 1).take 11) := ⟨_, rfl⟩
  obtain ⟨dl, hdl⟩ : ∃ dl, dl = numL ((l.drop 15).take 4) := ⟨_, rfl⟩
  obtain ⟨x0, hx0⟩ : ∃ x0, l[0]? = some x0 := ⟨l[0], by simp⟩
  obtain ⟨x12, hx12⟩ : ∃ x, l[12]? = some x := ⟨l[12], by simp⟩
  obtain ⟨x14, hx14⟩ : ∃ x, l[14]? = some x := ⟨l[14], by simp⟩
  have hid2 : id < 2048 := by rw [hid']; have := numL_lt ((l.drop 1).take 11); rw [List.length_take, List.length_drop] at this; exact Nat.lt_of_lt_of_le this (Nat.pow_le_pow_right (n := 2) (j := 11) (by decide) (by omega))
  have hdl2 : dl < 16 := by rw [hdl]; have := numL_lt ((l.drop 15).take 4); rw [List.length_take, List.length_drop] at this; exact Nat.lt_of_lt_of_le this (Nat.pow_le_pow_right (n := 2) (j := 4) (by decide) (by omega))
  obtain ⟨v0, hv0⟩ : ∃ v0, v0 = x0.toNat := ⟨_, rfl⟩
  obtain ⟨v12, hv12⟩ : ∃ v12, v12 = x12.toNat := ⟨_, rfl⟩
  obtain ⟨v14, hv14⟩ : ∃ v14, v14 = x14.toNat := ⟨_, rfl⟩
  have n1 : v0 = numL (l.take 1) % 4294967296 := hv0.trans (num1 hx0).symm
  have n2 : id = numL ((l.drop 1).take 11) % 4294967296 := by rw [hid'] at hid2 ⊢; omega
  have n3 : v12 = numL ((l.drop 12).take 1) % 4294967296 := hv12.trans (num1 (by rw [List.getElem?_drop]; exact hx12)).symm
  have n4 : 0 = numL ((l.drop 13).take 1) % 4294967296 := (num1 (x := false) (by rw [List.getElem?_drop]; exact h13)).symm
  have n5 : v14 = numL ((l.drop 14).take 1) % 4294967296 := hv14.trans (num1 (by rw [List.getElem?_drop]; exact hx14)).symm
  have n6 : dl = numL ((l.drop 15).take 4) % 4294967296 := by rw [hdl] at hdl2 ⊢; omega
  have k1 := fun wc (fs : Fs w0 w wc g l) => fs.call hg hgw 1 1 v0 (l.drop 1) rfl (by omega) n1 rfl
  have k2 := fun wc (fs : Fs w0 w wc g (l.drop 1)) => fs.call hg hgw 11 11 id (l.drop 12) rfl (by simp; omega) n2 (by rw [List.drop_drop])
  have k3 := fun wc q vs (fs : Fq w0 w wc g (l.drop 12) q vs) => fs.call hg hgw 1 1 v12 (l.drop 13) rfl (by simp; omega) n3 (by rw [List.drop_drop])
  have k4 := fun wc q vs (fs : Fq w0 w wc g (l.drop 13) q vs) => fs.call hg hgw 1 1 0 (l.drop 14) rfl (by simp; omega) n4 (by rw [List.drop_drop])
  have k5 := fun wc q vs (fs : Fq w0 w wc g (l.drop 14) q vs) => fs.call hg hgw 1 1 v14 (l.drop 15) rfl (by simp; omega) n5 (by rw [List.drop_drop])
  have k6 := fun wc q vs (fs : Fq w0 w wc g (l.drop 15) q vs) => fs.call hg hgw 4 4 dl (l.drop 19) rfl (by simp; omega) n6 (by rw [List.drop_drop])
  rw [← hid', ← hdl, hx12]
  have e12 : ((v12 : Int) == 1) = x12 := by rw [hv12]; cases x12 <;> rfl
  have w12 : v12 < 2 := by rw [hv12]; cases x12 <;> decide
  clear hv0 hv12 hv14 hid' hdl hx0 hx12 hx14 n1 n2 n3 n4 n5 n6 h13 hr hb
  simp only [Option.getD_some]
  go_enter Tryz.func208, Tryz.ntmps208
  go_wp2_with (first
    | (go_at_call 207; (with_reducible refine (k1 _ fs1).mono ?_); rintro e w2 ⟨rfl, fs2, -⟩)
    | (go_at_call 207; (with_reducible refine (k2 w2 fs2).mono ?_); rintro e w3 ⟨rfl, fs3, -⟩; have fq3 := Fq.new fs3 hgw #[.int .u32 (id : Int), .bool false, .bool false, .int .u8 0, .slice none 0 0]; clear fs1 fs2)
    | (go_at_call 207; (with_reducible refine (k3 _ _ _ fq3).mono ?_); rintro e w4 ⟨rfl, fq4⟩; have f4 := bx_thaw fq4.b3 2; have p4 := (bx5 fq4.b3).2.2.1; have fq4' := fq4.set2 hgw hg (.bool x12))
    | (go_at_call 207; (with_reducible refine (k4 _ _ _ fq4').mono ?_); rintro e w5 ⟨rfl, fq5⟩; have f5 := bx_thaw fq5.b3 1; have p5 := (bx5 fq5.b3).2.1; clear f4 p4; have fq5' := fq5.set1 hgw hg (.bool false))
    | (go_at_call 207; (with_reducible refine (k5 _ _ _ fq5').mono ?_); rintro e w6 ⟨rfl, fq6⟩)
    | (go_at_call 207; (with_reducible refine (k6 _ _ _ fq6).mono ?_); rintro e w7 ⟨rfl, fq7⟩; clear f5 p5; have f7 := bx_thaw fq7.b3 3; obtain ⟨c0, c1, c2, c3, c4⟩ := bx5 fq7.b3; have f8 := bx_thaw fq7.fs.b2; obtain ⟨d0, d1, d2, d3, d4⟩ := bx5 fq7.fs.b2; have hq7 := fq7.hq))
  have fin := (fq7.set3 hgw hg (.int .u8 (dl : Int))).fs.fin hgw (.int .u32 (id : Int)) (.bool false) (.bool x12) (.int .u8 (dl : Int)) (.slice none 0 0)
  exact bodyPost_ret (v := .agg #[.int .u32 (id : Int), .bool false, .bool x12, .int .u8 (dl : Int), .slice none 0 0]) (by simp [results, Tryz.results208, go_sem, d0, d1, d2, d3, d4]) rfl ⟨rfl, fin.1, fin.2⟩
end Go.Proofs.YtajdbimdiodalaaGreat

namespace Go.Proofs.YtajdbimdiodalaaGreat
open Go.RowKit Go.Sort
set_option linter.unusedVariables false

set_option maxHeartbeats 4000000 in
theorem fields_ext (w0 w : World) (g : Nat) (l : List Bool) (hg : w0.heap.size ≤ g) (hgw : g < w.heap.size) (hb : Below w0.heap.size w0 w) (hr : Rw w0 w g l) (hm : 39 ≤ l.length) (h13 : l[13]? = some true) :
    Calls Tryz.prog 208 #[.func (.func 207) #[.pointer (some ⟨g, 0, none⟩)] #[]] w fun e w' => e = .returned (.agg #[.int .u32 (numL ((l.drop 1).take 11) * 262144 + numL ((l.drop 14).take 18) : Nat), .bool true, .bool (l[32]?.getD false), .int .u8 (numL ((l.drop 35).take 4) : Int), .slice none 0 0]) ∧ Rw w0 w' g (l.drop 39) ∧ w.grownBy w' (some g) := by
  have fs1 : Fs w0 w (w.alloc (.cells #[.int .u32 0, .bool false, .bool false, .int .u8 0, .slice none 0 0] 35)) g l :=
    ⟨hr.grown (Below.heap_alloc _ _ _ hgw), hb.alloc hb.size _, ⟨rfl, rfl, rfl, by simp, fun k hk _ => Below.heap_alloc _ _ _ hk⟩, heap_alloc_new w _⟩
  obtain ⟨up, hup⟩ : ∃ up, up = numL ((l.drop 1).take 11) := ⟨_, rfl⟩
  obtain ⟨lo, hlo⟩ : ∃ lo, lo = numL ((l.drop 14).take 18) := ⟨_, rfl⟩
  obtain ⟨dl, hdl⟩ : ∃ dl, dl = numL ((l.drop 35).take 4) := ⟨_, rfl⟩
  obtain ⟨x0, hx0⟩ : ∃ x0, l[0]? = some x0 := ⟨l[0], by simp⟩
  obtain ⟨x12, hx12⟩ : ∃ x, l[12]? = some x := ⟨l[12], by simp⟩
  obtain ⟨x32, hx32⟩ : ∃ x, l[32]? = some x := ⟨l[32], by simp⟩
  obtain ⟨x33, hx33⟩ : ∃ x, l[33]? = some x := ⟨l[33], by simp⟩
  obtain ⟨x34, hx34⟩ : ∃ x, l[34]? = some x := ⟨l[34], by simp⟩
  have hup2 : up < 2048 := by rw [hup]; have := numL_lt ((l.drop 1).take 11); rw [List.length_take, List.length_drop] at this; exact Nat.lt_of_lt_of_le this (Nat.pow_le_pow_right (n := 2) (j := 11) (by decide) (by omega))
  have hlo2 : lo < 262144 := by rw [hlo]; have := numL_lt ((l.drop 14).take 18); rw [List.length_take, List.length_drop] at this; exact Nat.lt_of_lt_of_le this (Nat.pow_le_pow_right (n := 2) (j := 18) (by decide) (by omega))
  have hdl2 : dl < 16 := by rw [hdl]; have := numL_lt ((l.drop 35).take 4); rw [List.length_take, List.length_drop] at this; exact Nat.lt_of_lt_of_le this (Nat.pow_le_pow_right (n := 2) (j := 4) (by decide) (by omega))
  obtain ⟨v0, hv0⟩ : ∃ v0, v0 = x0.toNat := ⟨_, rfl⟩
  obtain ⟨v12, hv12⟩ : ∃ v12, v12 = x12.toNat := ⟨_, rfl⟩
  obtain ⟨v32, hv32⟩ : ∃ v32, v32 = x32.toNat := ⟨_, rfl⟩
  obtain ⟨v33, hv33⟩ : ∃ v33, v33 = x33.toNat := ⟨_, rfl⟩
  obtain ⟨v34, hv34⟩ : ∃ v34, v34 = x34.toNat := ⟨_, rfl⟩
  have n1 : v0 = numL (l.take 1) % 4294967296 := hv0.trans (num1 hx0).symm
  have n2 : up = numL ((l.drop 1).take 11) % 4294967296 := by rw [hup] at hup2 ⊢; omega
  have n3 : v12 = numL ((l.drop 12).take 1) % 4294967296 := hv12.trans (num1 (by rw [List.getElem?_drop]; exact hx12)).symm
  have n4 : 1 = numL ((l.drop 13).take 1) % 4294967296 := (num1 (x := true) (by rw [List.getElem?_drop]; exact h13)).symm
  have n5 : lo = numL ((l.drop 14).take 18) % 4294967296 := by rw [hlo] at hlo2 ⊢; omega
  have n6 : v32 = numL ((l.drop 32).take 1) % 4294967296 := hv32.trans (num1 (by rw [List.getElem?_drop]; exact hx32)).symm
  have n7 : v33 = numL ((l.drop 33).take 1) % 4294967296 := hv33.trans (num1 (by rw [List.getElem?_drop]; exact hx33)).symm
  have n8 : v34 = numL ((l.drop 34).take 1) % 4294967296 := hv34.trans (num1 (by rw [List.getElem?_drop]; exact hx34)).symm
  have n9 : dl = numL ((l.drop 35).take 4) % 4294967296 := by rw [hdl] at hdl2 ⊢; omega
  have k1 := fun wc (fs : Fs w0 w wc g l) => fs.call hg hgw 1 1 v0 (l.drop 1) rfl (by omega) n1 rfl
  have k2 := fun wc (fs : Fs w0 w wc g (l.drop 1)) => fs.call hg hgw 11 11 up (l.drop 12) rfl (by simp; omega) n2 (by rw [List.drop_drop])
  have k3 := fun wc q vs (fs : Fq w0 w wc g (l.drop 12) q vs) => fs.call hg hgw 1 1 v12 (l.drop 13) rfl (by simp; omega) n3 (by rw [List.drop_drop])
  have k4 := fun wc q vs (fs : Fq w0 w wc g (l.drop 13) q vs) => fs.call hg hgw 1 1 1 (l.drop 14) rfl (by simp; omega) n4 (by rw [List.drop_drop])
  have k5 := fun wc q vs (fs : Fq w0 w wc g (l.drop 14) q vs) => fs.call hg hgw 18 18 lo (l.drop 32) rfl (by simp; omega) n5 (by rw [List.drop_drop])
  have k6 := fun wc q vs (fs : Fq w0 w wc g (l.drop 32) q vs) => fs.call hg hgw 1 1 v32 (l.drop 33) rfl (by simp; omega) n6 (by rw [List.drop_drop])
  have k7 := fun wc q vs (fs : Fq w0 w wc g (l.drop 33) q vs) => fs.call hg hgw 1 1 v33 (l.drop 34) rfl (by simp; omega) n7 (by rw [List.drop_drop])
  have k8 := fun wc q vs (fs : Fq w0 w wc g (l.drop 34) q vs) => fs.call hg hgw 1 1 v34 (l.drop 35) rfl (by simp; omega) n8 (by rw [List.drop_drop])
  have k9 := fun wc q vs (fs : Fq w0 w wc g (l.drop 35) q vs) => fs.call hg hgw 4 4 dl (l.drop 39) rfl (by simp; omega) n9 (by rw [List.drop_drop])
  rw [← hup, ← hlo, ← hdl, hx32]
  have e12 : ((v12 : Int) == 1) = x12 := by rw [hv12]; cases x12 <;> rfl
  have e32 : ((v32 : Int) == 1) = x32 := by rw [hv32]; cases x32 <;> rfl
  have w12 : v12 < 2 := by rw [hv12]; cases x12 <;> decide
  have w32 : v32 < 2 := by rw [hv32]; cases x32 <;> decide
  clear hv0 hv12 hv32 hv33 hv34 hup hlo hdl hx0 hx12 hx32 hx33 hx34 n1 n2 n3 n4 n5 n6 n7 n8 n9 h13 hr hb
  simp only [Option.getD_some]
  obtain ⟨id, hid0⟩ : ∃ id, id = up * 262144 + lo := ⟨_, rfl⟩
  rw [← hid0]
  have hor : bits .or .u32 ((up * 262144 : Nat) : Int) (lo : Int) = (id : Int) := by
    rw [(u32_bits (up * 262144) lo (by omega) (by omega)).2, hid0]
    rw [show up * 262144 = 2 ^ 18 * up from by omega, ← Nat.two_pow_add_eq_or_of_lt hlo2]
  have hid2 : id < 4294967296 := by omega
  obtain ⟨us, hus⟩ : ∃ us, us = up * 262144 := ⟨_, rfl⟩
  have hsh : Op.shift .shl .u32 (up : Int) .u64 18 = pure (.int .u32 (us : Int)) := by
    have h1 := shift_shl_u32 (x := (up : Int)) (y := 18) (yk := .u64) (by omega) (by omega)
    rw [h1, hus]
    have h2 : (up : Int) * 2 ^ (18 : Int).toNat = ((up * 262144 : Nat) : Int) := by norm_cast
    rw [h2, IntWalk.u32_in ((up * 262144 : Nat) : Int) (by omega)]
  rw [← hus] at hor
  clear hid0 hus
  go_enter Tryz.func208, Tryz.ntmps208
  go_wp2_with (first
    | (go_at_call 207; (with_reducible refine (k1 _ fs1).mono ?_); rintro e w2 ⟨rfl, fs2, -⟩)
    | (go_at_call 207; (with_reducible refine (k2 w2 fs2).mono ?_); rintro e w3 ⟨rfl, fs3, -⟩; have fq3 := Fq.new fs3 hgw #[.int .u32 (up : Int), .bool false, .bool false, .int .u8 0, .slice none 0 0]; clear fs1 fs2)
    | (go_at_call 207; (with_reducible refine (k3 _ _ _ fq3).mono ?_); rintro e w4 ⟨rfl, fq4⟩; have f4 := bx_thaw fq4.b3 2; have p4 := (bx5 fq4.b3).2.2.1; have fq4' := fq4.set2 hgw hg (.bool x12))
    | (go_at_call 207; (with_reducible refine (k4 _ _ _ fq4').mono ?_); rintro e w5 ⟨rfl, fq5⟩; have f5 := bx_thaw fq5.b3 1; have p5 := (bx5 fq5.b3).2.1; clear f4 p4; have fq5' := fq5.set1 hgw hg (.bool true)))
  have hb5 : Below w0.heap.size w0 (w5.setCell ⟨w3.heap.size, 1, none⟩ (.bool true)).drew := fq5'.fs.bel.drew
  have fq5d : Fq w0 w (w5.setCell ⟨w3.heap.size, 1, none⟩ (.bool true)).drew g (l.drop 14) w3.heap.size #[.int .u32 (up : Int), .bool true, .bool x12, .int .u8 0, .slice none 0 0] := ⟨⟨fq5'.fs.row, fq5'.fs.bel.drew, grow_trans fq5'.fs.gr ⟨rfl, rfl, rfl, Nat.le_refl _, fun _ _ _ => rfl⟩, fq5'.fs.b2⟩, fq5'.b3, fq5'.hq⟩
  obtain ⟨c0, c1, c2, c3, c4⟩ := bx5 fq5'.b3
  clear p5 f5
  go_cut [19] (fun s19 wx => ∃ w6, Fq w0 w w6 g (l.drop 32) w3.heap.size #[.int .u32 (up : Int), .bool true, .bool x12, .int .u8 0, .slice none 0 0] ∧ wx = w6.setCell ⟨w3.heap.size, 0, none⟩ (.int .u32 (id : Int)))
  case first =>
    have k5' := k5 _ _ _ fq5d
    clear k1 k2 k3 k4 k5 k6 k7 k8 k9 fq3 fq4 fq4' fq5
    go_region_law
      (first
        | (go_simp; go_at_call 207; (with_reducible refine Calls.mono k5' ?_); rintro e w6 ⟨rfl, fq6⟩; have p6 := (bx5 fq6.b3).1; have f6 := bx_thaw fq6.b3 0))
    all_goals
      go_wp2_with fail
      go_meet
      exact ⟨w6, fq6, rfl⟩
  case rest =>
    obtain ⟨w6, fq6, rfl⟩ := hcut
    have fq6' := fq6.set0 hgw hg (.int .u32 (id : Int))
    clear fq3 fq4 fq4' fq5 fq5' fq5d c0 c1 c2 c3 c4 k1 k2 k3 k4 k5
    go_wp2_with (first
      | (go_at_call 207; (with_reducible refine (k6 _ _ _ fq6').mono ?_); rintro e w7 ⟨rfl, fq7⟩; have f7 := bx_thaw fq7.b3 2; have p7 := (bx5 fq7.b3).2.2.1; have fq7' := fq7.set2 hgw hg (.bool x32))
      | (go_at_call 207; (with_reducible refine (k7 _ _ _ fq7').mono ?_); rintro e w8 ⟨rfl, fq8⟩)
      | (go_at_call 207; (with_reducible refine (k8 _ _ _ fq8).mono ?_); rintro e w9 ⟨rfl, fq9⟩)
      | (go_at_call 207; (with_reducible refine (k9 _ _ _ fq9).mono ?_); rintro e w10 ⟨rfl, fq10⟩; clear f7 p7; have f7 := bx_thaw fq10.b3 3; obtain ⟨c0, c1, c2, c3, c4⟩ := bx5 fq10.b3; have f8 := bx_thaw fq10.fs.b2; obtain ⟨d0, d1, d2, d3, d4⟩ := bx5 fq10.fs.b2; have hq10 := fq10.hq))
    have fin := (fq10.set3 hgw hg (.int .u8 (dl : Int))).fs.fin hgw (.int .u32 (id : Int)) (.bool true) (.bool x32) (.int .u8 (dl : Int)) (.slice none 0 0)
    exact bodyPost_ret (v := .agg #[.int .u32 (id : Int), .bool true, .bool x32, .int .u8 (dl : Int), .slice none 0 0]) (by simp [results, Tryz.results208, go_sem, d0, d1, d2, d3, d4]) rfl ⟨rfl, fin.1, fin.2⟩
end Go.Proofs.YtajdbimdiodalaaGreat

namespace Go.Proofs.YtajdbimdiodalaaGreat
open Go.RowKit Go.Sort
set_option linter.unusedVariables false

/-- The frame, without data, of a head. -/
def reF (l : List Bool) : Fr :=
  if l[13]?.getD false then ⟨numL ((l.drop 1).take 11) * 262144 + numL ((l.drop 14).take 18), true, l[32]?.getD false, numL ((l.drop 35).take 4), []⟩
  else ⟨numL ((l.drop 1).take 11), false, l[12]?.getD false, numL ((l.drop 15).take 4), []⟩

/-- How many bits its head has. -/
def heM (l : List Bool) : Nat := if l[13]?.getD false then 39 else 19
/-- Whether the head is there. -/
def hdK (l : List Bool) : Bool := decide (19 ≤ l.length) && (!(l[13]?.getD false) || decide (39 ≤ l.length))
/-- How many bits its body has. -/
def hdN (l : List Bool) : Nat := heM l + 8 * lonF (reF l).rem (reF l).dlc + 15

theorem lonF_le (rem : Bool) (dlc : Nat) : lonF rem dlc ≤ 8 := by unfold lonF; split <;> omega
theorem numL_take_lt (l : List Bool) (k : Nat) : numL (l.take k) < 2 ^ k := Nat.lt_of_lt_of_le (numL_lt _) (Nat.pow_le_pow_right (n := 2) (by decide) (by rw [List.length_take]; omega))
theorem reF_lt (l : List Bool) : (reF l).id < 4294967296 ∧ (reF l).dlc < 16 := by
  have h1 := numL_take_lt (l.drop 1) 11
  have h2 := numL_take_lt (l.drop 14) 18
  have h3 := numL_take_lt (l.drop 35) 4
  have h4 := numL_take_lt (l.drop 15) 4
  unfold reF; split <;> constructor <;> dsimp only <;> omega

theorem fields_any (w0 w : World) (g : Nat) (l : List Bool) (hg : w0.heap.size ≤ g) (hgw : g < w.heap.size) (hb : Below w0.heap.size w0 w) (hr : Rw w0 w g l) (hk : hdK l = true) :
    Calls Tryz.prog 208 #[.func (.func 207) #[.pointer (some ⟨g, 0, none⟩)] #[]] w fun e w' => e = .returned (.agg #[.int .u32 ((reF l).id : Int), .bool (reF l).ext, .bool (reF l).rem, .int .u8 ((reF l).dlc : Int), .slice none 0 0]) ∧ Rw w0 w' g (l.drop (heM l)) ∧ w.grownBy w' (some g) := by
  unfold hdK at hk
  simp only [Bool.and_eq_true, decide_eq_true_eq, Bool.or_eq_true, Bool.not_eq_true'] at hk
  obtain ⟨h19, hk⟩ := hk
  obtain ⟨x, hx⟩ : ∃ x, l[13]? = some x := ⟨l[13], by simp⟩
  unfold reF heM
  rw [hx] at hk ⊢
  cases x
  · exact fields_base w0 w g l hg hgw hb hr h19 hx
  · simp at hk
    exact fields_ext w0 w g l hg hgw hb hr hk hx

theorem fhead_none (w : World) (a : Option Addr) (n c : Nat) (l : List Bool) (h : RL .bool w a n c l) (hn : n ≤ 9223372036854775807) (hk : hdK l = false) :
    Calls Tryz.prog 205 #[.slice a n c] w fun e w' => e = .returned (.tuple #[.int .i64 0, .bool false]) ∧ Below w.heap.size w w' := by
  unfold hdK at hk
  rw [h.len] at hk
  by_cases h13 : n ≤ 13
  · go_enter Tryz.func205, Tryz.ntmps205
    go_wp2
    go_ret2
    exact ⟨rfl, Below.refl _ _⟩
  · obtain ⟨b, off, x, rfl, hx, hck⟩ := h.at (k := 13) (by omega)
    rw [hx] at hk
    clear hx
    have i1 : 13 < n := by omega
    cases x
    · simp at hk
      go_enter Tryz.func205, Tryz.ntmps205
      go_wp2
      go_ret2
      exact ⟨rfl, Below.refl _ _⟩
    · simp at hk
      have i2 : n < 39 := by omega
      go_enter Tryz.func205, Tryz.ntmps205
      go_wp2
      go_ret2
      exact ⟨rfl, Below.refl _ _⟩

theorem fhead_any (w : World) (a : Option Addr) (n c : Nat) (l : List Bool) (h : RL .bool w a n c l) (hn : n ≤ 9223372036854775807) (hk : hdK l = true) :
    Calls Tryz.prog 205 #[.slice a n c] w fun e w' => e = .returned (.tuple #[.int .i64 (hdN l : Int), .bool true]) ∧ Below w.heap.size w w' := by
  have hmf : ∀ (fn : Fn) (first cap : Array Value) (w : World), (Instr.makeFunc fn first cap).run Tryz.prog w = .ok (.func fn first cap) w := fun _ _ _ _ => rfl
  have hg1 : w.heap.size < (w.alloc (.cells #[.slice a n c] 239)).heap.size := by simp
  have hrw : Rw w (w.alloc (.cells #[.slice a n c] 239)) w.heap.size l := ⟨a, n, c, heap_alloc_new w _, h⟩
  have hf := fields_any w _ _ l (Nat.le_refl _) hg1 (bnew0 w _) hrw hk
  obtain ⟨q1, q2⟩ := reF_lt l
  obtain ⟨q, hq⟩ : ∃ q, q = lonF (reF l).rem (reF l).dlc := ⟨_, rfl⟩
  have hlo := fun w0 => frLong_any w0 (reF l).id (reF l).ext (reF l).rem (reF l).dlc none 0 0 (by omega)
  have hq8 := lonF_le (reF l).rem (reF l).dlc
  rw [← hq] at hlo hq8
  have HQ : Hid (hdN l = heM l + 8 * q + 15) := by show _ = _; rw [hq]; rfl
  rw [HQ.out]
  clear hq
  obtain ⟨fr, hfr⟩ : ∃ fr, fr = reF l := ⟨_, rfl⟩
  rw [← hfr] at hf hlo
  obtain ⟨id, ext, rem, dlc, dat⟩ := fr
  dsimp only at hf hlo
  clear hfr q1 q2 hrw HQ
  unfold hdK at hk
  unfold heM at hf ⊢
  rw [h.len] at hk
  have h19 : 19 ≤ n := by simp at hk; omega
  obtain ⟨b, off, x, rfl, hx, hck⟩ := h.at (k := 13) (by omega)
  rw [hx] at hk hf ⊢
  clear hx
  cases x
  all_goals
    simp only [Option.getD_some, Bool.false_eq_true, if_false, if_true, Bool.not_true, Bool.false_or, Bool.and_eq_true, decide_eq_true_eq] at hk hf ⊢
    (first | (have h39 := hk.2) | skip)
    clear hk
    go_enter Tryz.func205, Tryz.ntmps205
    go_wp2_with (first
      | (go_at_call 208; (with_reducible refine hf.mono ?_); rintro e w2 ⟨rfl, -, g2⟩; have gg2 : Below w.heap.size w w2 := (bnew0 w _).grown g2 (Nat.le_of_lt hg1) (fun q hq => by simp at hq; omega))
      | (go_at_call 81; (with_reducible refine (hlo w2).mono ?_); rintro e w3 ⟨rfl, g3⟩; have gg3 := bstep gg2 g3))
    go_ret2
    exact ⟨by first | rfl | (congr 4; done) | (congr 4; push_cast; omega), gg3⟩
end Go.Proofs.YtajdbimdiodalaaGreat

namespace Go.Proofs.YtajdbimdiodalaaGreat
set_option maxRecDepth 100000
open Go.RowKit Go.Sort
set_option linter.unusedVariables false

theorem below_five {w w1 : World} (h : Below w.heap.size w w1) (v0 v1 v2 v3 v4 : Value) : Below w.heap.size w (((((w1.setCell ⟨w.heap.size, 0, none⟩ v0).setCell ⟨w.heap.size, 1, none⟩ v1).setCell ⟨w.heap.size, 2, none⟩ v2).setCell ⟨w.heap.size, 3, none⟩ v3).setCell ⟨w.heap.size, 4, none⟩ v4) :=
  ((((h.setCell (by simp) _).setCell (by simp) _).setCell (by simp) _).setCell (by simp) _).setCell (by simp) _

end Go.Proofs.YtajdbimdiodalaaGreat

namespace Go.Proofs.YtajdbimdiodalaaGreat
open Go.RowKit Go.Sort
set_option linter.unusedVariables false

/-- Whether the bits have the form of a body. -/
def paK (l : List Bool) : Bool := hdK l && !(l[0]?.getD false) && decide (l.length = hdN l)

theorem zero_new (w : World) : ∃ w1, Hid (w.alloc (.cells #[.int .u32 0, .bool false, .bool false, .int .u8 0, .slice none 0 0] 35) = w1) ∧ w1.heap[w.heap.size]? = some (.cells #[.int .u32 0, .bool false, .bool false, .int .u8 0, .slice none 0 0] 35 (0, 0)) ∧ Below w.heap.size w w1 := ⟨_, rfl, heap_alloc_new w _, bnew0 w _⟩

theorem hdN_le (l : List Bool) : 34 ≤ hdN l ∧ hdN l ≤ 118 := by
  have := lonF_le (reF l).rem (reF l).dlc
  unfold hdN heM; split <;> omega

theorem parse_bits (w : World) (a : Option Addr) (n c : Nat) (l : List Bool) (h : RL .bool w a n c l) (hn : n ≤ 9223372036854775807) (hk : paK l = false) :
    Calls Tryz.prog 187 #[.slice a n c] w fun e w' => e = .returned (.tuple #[.agg #[.int .u32 0, .bool false, .bool false, .int .u8 0, .slice none 0 0], .int .i64 41]) ∧ Below w.heap.size w w' := by
  obtain ⟨w1, hw1, hb1, g1⟩ := zero_new w
  have h1 := h.below g1
  cases hd : hdK l
  · have hH := fhead_none w1 a n c l h1 hn hd
    clear hk
    go_enter Tryz.func187, Tryz.ntmps187
    go_wp2_with (go_at_call 205; rw [hw1.out]; (with_reducible refine hH.mono ?_); rintro e w2 ⟨rfl, g2⟩; have hb2 := bx_below hb1 g2; obtain ⟨d0, d1, d2, d3, d4⟩ := bx5 hb2; have f8 := bx_thaw hb2; have hset := below_five (bstep g1 g2))
    exact bodyPost_ret (v := .tuple #[.agg #[.int .u32 0, .bool false, .bool false, .int .u8 0, .slice none 0 0], .int .i64 41]) (by simp [results, Tryz.results187, go_sem, d0, d1, d2, d3, d4]) rfl ⟨rfl, hset _ _ _ _ _⟩
  · have hH := fhead_any w1 a n c l h1 hn hd
    obtain ⟨N, hN⟩ : ∃ N, N = hdN l := ⟨_, rfl⟩
    have hN2 := hdN_le l
    rw [← hN] at hH hN2
    have h19 : 19 ≤ n := by unfold hdK at hd; rw [h.len] at hd; simp at hd; omega
    unfold paK at hk
    rw [hd, h.len, ← hN] at hk
    obtain ⟨b, off, x, rfl, hx, hck⟩ := h.at (k := 0) (by omega)
    obtain ⟨_, _, x', e, hx', hck1⟩ := h1.at (k := 0) (by omega)
    cases e
    obtain rfl : x' = x := by rw [hx'] at hx; simpa using hx
    have hlt : b < w1.heap.size := by obtain ⟨b', off', e, hl, _⟩ := h1.cell (by omega); cases e; exact hl
    rw [hx] at hk
    clear hx hx' hd hN
    have i0 : 0 < n := by omega
    cases x'
    · simp at hk
      have hne : ((n : Int) != (N : Int)) = true := by simp; omega
      have hne' : ((n : Int) == (N : Int)) = false := by simp; omega
      clear hk
      go_enter Tryz.func187, Tryz.ntmps187
      go_wp2_with (go_at_call 205; rw [hw1.out]; (with_reducible refine hH.mono ?_); rintro e w2 ⟨rfl, g2⟩; have hb2 := bx_below hb1 g2; obtain ⟨d0, d1, d2, d3, d4⟩ := bx5 hb2; have f8 := bx_thaw hb2; have hset := below_five (bstep g1 g2); have c0 : w2.cell? ⟨b, off, none⟩ = some (.bool false) := (by rw [g2.cell (p := ⟨b, off, none⟩) hlt]; exact hck1))
      exact bodyPost_ret (v := .tuple #[.agg #[.int .u32 0, .bool false, .bool false, .int .u8 0, .slice none 0 0], .int .i64 41]) (by simp [results, Tryz.results187, go_sem, d0, d1, d2, d3, d4]) rfl ⟨rfl, hset _ _ _ _ _⟩
    · clear hk
      go_enter Tryz.func187, Tryz.ntmps187
      go_wp2_with (go_at_call 205; rw [hw1.out]; (with_reducible refine hH.mono ?_); rintro e w2 ⟨rfl, g2⟩; have hb2 := bx_below hb1 g2; obtain ⟨d0, d1, d2, d3, d4⟩ := bx5 hb2; have f8 := bx_thaw hb2; have hset := below_five (bstep g1 g2); have c0 : w2.cell? ⟨b, off, none⟩ = some (.bool true) := (by rw [g2.cell (p := ⟨b, off, none⟩) hlt]; exact hck1))
      exact bodyPost_ret (v := .tuple #[.agg #[.int .u32 0, .bool false, .bool false, .int .u8 0, .slice none 0 0], .int .i64 41]) (by simp [results, Tryz.results187, go_sem, d0, d1, d2, d3, d4]) rfl ⟨rfl, hset _ _ _ _ _⟩

end Go.Proofs.YtajdbimdiodalaaGreat

namespace Go.Proofs.YtajdbimdiodalaaGreat

theorem xoL_get {l m : List Bool} {j : Nat} {x y : Bool} (hx : l[j]? = some x) (hy : m[j]? = some y) : (xoL l m)[j]? = some (x != y) := by
  unfold xoL; rw [List.getElem?_zipWith, hx, hy]

end Go.Proofs.YtajdbimdiodalaaGreat

namespace Go.Proofs.YtajdbimdiodalaaGreat
open Go.RowKit Go.Sort
set_option linter.unusedVariables false

/-- The data that the bits of a body say. -/
def paD (l : List Bool) : List UInt8 := byL ((l.drop (heM l)).take (8 * lonF (reF l).rem (reF l).dlc))

theorem foV_tail (s : BitVec 15) (d : List Bool) (hd : d.length = 15) : foV s d = 0#15 ↔ d = biV s := by
  have hb : (biV s).length = 15 := biV_length s
  have hx : xoL (biV s) (xoL (biV s) d) = d := by
    apply List.ext_getElem?
    intro i
    unfold xoL
    rw [List.getElem?_zipWith, List.getElem?_zipWith]
    by_cases hi : i < 15
    · obtain ⟨x, e1⟩ : ∃ x, (biV s)[i]? = some x := ⟨_, List.getElem?_eq_getElem (by omega)⟩
      obtain ⟨y, e2⟩ : ∃ y, d[i]? = some y := ⟨_, List.getElem?_eq_getElem (by omega)⟩
      rw [e1, e2]
      cases x <;> cases y <;> rfl
    · rw [List.getElem?_eq_none (by omega : d.length ≤ i), List.getElem?_eq_none (by omega : (biV s).length ≤ i)]
  have hl : (xoL (biV s) d).length = 15 := by unfold xoL; rw [List.length_zipWith]; omega
  have h := foV_xor (biV s) (xoL (biV s) d) s 0#15 (by omega)
  rw [hx, foV_own, BitVec.xor_zero, BitVec.zero_xor] at h
  rw [h]
  constructor
  · intro h0
    by_cases ht : true ∈ xoL (biV s) d
    · exact absurd h0 (suV_burst (by omega) ht)
    · apply List.ext_getElem?
      intro i
      by_cases hi : i < 15
      · obtain ⟨x, e1⟩ : ∃ x, (biV s)[i]? = some x := ⟨_, List.getElem?_eq_getElem (by omega)⟩
        obtain ⟨y, e2⟩ : ∃ y, d[i]? = some y := ⟨_, List.getElem?_eq_getElem (by omega)⟩
        have e3 := xoL_get e1 e2
        rw [e1, e2]
        have e4 : (x != y) = false := by
          cases hq : (x != y)
          · rfl
          · rw [hq] at e3; exact absurd (List.mem_of_getElem? e3) ht
        congr 1
        revert e4
        cases x <;> cases y <;> simp
      · rw [List.getElem?_eq_none (by omega : d.length ≤ i), List.getElem?_eq_none (by omega : (biV s).length ≤ i)]
  · intro e
    rw [← h, e, foV_own]

theorem sum_tail {l : List Bool} {E : Nat} (h : l.length = E + 15) : suV l = 0#15 ↔ numL (l.drop E) % 4294967296 = (suV (l.take E)).toNat := by
  have hd : (l.drop E).length = 15 := by rw [List.length_drop]; omega
  have hl : suV l = foV (suV (l.take E)) (l.drop E) := by rw [← suV_append, List.take_append_drop]
  have hn : numL (l.drop E) % 4294967296 = numL (l.drop E) := by
    have := numL_lt (l.drop E); rw [hd] at this; exact Nat.mod_eq_of_lt (by omega)
  rw [hl, foV_tail _ _ hd, hn]
  constructor
  · intro e; rw [e, numL_biV]
  · intro e
    have h1 := ofL_numL (l.drop E)
    rw [hd, e] at h1
    exact h1.symm

theorem paK_parts {l : List Bool} (h : paK l = true) : hdK l = true ∧ l[0]? = some false ∧ l.length = hdN l := by
  unfold paK at h
  simp only [Bool.and_eq_true, decide_eq_true_eq, Bool.not_eq_true'] at h
  obtain ⟨⟨h1, h2⟩, h3⟩ := h
  have := hdN_le l
  obtain ⟨x, hx⟩ : ∃ x, l[0]? = some x := ⟨l[0], by simp⟩
  rw [hx] at h2 ⊢
  simp at h2
  exact ⟨h1, by rw [h2], h3⟩

theorem parse_crc (w : World) (a : Option Addr) (n c : Nat) (l : List Bool) (h : RL .bool w a n c l) (hk : paK l = true) (hs : suV l ≠ 0#15) :
    Calls Tryz.prog 187 #[.slice a n c] w fun e w' => e = .returned (.tuple #[.agg #[.int .u32 0, .bool false, .bool false, .int .u8 0, .slice none 0 0], .int .i64 42]) ∧ Below w.heap.size w w' := by
  obtain ⟨hd, hx, hlN⟩ := paK_parts hk
  have hN2 := hdN_le l
  obtain ⟨w1, hw1, hb1, g1⟩ := zero_new w
  have h1 := h.below g1
  have hH := fhead_any w1 a n c l h1 (by rw [← h.len]; omega) hd
  rw [← hlN, h.len] at hH hN2
  obtain ⟨b, off, x, rfl, hx', hck⟩ := h1.at (k := 0) (by omega)
  obtain rfl : x = false := by rw [hx'] at hx; simpa using hx
  have hlt : b < w1.heap.size := by obtain ⟨b', off', e, hl, _⟩ := h1.cell (by omega); cases e; exact hl
  obtain ⟨E, hE⟩ : ∃ E, n = E + 15 := ⟨n - 15, by omega⟩
  have hst := fun e => hs ((sum_tail (l := l) (E := E) (by rw [h.len]; exact hE)).2 e)
  obtain ⟨a1, c1, p1, p2, hq1⟩ := run_cutFrom tB h1 .i64 E (by omega)
  obtain ⟨a2, p3, p4, hq2⟩ := run_cutTo tB h1 .i64 E (by omega)
  obtain ⟨v1, hv1⟩ : ∃ v1, v1 = numL (l.drop E) % 4294967296 := ⟨_, rfl⟩
  obtain ⟨v2, hv2⟩ : ∃ v2, v2 = (suV (l.take E)).toNat := ⟨_, rfl⟩
  have hv2' : v2 < 32768 := by rw [hv2]; exact (suV (l.take E)).isLt
  rw [← hv1, ← hv2] at hst
  have hst' : ¬ v1 = v2 := hst
  have k1 : ∀ w2, Below w1.heap.size w1 w2 → ∀ d os, Calls Tryz.prog 206 #[.slice a1 (n - E) c1] (grow (redrawn w2 d) os) fun e w'' => e = .returned (.int .u32 (v1 : Int)) ∧ ∃ p : Regrown, w'' = grow (redrawn w2 p.d) p.os := fun w2 g2 d os => by
    rw [hv1]
    exact Calls.regrown_of ((number_any _ a1 _ c1 _ ((hq1.below g2).below (below_regrown _ _ _)) (by omega)).mono fun e w' he => ⟨he.1, by rw [← he.2]; exact Below.refl _ _⟩)
  have k2 : ∀ w2, Below w1.heap.size w1 w2 → ∀ d os, Calls Tryz.prog 203 #[.slice a2 E c] (grow (redrawn w2 d) os) fun e w'' => e = .returned (.int .u16 (v2 : Int)) ∧ ∃ p : Regrown, w'' = grow (redrawn w2 p.d) p.os := fun w2 g2 d os => by
    rw [hv2]
    exact Calls.regrown_of (sum_any _ a2 E c _ ((hq2.below g2).below (below_regrown _ _ _)) (by omega))
  have hEi : (n : Int) - 15 = (E : Int) := by omega
  have hne : ((v1 : Int) != (v2 : Int)) = true := by simp; omega
  have hne' : ((v1 : Int) == (v2 : Int)) = false := by simp; omega
  have i0 : 0 < n := by omega
  have HS : Hid (suV l ≠ 0#15) := hs
  have HE := hid hE
  have hE0 : (0 : Int) ≤ (E : Int) := by omega
  clear hk hs hd hx hx' hlN hst hst' hv1 hv2 hq1 hq2 h h1 hE
  go_enter Tryz.func187, Tryz.ntmps187
  go_wp2_with (go_at_call 205; rw [hw1.out]; (with_reducible refine hH.mono ?_); rintro e w2 ⟨rfl, g2⟩; have hb2 := bx_below hb1 g2; have c0 : w2.cell? ⟨b, off, none⟩ = some (.bool false) := (by rw [g2.cell (p := ⟨b, off, none⟩) hlt]; exact hck))
  have k1' := k1 w2 g2
  have k2' := k2 w2 g2
  clear k1 k2 c0 hck
  refine wp_region_quiet_below (by kernel_rfl) (by kernel_rfl) ?_
  repeat (go_big_quiet_step (first
    | (go_at_call 206; with_reducible exact k1' _ _)
    | (go_at_call 203; with_reducible exact k2' _ _)))
  refine wpQuiet_nil ?_
  intro w9 hw9
  have g9 : Below w2.heap.size w2 w9 := by obtain ⟨p9, rfl⟩ := hw9; exact below_regrown _ _ _
  clear hw9 k1' k2' p1 p2 p3 p4
  have hb9 := bx_below hb2 g9
  obtain ⟨d0, d1, d2, d3, d4⟩ := bx5 hb9
  have f8 := bx_thaw hb9
  have hset := below_five (bstep (bstep g1 g2) g9)
  go_wp2
  exact bodyPost_ret (v := .tuple #[.agg #[.int .u32 0, .bool false, .bool false, .int .u8 0, .slice none 0 0], .int .i64 42]) (by simp [results, Tryz.results187, go_sem, d0, d1, d2, d3, d4]) rfl ⟨rfl, hset _ _ _ _ _⟩
end Go.Proofs.YtajdbimdiodalaaGreat

namespace Go.Proofs.YtajdbimdiodalaaGreat
open Go.RowKit Go.Sort
set_option linter.unusedVariables false

theorem frRight_any (w : World) (id : Nat) (ext rem : Bool) (dlc : Nat) (a : Option Addr) (n c : Nat) (hi : id < 4294967296) (hd : dlc < 256) :
    Calls Tryz.prog 53 #[.agg #[.int .u32 (id : Int), .bool ext, .bool rem, .int .u8 (dlc : Int), .slice a n c]] w fun e w' => e = .returned (.bool (riF id ext rem dlc n)) ∧ Below w.heap.size w w' := by
  obtain ⟨r, hr⟩ : ∃ r, r = riF id ext rem dlc n := ⟨_, rfl⟩
  rw [← hr]
  obtain ⟨L, hL⟩ : ∃ L, L = lonF rem dlc := ⟨_, rfl⟩
  obtain ⟨G, hG⟩ : ∃ G : Int, G = if ext then 536870911 else 2047 := ⟨_, rfl⟩
  have hr2 : r = (decide ((id : Int) ≤ G) && decide ((dlc : Int) ≤ 15) && decide ((n : Int) = L)) := by
    rw [hr, hL, hG]; unfold riF; rw [Bool.eq_iff_iff]; cases ext <;> simp <;> omega
  clear hr
  have HR := hid hr2
  clear hr2
  have hlong : ∀ (w0 : World) d os, Calls Tryz.prog 81 #[.agg #[.int .u32 (id : Int), .bool ext, .bool rem, .int .u8 (dlc : Int), .slice a n c]] (grow (redrawn w0 d) os) fun e w'' => e = .returned (.int .i64 (L : Int)) ∧ ∃ p : Regrown, w'' = grow (redrawn w0 p.d) p.os := fun w0 d os => by
    rw [hL]; exact Calls.regrown_of (frLong_any _ id ext rem dlc a n c hd)
  clear hL
  have hcases : (decide ((id : Int) ≤ G) = true ∧ decide ((dlc : Int) ≤ 15) = true) ∨ (decide ((id : Int) ≤ G) = false) ∨ (decide ((id : Int) ≤ G) = true ∧ decide ((dlc : Int) ≤ 15) = false) := by simp only [decide_eq_false_iff_not, decide_eq_true_eq]; omega
  obtain ⟨w0, hw0, hbx, c0, c1, c2, c3, c4, gg0⟩ := boxed w 35 (.int .u32 (id : Int)) (.bool ext) (.bool rem) (.int .u8 (dlc : Int)) (.slice a n c)
  clear hbx
  cases ext
  all_goals
    simp only [Bool.false_eq_true, if_false, if_true] at hG
    rcases hcases with ⟨h1, h2⟩ | h1 | ⟨h1, h2⟩
    all_goals
      subst hG
      go_enter Tryz.func53, Tryz.ntmps53
      go_wp2_with fail
      rw [hw0.out]
      refine wp_region_quiet_below (by kernel_rfl) (by kernel_rfl) ?_
      repeat (go_big_quiet_step (first
        | (go_at_call 81; exact hlong _ _ _)))
      refine wpQuiet_nil ?_
      intro w9 hw9
      have gg : Below w0.heap.size w0 w9 := by obtain ⟨p9, rfl⟩ := hw9; exact below_regrown _ _ _
      clear hw9
      go_wp2
      go_ret
      refine ⟨ret_bool ?_, bstep gg0 gg⟩
      rw [HR.out]
      first | (rw [h1, h2]; rfl) | (rw [h1, h2]; simp) | (rw [h1]; rfl)

end Go.Proofs.YtajdbimdiodalaaGreat

namespace Go.Proofs.YtajdbimdiodalaaGreat
open Go.RowKit Go.Sort
set_option linter.unusedVariables false

/-- A body without its check sum. -/
def preL (f : Fr) : List Bool := heL f.id f.ext f.rem f.dlc ++ obL f.data
/-- A body. -/
def boL (f : Fr) : List Bool := preL f ++ biV (suV (preL f))

theorem preL_length (f : Fr) : (preL f).length = heN f.ext + 8 * f.data.length := by unfold preL; rw [List.length_append, heL_length, obL_length]
theorem boL_length (f : Fr) : (boL f).length = heN f.ext + 8 * f.data.length + 15 := by unfold boL; rw [List.length_append, preL_length, biV_length]

theorem riF_long {id : Nat} {ext rem : Bool} {dlc n : Nat} (h : riF id ext rem dlc n = true) : n = lonF rem dlc ∧ n ≤ 8 ∧ dlc ≤ 15 ∧ id ≤ 536870911 := by
  unfold riF at h
  simp only [Bool.and_eq_true, decide_eq_true_eq] at h
  obtain ⟨⟨h1, h2⟩, h3⟩ := h
  refine ⟨h3, ?_, h2, ?_⟩
  · rw [h3]; unfold lonF; split <;> omega
  · split at h1 <;> omega

/-- What a box's cells are in each world that has only grown. -/
theorem held5 {w0 w' : World} {g : Nat} {E : TypeId} {v0 v1 v2 v3 v4 : Value} (h : w0.heap[g]? = some (.cells #[v0, v1, v2, v3, v4] E (0, 0))) (hb : Below w0.heap.size w0 w') :
    w'.cell? ⟨g, 0, none⟩ = some v0 ∧ w'.cell? ⟨g, 1, none⟩ = some v1 ∧ w'.cell? ⟨g, 2, none⟩ = some v2 ∧ w'.cell? ⟨g, 3, none⟩ = some v3 ∧ w'.cell? ⟨g, 4, none⟩ = some v4 ∧ Below w0.heap.size w0 w' := by
  obtain ⟨k0, k1, k2, k3, k4⟩ := bx5 (bx_below h hb)
  exact ⟨k0, k1, k2, k3, k4, hb⟩

theorem body_any (w : World) (id : Nat) (ext rem : Bool) (dlc : Nat) (a : Option Addr) (n c : Nat) (l : List UInt8) (hi : id < 4294967296) (hd : dlc < 256) (h : RL bv w a n c l) (hr : riF id ext rem dlc n = true) :
    Calls Tryz.prog 183 #[.agg #[.int .u32 (id : Int), .bool ext, .bool rem, .int .u8 (dlc : Int), .slice a n c]] w fun e w' => ∃ a' c', e = .returned (.tuple #[.slice a' (heN ext + 8 * n + 15) c', .int .i64 0]) ∧
      OL .bool 4 w.heap.size w' a' (heN ext + 8 * n + 15) c' (boL ⟨id, ext, rem, dlc, l⟩) ∧ Below w.heap.size w w' := by
  obtain ⟨hn1, hn8, _, _⟩ := riF_long hr
  have hpre : Hid (heL id ext rem dlc ++ obL l = preL ⟨id, ext, rem, dlc, l⟩) := rfl
  obtain ⟨w0, hw0, hbx, _, _, _, _, _, gg0⟩ := boxed w 35 (.int .u32 (id : Int)) (.bool ext) (.bool rem) (.int .u8 (dlc : Int)) (.slice a n c)
  have hs0 := bx_lt hbx
  clear hn1
  obtain ⟨N, hN⟩ : ∃ N, N = heN ext := ⟨_, rfl⟩
  have hN40 : N ≤ 39 := by rw [hN]; unfold heN; split <;> omega
  have hhead := fun w0 => head_any w0 id ext rem dlc a n c hi hd
  rw [← hN] at hhead ⊢
  clear hN
  have h0 := h.below gg0
  go_enter Tryz.func183, Tryz.ntmps183
  go_wp2_with (go_at_call 53; rw [hw0.out]; refine (frRight_any _ id ext rem dlc a n c hi hd).mono ?_; rw [hr]; rintro e w1 ⟨rfl, g1⟩; have hbx1 := bx_below hbx g1; have h1 := h0.below g1; have gg1 := bstep gg0 g1; have hs1 := g1.size)
  have hd1 : Below w1.heap.size w1 w1.drew := (Below.refl _ _).drew
  have hn9 : n ≤ 100000 := by omega
  go_region_held3 (fun w' => w'.cell? ⟨w.heap.size, 0, none⟩ = some (.int .u32 (id : Int)) ∧ w'.cell? ⟨w.heap.size, 1, none⟩ = some (.bool ext) ∧ w'.cell? ⟨w.heap.size, 2, none⟩ = some (.bool rem) ∧ w'.cell? ⟨w.heap.size, 3, none⟩ = some (.int .u8 (dlc : Int)) ∧ w'.cell? ⟨w.heap.size, 4, none⟩ = some (.slice a n c) ∧ Below w1.heap.size w1 w')
    (first
      | exact held5 hbx1 hd1
      | exact held5 hbx1 g15
      | exact held5 hbx1 g16
      | exact held5 hbx1 g17)
    (first
      | (go_simp; go_at_call 200; refine Calls.mono (hhead w1.drew) ?_; rintro e w5 ⟨a5, c5, rfl, hol5, g5⟩; have g15 : Below w1.heap.size w1 w5 := hd1.trans g5; have hs5 := g15.size)
      | (go_simp; go_at_call 201; refine Calls.mono (ofBytes_any w5 a n c l (h1.below g15) hn9) ?_; rintro e w6 ⟨a6, c6, rfl, hol6, g6⟩; have hol56 := hol5.below g6; have g16 := bstep g15 g6; have hs6 := g16.size)
      | (refine step_app (f := Value.bool) (B := w1.heap.size) (a := a5) (n := N) (c := c5) (l := heL id ext rem dlc) (a2 := a6) (n2 := 8 * n) (c2 := c6) (m := obL l) tB rfl (.tmp 9) (.tmp 12) rfl rfl hol56 rfl hol6.rl (fun _ => rfl) ?_ ?_ ?_ ?_; omega; omega; exact hs6; intro w7 a7 c7 hol7 g7; have g17 := g16.trans g7))
  all_goals
    have gB := g17
    rw [hpre.out] at hol7
    have hs7 := gB.size
    have gg7 := gg1.trans (gB.mono gg1.size)
    go_wp2_with (first
      | (go_at_call 203; refine (sum_any w7 a7 _ c7 _ hol7.rl (by omega)).mono ?_; rintro e w8 ⟨rfl, g8⟩; have hol8 := hol7.below g8; have hlt8 := (suV (preL ⟨id, ext, rem, dlc, l⟩)).isLt; have hs8 := g8.size)
      | (go_at_call 202; refine (bits_any w8 _ (by omega)).mono ?_; rintro e w9 ⟨a9, c9, rfl, hol9, g9⟩; have hol89 := hol8.below g9; have hs9 := g9.size)
      | (at_builtin; refine wpList_app (f := Value.bool) (B := w1.heap.size) (w := w9) tB rfl _ _ rfl rfl hol89 rfl hol9.rl (fun _ => rfl) (by omega) (by omega) (by omega) ?_; intro w10 a10 c10 hol10 g10))
    go_ret2
    exact ⟨_, _, rfl, hol10.mono gg1.size, ((bstep (bstep gg7 g8) g9).trans (g10.mono gg1.size))⟩
end Go.Proofs.YtajdbimdiodalaaGreat

namespace Go.Proofs.YtajdbimdiodalaaGreat
open Go.RowKit Go.Sort
set_option linter.unusedVariables false

/-- Whether the first row wins against the second one. -/
def bfL : List Bool → List Bool → Bool
  | x :: l, y :: m => if x = y then bfL l m else y
  | _, _ => false

theorem boxed2 (w : World) (E : TypeId) (u v : Array Value) : ∃ w0, Hid ((w.alloc (.cells u E)).alloc (.cells v E) = w0) ∧ w0.heap[w.heap.size]? = some (.cells u E (0, 0)) ∧ w0.heap[w.heap.size + 1]? = some (.cells v E (0, 0)) ∧ Below w.heap.size w w0 := by
  obtain ⟨h1, h2, h3⟩ := two_bx (w := w) (E := E) (F := E) (u := u) (v := v) (Below.refl _ _)
  exact ⟨_, rfl, h1, h2, h3⟩

end Go.Proofs.YtajdbimdiodalaaGreat

namespace Go.Proofs.YtajdbimdiodalaaGreat
open Go.RowKit Go.Sort
set_option linter.unusedVariables false

/-- A wire form. -/
def wiL (f : Fr) : List Bool := putL (boL f) ++ List.replicate 10 true

theorem rep_snoc {α : Type} (l : List α) (k : Nat) (x : α) : l ++ List.replicate k x ++ [x] = l ++ List.replicate (k + 1) x := by rw [List.append_assoc, List.replicate_succ']

theorem boL_le {f : Fr} {n : Nat} (hl : f.data.length = n) (hn : n ≤ 8) : (boL f).length ≤ 118 ∧ (boL f).length = heN f.ext + 8 * n + 15 := by
  rw [boL_length, hl]; unfold heN; split <;> omega

theorem wire_any (w : World) (id : Nat) (ext rem : Bool) (dlc : Nat) (a : Option Addr) (n c : Nat) (l : List UInt8) (hi : id < 4294967296) (hd : dlc < 256) (h : RL bv w a n c l) (hr : riF id ext rem dlc n = true) :
    Calls Tryz.prog 166 #[.agg #[.int .u32 (id : Int), .bool ext, .bool rem, .int .u8 (dlc : Int), .slice a n c]] w fun e w' => ∃ a' c', e = .returned (.tuple #[.slice a' ((putL (boL ⟨id, ext, rem, dlc, l⟩)).length + 10) c', .int .i64 0]) ∧
      OL .bool 4 w.heap.size w' a' ((putL (boL ⟨id, ext, rem, dlc, l⟩)).length + 10) c' (wiL ⟨id, ext, rem, dlc, l⟩) ∧ Below w.heap.size w w' := by
  obtain ⟨hn1, hn8, _, _⟩ := riF_long hr
  obtain ⟨hb1, hb2⟩ := boL_le (f := ⟨id, ext, rem, dlc, l⟩) h.len hn8
  have hpl := putL_len (boL ⟨id, ext, rem, dlc, l⟩)
  have hbody := fun w0 h0 => body_any w0 id ext rem dlc a n c l hi hd h0 hr
  unfold wiL
  obtain ⟨b, hb⟩ : ∃ b, b = boL ⟨id, ext, rem, dlc, l⟩ := ⟨_, rfl⟩
  rw [← hb] at hb1 hb2 hpl ⊢
  simp only [← hb] at hbody
  obtain ⟨N, hN⟩ : ∃ N, N = heN ext + 8 * n + 15 := ⟨_, rfl⟩
  simp only [← hN] at hbody
  have hN2 : N ≤ 1000 := by rw [hN]; unfold heN; split <;> omega
  obtain ⟨m, hm⟩ : ∃ m, m = (putL b).length := ⟨_, rfl⟩
  have HM := hid hm
  rw [← hm] at hpl ⊢
  have hm2 : m ≤ 1000 := by omega
  clear hm hpl hb hb1 hb2 hN hn1
  obtain ⟨w0, hw0, _, _, _, _, _, _, gg0⟩ := boxed w 35 (.int .u32 (id : Int)) (.bool ext) (.bool rem) (.int .u8 (dlc : Int)) (.slice a n c)
  have h0 := h.below gg0
  go_enter Tryz.func166, Tryz.ntmps166
  go_wp2_with (first
    | (go_at_call 183; rw [hw0.out]; (with_reducible refine (hbody w0 h0).mono ?_); rintro e w1 ⟨a1, c1, rfl, hol1, g1⟩; have gg1 := bstep gg0 g1)
    | (go_at_call 184; refine (put_any w1 a1 _ c1 b hol1.rl (by omega)).mono ?_; rw [← HM.out]; rintro e w2 ⟨a2, c2, rfl, hol2, g2⟩; have gg2 := bstep gg1 g2))
  go_loopw [6, 17] (fun v i wr => ∃ (k : Nat) (a' : Option Addr) (c' : Nat), k ≤ 10 ∧ i = .int .i64 (k : Int) ∧ v = .slice a' (m + k) c' ∧ OL .bool 4 w.heap.size wr a' (m + k) c' (putL b ++ List.replicate k true) ∧ Below w.heap.size w wr) (fun _ i _ => 10 - (intOf i).toNat)
  case atStart => exact ⟨0, a2, c2, by omega, rfl, rfl, by simpa using hol2.mono gg1.size, gg2⟩
  case round =>
    obtain ⟨k, a', c', hk, rfl, rfl, hol, hb⟩ := hrel
    have hs := hb.size
    by_cases hlt : k < 10
    · go_wp2_with (at_builtin; refine wpList_app (f := Value.bool) tB rfl _ _ rfl rfl (hol.alloc _) rfl (lit1 wr true) (fun _ => rfl) (by omega) (by omega) (by simp; omega) ?_; intro w3 a3 c3 hol3 hb3)
      go_roundw
      case rel => exact ⟨k + 1, a3, c3, by omega, by go_num, rfl, by rw [← rep_snoc]; exact hol3, (hb.alloc hs _).trans hb3⟩
      case measure => simp [intOf]; omega
    · obtain rfl : k = 10 := by omega
      go_wp2
      go_ret2
      exact ⟨a', c', rfl, hol, hb⟩

end Go.Proofs.YtajdbimdiodalaaGreat

namespace Go.Proofs.YtajdbimdiodalaaGreat
open Go.RowKit Go.Sort
set_option linter.unusedVariables false

theorem mid {p m s : List Bool} {i j : Nat} (hp : p.length = i) (hm : m.length = j) : ((p ++ (m ++ s)).drop i).take j = m := by
  rw [← hp, List.drop_left, ← hm, List.take_left]
theorem att {p s : List Bool} {x : Bool} {i : Nat} (hp : p.length = i) : (p ++ x :: s)[i]? = some x := by
  rw [← hp, List.getElem?_append_right (Nat.le_refl _), Nat.sub_self]; rfl

theorem he_13 (id : Nat) (ext rem : Bool) (dlc : Nat) (r : List Bool) : (heL id ext rem dlc ++ r)[13]? = some ext ∧ (heL id ext rem dlc ++ r)[0]? = some false := by
  cases ext
  · have e : heL id false rem dlc ++ r = ([false] ++ ofL id 11 ++ [rem]) ++ false :: ([false] ++ ofL dlc 4 ++ r) := by simp [heL, conL]
    exact ⟨by rw [e]; exact att (by simp), by rw [e]; rfl⟩
  · have e : heL id true rem dlc ++ r = ([false] ++ ofL (id / 262144) 11 ++ [true]) ++ true :: (ofL id 18 ++ [rem] ++ [false, false] ++ ofL dlc 4 ++ r) := by simp [heL, conL]
    exact ⟨by rw [e]; exact att (by simp), by rw [e]; rfl⟩

theorem he_reF {id : Nat} {ext rem : Bool} {dlc : Nat} (r : List Bool) (hi : id ≤ if ext then 536870911 else 2047) (hd : dlc ≤ 15) : reF (heL id ext rem dlc ++ r) = ⟨id, ext, rem, dlc, []⟩ := by
  unfold reF
  rw [(he_13 id ext rem dlc r).1]
  cases ext
  · simp only [Bool.false_eq_true, if_false] at hi
    have e1 : heL id false rem dlc ++ r = [false] ++ (ofL id 11 ++ ([rem, false, false] ++ ofL dlc 4 ++ r)) := by simp [heL, conL]
    have e2 : heL id false rem dlc ++ r = ([false] ++ ofL id 11) ++ rem :: ([false, false] ++ ofL dlc 4 ++ r) := by simp [heL, conL]
    have e3 : heL id false rem dlc ++ r = ([false] ++ ofL id 11 ++ [rem, false, false]) ++ (ofL dlc 4 ++ r) := by simp [heL, conL]
    have h1 : ((heL id false rem dlc ++ r).drop 1).take 11 = ofL id 11 := by rw [e1]; exact mid (by simp) (by simp)
    have h2 : (heL id false rem dlc ++ r)[12]? = some rem := by rw [e2]; exact att (by simp)
    have h3 : ((heL id false rem dlc ++ r).drop 15).take 4 = ofL dlc 4 := by rw [e3]; exact mid (by simp) (by simp)
    rw [h1, h2, h3, numL_ofL, numL_ofL, Nat.mod_eq_of_lt (by omega), Nat.mod_eq_of_lt (by omega)]
    rfl
  · simp only [if_true] at hi
    have e1 : heL id true rem dlc ++ r = [false] ++ (ofL (id / 262144) 11 ++ ([true, true] ++ ofL id 18 ++ [rem, false, false] ++ ofL dlc 4 ++ r)) := by simp [heL, conL]
    have e2 : heL id true rem dlc ++ r = ([false] ++ ofL (id / 262144) 11 ++ [true, true] ++ ofL id 18) ++ rem :: ([false, false] ++ ofL dlc 4 ++ r) := by simp [heL, conL]
    have e3 : heL id true rem dlc ++ r = ([false] ++ ofL (id / 262144) 11 ++ [true, true] ++ ofL id 18 ++ [rem, false, false]) ++ (ofL dlc 4 ++ r) := by simp [heL, conL]
    have e4 : heL id true rem dlc ++ r = ([false] ++ ofL (id / 262144) 11 ++ [true, true]) ++ (ofL id 18 ++ ([rem, false, false] ++ ofL dlc 4 ++ r)) := by simp [heL, conL]
    have h1 : ((heL id true rem dlc ++ r).drop 1).take 11 = ofL (id / 262144) 11 := by rw [e1]; exact mid (by simp) (by simp)
    have h2 : (heL id true rem dlc ++ r)[32]? = some rem := by rw [e2]; exact att (by simp)
    have h3 : ((heL id true rem dlc ++ r).drop 35).take 4 = ofL dlc 4 := by rw [e3]; exact mid (by simp) (by simp)
    have h4 : ((heL id true rem dlc ++ r).drop 14).take 18 = ofL id 18 := by rw [e4]; exact mid (by simp) (by simp)
    rw [h1, h2, h3, h4, numL_ofL, numL_ofL, numL_ofL, Nat.mod_eq_of_lt (by omega : dlc < 2 ^ 4), Nat.mod_eq_of_lt (by omega : id / 262144 < 2 ^ 11)]
    simp only [Option.getD_some, if_true, Fr.mk.injEq, and_true]
    omega

/-- What is asked of a right frame. -/
structure Good (f : Fr) : Prop where
  id : f.id ≤ if f.ext then 536870911 else 2047
  dlc : f.dlc ≤ 15
  len : f.data.length = lonF f.rem f.dlc

theorem good_iff (f : Fr) (n : Nat) (hn : f.data.length = n) : riF f.id f.ext f.rem f.dlc n = true ↔ Good f := by
  unfold riF
  simp only [Bool.and_eq_true, decide_eq_true_eq]
  exact ⟨fun ⟨⟨h1, h2⟩, h3⟩ => ⟨h1, h2, by rw [hn]; exact h3⟩, fun ⟨h1, h2, h3⟩ => ⟨⟨h1, h2⟩, by rw [← hn]; exact h3⟩⟩

theorem boL_split (f : Fr) : boL f = heL f.id f.ext f.rem f.dlc ++ (obL f.data ++ biV (suV (preL f))) := by unfold boL preL; rw [List.append_assoc]

theorem he_head (f : Fr) (h : Good f) (r : List Bool) : hdK (heL f.id f.ext f.rem f.dlc ++ r) = true ∧ heM (heL f.id f.ext f.rem f.dlc ++ r) = heN f.ext ∧ hdN (heL f.id f.ext f.rem f.dlc ++ r) = heN f.ext + 8 * lonF f.rem f.dlc + 15 := by
  have h13 := (he_13 f.id f.ext f.rem f.dlc r).1
  have hM : heM (heL f.id f.ext f.rem f.dlc ++ r) = heN f.ext := by unfold heM heN; rw [h13]; rfl
  refine ⟨?_, hM, by unfold hdN; rw [hM, he_reF r h.id h.dlc]⟩
  unfold hdK
  rw [h13, List.length_append, heL_length]
  cases f.ext <;> simp [heN] <;> omega

theorem bo_all (f : Fr) (h : Good f) : paK (boL f) = true ∧ suV (boL f) = 0#15 ∧ reF (boL f) = ⟨f.id, f.ext, f.rem, f.dlc, []⟩ ∧ paD (boL f) = f.data ∧ hdN (boL f) = (boL f).length := by
  obtain ⟨h1, h2, h3⟩ := he_head f h (obL f.data ++ biV (suV (preL f)))
  have h4 := he_reF (rem := f.rem) (obL f.data ++ biV (suV (preL f))) h.id h.dlc
  have h5 := (he_13 f.id f.ext f.rem f.dlc (obL f.data ++ biV (suV (preL f)))).2
  rw [← boL_split] at h1 h2 h3 h4 h5
  have hl : hdN (boL f) = (boL f).length := by rw [h3, boL_length, h.len]
  refine ⟨?_, ?_, h4, ?_, hl⟩
  · unfold paK
    rw [h1, h5, hl]; simp
  · unfold boL; exact suV_whole _
  · unfold paD
    rw [h2, h4]
    have e : ((boL f).drop (heN f.ext)).take (8 * lonF f.rem f.dlc) = obL f.data := by
      rw [boL_split]; exact mid (heL_length _ _ _ _) (by rw [obL_length, h.len])
    rw [e]
    have := byL_obL f.data [] (by decide)
    simpa using this

theorem hd_take {l : List Bool} {k : Nat} (hk : k ≤ l.length) (h : hdK (l.take k) = true) : hdN (l.take k) = hdN l := by
  unfold hdK at h
  simp only [Bool.and_eq_true, decide_eq_true_eq, Bool.or_eq_true, Bool.not_eq_true', List.length_take] at h
  obtain ⟨h1, h2⟩ := h
  have g : ∀ i, i < k → (l.take k)[i]? = l[i]? := fun i hi => by rw [List.getElem?_take, if_pos hi]
  have d : ∀ i j, i + j ≤ k → ((l.take k).drop i).take j = (l.drop i).take j := fun i j hij => by
    rw [List.drop_take, List.take_take, Nat.min_eq_left (by omega)]
  rw [g 13 (by omega)] at h2
  unfold hdN heM reF
  rw [g 13 (by omega)]
  cases hx : l[13]?.getD false
  · simp only [Bool.false_eq_true, if_false]
    rw [g 12 (by omega), d 15 4 (by omega)]
  · rw [hx] at h2
    simp at h2
    simp only [if_true]
    rw [g 32 (by omega), d 35 4 (by omega)]

theorem hd_more {l m : List Bool} (h : hdK l = true) : hdN (l ++ m) = hdN l := by
  have e : (l ++ m).take l.length = l := List.take_left
  have := hd_take (l := l ++ m) (k := l.length) (by simp) (by rw [e]; exact h)
  rw [e] at this
  exact this.symm

theorem hdK_more {l m : List Bool} (h : hdK l = true) : hdK (l ++ m) = true := by
  unfold hdK at h ⊢
  simp only [Bool.and_eq_true, decide_eq_true_eq, Bool.or_eq_true, Bool.not_eq_true'] at h ⊢
  have g : (l ++ m)[13]? = l[13]? := List.getElem?_append_left (by omega)
  rw [g, List.length_append]
  exact ⟨by omega, h.2.imp id (by omega)⟩

end Go.Proofs.YtajdbimdiodalaaGreat

namespace Go.Proofs.YtajdbimdiodalaaGreat
set_option linter.unusedVariables false

/-- Whether the check sum of a body fits. -/
def fitL (l : List Bool) : Bool := paK l && decide (suV l = 0#15)
/-- Whether bits are all of a body. -/
def cmpL (l : List Bool) : Bool := hdK l && decide (l.length = hdN l)

/-- The state of reading. -/
structure Tk where
  b : Bool
  m : Nat
  l : List Bool
  p : Nat
  fi : Bool

/-- The state behind a bit, and what it says. -/
def nxT (s : Tk) (x : Bool) : Tk × Nat :=
  if s.p = 0 then
    if (nxt s.b s.m x).2 = 2 then (⟨s.b, s.m, s.l, 11, s.fi⟩, 1)
    else if (nxt s.b s.m x).2 = 1 then (⟨(nxt s.b s.m x).1.1, (nxt s.b s.m x).1.2, s.l, if cmpL s.l && !decide ((nxt s.b s.m x).1.2 = 5) then 1 else 0, s.fi⟩, 0)
    else (⟨(nxt s.b s.m x).1.1, (nxt s.b s.m x).1.2, s.l ++ [x], if cmpL (s.l ++ [x]) && !decide ((nxt s.b s.m x).1.2 = 5) then 1 else 0, fitL (s.l ++ [x])⟩, 0)
  else if s.p = 2 then (⟨s.b, s.m, s.l, 3, s.fi⟩, 0)
  else if s.p = 10 then (⟨s.b, s.m, s.l, 11, s.fi⟩, if x then 6 else 5)
  else if 10 < s.p then (s, 6)
  else if x = false then (⟨s.b, s.m, s.l, 11, s.fi⟩, 2)
  else if s.p = 3 ∧ s.fi = false then (⟨s.b, s.m, s.l, 11, s.fi⟩, 3)
  else (⟨s.b, s.m, s.l, s.p + 1, s.fi⟩, if s.p = 9 then 4 else 0)

/-- The run behind bits of which none is wrong. -/
def ruF (b : Bool) (m : Nat) (t : List Bool) : Bool × Nat := t.foldl (fun s x => (nxt s.1 s.2 x).1) (b, m)

theorem drop_of_get {l : List Bool} {k : Nat} {x : Bool} (h : l[k]? = some x) : l.drop k = x :: l.drop (k + 1) := by
  obtain ⟨hk, rfl⟩ := List.getElem?_eq_some_iff.1 h
  exact List.drop_eq_getElem_cons hk

theorem ruF_cons (b : Bool) (m : Nat) (x : Bool) (t : List Bool) : ruF b m (x :: t) = ruF (nxt b m x).1.1 (nxt b m x).1.2 t := rfl

theorem ruF_snoc {l : List Bool} {k : Nat} {x : Bool} (h : l[k]? = some x) : ruF false 0 (l.take (k + 1)) = (nxt (ruF false 0 (l.take k)).1 (ruF false 0 (l.take k)).2 x).1 := by
  unfold ruF; rw [take_snoc h, List.foldl_append]; rfl

theorem tkF_app (t : List Bool) : ∀ b m i out u, (tkF b m i out t).2 = -1 → tkF b m i out (t ++ u) = tkF (ruF b m t).1 (ruF b m t).2 (i + t.length) (tkF b m i out t).1 u := by
  induction t with
  | nil => intro b m i out u _; simp [tkF, ruF]
  | cons x t ih =>
    intro b m i out u h
    rw [List.cons_append]
    rw [tkF] at h ⊢
    rw [ruF_cons, List.length_cons]
    split at h
    · simp only at h; omega
    · rename_i h2
      rw [if_neg h2]
      split at h
      · rename_i h1
        rw [if_pos h1, ih _ _ _ _ _ h]
        conv => rhs; rw [tkF, if_neg h2, if_pos h1]
        congr 1; omega
      · rename_i h1
        rw [if_neg h1, ih _ _ _ _ _ h]
        conv => rhs; rw [tkF, if_neg h2, if_neg h1]
        congr 1; omega

theorem tkF_ge (l : List Bool) : ∀ b m i out, (tkF b m i out l).2 = -1 ∨ (i : Int) ≤ (tkF b m i out l).2 := by
  induction l with
  | nil => intro b m i out; exact .inl rfl
  | cons x l ih =>
    intro b m i out
    rw [tkF]
    split
    · right; simp
    · split
      · rcases ih (nxt b m x).1.1 (nxt b m x).1.2 (i + 1) out with h | h
        · exact .inl h
        · right; omega
      · rcases ih (nxt b m x).1.1 (nxt b m x).1.2 (i + 1) (out ++ [x]) with h | h
        · exact .inl h
        · right; omega

/-- What was taken, and nothing wrong in it, put again: as it was, and the stuff bit that is owed. -/
theorem put_again : ∀ (N : Nat) (l : List Bool), l.length ≤ N → ∀ b m i, m ≤ 4 → (tkF b m i [] l).2 = -1 → putF b m (tkF b m i [] l).1 = if (ruF b m l).2 = 5 then l ++ [!(ruF b m l).1] else l := by
  intro N
  induction N with
  | zero => intro l hl b m i hm _; obtain rfl : l = [] := List.eq_nil_of_length_eq_zero (by omega); rw [if_neg (by simp [ruF]; omega)]; rfl
  | succ N ih =>
    intro l hl b m i hm h
    cases l with
    | nil => rw [if_neg (by simp [ruF]; omega)]; rfl
    | cons x l =>
      simp only [List.length_cons] at hl
      have hp := nxt_plain (b := b) (x := x) (show m ≠ 5 by omega)
      rw [tkF, hp, if_neg (by decide), if_neg (by decide), tkF_out] at h ⊢
      simp only [List.nil_append, List.cons_append] at h ⊢
      rw [putF, ruF_cons]
      by_cases h5 : (nxt b m x).1.2 = 5
      · rw [if_pos h5]
        obtain ⟨e, _⟩ := nxt_five hm h5
        rw [e] at h ⊢
        simp only at h ⊢
        cases l with
        | nil => rw [if_pos (by rfl)]; rfl
        | cons y l =>
          rw [tkF] at h ⊢
          by_cases hy : y = x
          · rw [show nxt x 5 y = ((x, 5), 2) from by unfold nxt; rw [if_pos rfl, if_pos hy], if_pos rfl] at h
            simp only at h
            omega
          · obtain rfl : y = !x := by cases x <;> cases y <;> simp_all
            rw [nxt_owed, if_neg (show ¬ ((1 : Nat) = 2) by decide), if_pos rfl] at h
            rw [ruF_cons, nxt_owed, if_neg (show ¬ ((1 : Nat) = 2) by decide), if_pos rfl]
            simp only [List.length_cons] at hl
            simp only at h ⊢
            rw [ih l (by omega) (!x) 1 (i + 1 + 1) (by omega) h]
            split <;> simp
      · rw [if_neg h5]
        rw [ih l (by omega) _ _ (i + 1) (nxt_le hm h5).1 h]
        split <;> simp

theorem putL_again {l : List Bool} (h : (tkL l).2 = -1) : putL (tkL l).1 = if (ruF false 0 l).2 = 5 then l ++ [!(ruF false 0 l).1] else l := put_again l.length l (Nat.le_refl _) false 0 0 (by omega) h

theorem putF_more (u : List Bool) : ∀ b m v, m ≤ 4 → (putF b m u).length + v.length ≤ (putF b m (u ++ v)).length := by
  induction u with
  | nil => intro b m v hm; have := (putF_len v b m hm).1; simpa [putF] using this
  | cons x u ih =>
    intro b m v hm
    rw [List.cons_append, putF, putF]
    split
    · have := ih (!x) 1 v (by omega); simp only [List.length_cons]; omega
    · rename_i h5
      have := ih (nxt b m x).1.1 (nxt b m x).1.2 v (nxt_le hm h5).1; simp only [List.length_cons]; omega

/-- The document's Body: how many bits, and its plain ones. -/
def bdK (l : List Bool) : Bool := hdK (tkL l).1 && decide (hdN (tkL l).1 ≤ (tkL l).1.length)
def bdL (l : List Bool) : List Bool := if bdK l then (tkL l).1.take (hdN (tkL l).1) else []
def bdN (l : List Bool) : Nat := if bdK l then (putL (bdL l)).length else 0

theorem bdN_pos {l : List Bool} : bdN l = 0 ↔ bdK l = false := by
  unfold bdN
  cases h : bdK l with
  | false => simp
  | true =>
    simp only [if_true]
    have h1 := (putL_len (bdL l)).1
    unfold bdL at h1
    rw [if_pos h, List.length_take] at h1
    unfold bdK at h
    simp only [Bool.and_eq_true, decide_eq_true_eq] at h
    have : 15 ≤ hdN (tkL l).1 := by unfold hdN; omega
    unfold bdL
    simp only [bdK, h.1, decide_eq_true h.2, Bool.and_self, if_true, Bool.true_eq_false, iff_false]
    omega

/-- What the document says of bit i. -/
def rdS (n : Nat) (wr : Int) (fi : Bool) (i : Nat) (x : Bool) : Nat :=
  if n = 0 ∨ i < n then (if (i : Int) = wr then 1 else 0)
  else if i - n = 1 then 0
  else if i - n = 9 then (if x then 6 else 5)
  else if x = false then 2
  else if i - n = 2 ∧ fi = false then 3
  else if i - n = 8 then 4 else 0

/-- In the body. -/
structure InB (l : List Bool) (k : Nat) (s : Tk) : Prop where
  p : s.p = 0
  tk : tkL (l.take k) = (s.l, -1)
  ru : ruF false 0 (l.take k) = (s.b, s.m)
  fi : s.fi = fitL s.l
  le : hdK s.l = true → s.l.length ≤ hdN s.l
  no : ¬ (cmpL s.l = true ∧ s.m ≠ 5)
  kl : k ≤ l.length
  ri : rightA s.b s.m

/-- Behind the body. -/
structure BeB (l : List Bool) (k : Nat) (s : Tk) : Prop where
  n0 : bdN l ≠ 0
  lo : bdN l ≤ k
  hi : k ≤ bdN l + 9
  p : s.p = 1 + (k - bdN l)
  li : s.l = bdL l
  fi : s.fi = fitL (bdL l)
  m : s.m ≠ 5
  ri : rightA s.b s.m
  ok : 4 ≤ s.p → s.fi = true
  pu : l.take (bdN l) = putL (bdL l)
  cm : cmpL (bdL l) = true

def s0 : Tk := ⟨false, 0, [], 0, false⟩

theorem InB.start (l : List Bool) : InB l 0 s0 :=
  ⟨rfl, by simp [s0, tkL, tkF], by simp [s0, ruF], by simp only [s0]; rfl, by simp [s0, hdK], by simp [s0, cmpL, hdK], Nat.zero_le _, ⟨by simp [s0], fun _ => rfl⟩⟩

theorem hdK_short {l m : List Bool} (h : hdK l = false) (h2 : hdK (l ++ m) = true) : l.length < hdN (l ++ m) := by
  unfold hdK at h h2
  have hN : heM (l ++ m) + 15 ≤ hdN (l ++ m) := by unfold hdN; omega
  unfold heM at hN
  simp only [Bool.and_eq_true, decide_eq_true_eq, Bool.or_eq_true, Bool.not_eq_true'] at h2
  by_cases h19 : l.length < 19
  · split at hN <;> omega
  · rw [List.getElem?_append_left (by omega)] at h2 hN
    cases hx : l[13]?.getD false with
    | true => rw [hx] at h hN; simp only [if_true] at hN; simp at h; omega
    | false => rw [hx] at h; simp at h; omega

theorem tk_split {l : List Bool} {k : Nat} {q : List Bool} (h : tkL (l.take k) = (q, -1)) : tkL l = tkF (ruF false 0 (l.take k)).1 (ruF false 0 (l.take k)).2 (l.take k).length q (l.drop k) := by
  have := tkF_app (l.take k) false 0 0 [] (l.drop k) (by unfold tkL at h; rw [h])
  rw [List.take_append_drop] at this
  unfold tkL at h ⊢
  rw [this, h, Nat.zero_add]

theorem tk_more {l : List Bool} {k : Nat} {q : List Bool} (h : tkL (l.take k) = (q, -1)) : ∃ r, (tkL l).1 = q ++ r := by
  rw [tk_split h, tkF_out]; exact ⟨_, rfl⟩

theorem put_at {l : List Bool} {k : Nat} {q : List Bool} (h : tkL (l.take k) = (q, -1)) : putL q = if (ruF false 0 (l.take k)).2 = 5 then l.take k ++ [!(ruF false 0 (l.take k)).1] else l.take k := by
  have := putL_again (l := l.take k) (by rw [h])
  rw [h] at this
  exact this

/-- The body is there. -/
theorem bd_found {l : List Bool} {k : Nat} {q : List Bool} (hk : k ≤ l.length) (h : tkL (l.take k) = (q, -1)) (hm : (ruF false 0 (l.take k)).2 ≠ 5) (hc : cmpL q = true) : bdN l = k ∧ bdL l = q ∧ k ≠ 0 ∧ l.take k = putL q := by
  obtain ⟨r, hr⟩ := tk_more h
  unfold cmpL at hc
  simp only [Bool.and_eq_true, decide_eq_true_eq] at hc
  have e1 := hd_more (m := r) hc.1
  have e2 := hdK_more (m := r) hc.1
  have hb : bdK l = true := by
    unfold bdK; rw [hr, e2, e1]; simp [← hc.2]
  have hL : bdL l = q := by
    unfold bdL; rw [if_pos hb, hr, e1, ← hc.2, List.take_left]
  have hp := put_at h
  rw [if_neg hm] at hp
  have hN : bdN l = k := by
    unfold bdN; rw [if_pos hb, hL, hp, List.length_take]; omega
  refine ⟨hN, hL, fun h0 => ?_, hp.symm⟩
  subst h0
  have := bdN_pos.1 hN
  rw [hb] at this; cases this

/-- As long as the body is not over. -/
theorem InB.early {l : List Bool} {k : Nat} {s : Tk} (h : InB l k s) : bdN l = 0 ∨ k < bdN l := by
  by_cases h0 : bdN l = 0
  · exact .inl h0
  right
  have hb : bdK l = true := by
    cases e : bdK l with
    | true => rfl
    | false => exact absurd (bdN_pos.2 e) h0
  obtain ⟨r, hr⟩ := tk_more h.tk
  have hb' := hb
  unfold bdK at hb'
  simp only [Bool.and_eq_true, decide_eq_true_eq] at hb'
  have hp := put_at h.tk
  have hpk : k ≤ (putL s.l).length := by
    rw [hp]; split <;> simp <;> have := h.kl <;> omega
  have hL : bdL l = (s.l ++ r).take (hdN (s.l ++ r)) := by unfold bdL; rw [if_pos hb, hr]
  have hN : bdN l = (putL (bdL l)).length := by unfold bdN; rw [if_pos hb]
  rw [hr] at hb'
  by_cases hc : cmpL s.l = true
  · have h5 : s.m = 5 := Classical.byContradiction fun h5 => h.no ⟨hc, h5⟩
    unfold cmpL at hc
    simp only [Bool.and_eq_true, decide_eq_true_eq] at hc
    rw [hN, hL, hd_more hc.1, ← hc.2, List.take_left, hp, h.ru]
    simp only [h5, if_true, List.length_append, List.length_take, List.length_cons, List.length_nil]
    have := h.kl
    omega
  · have hlt : s.l.length < hdN (s.l ++ r) := by
      cases hk : hdK s.l with
      | true =>
        rw [hd_more hk]
        have h1 := h.le hk
        have h2 : s.l.length ≠ hdN s.l := fun e => hc (by unfold cmpL; simp [hk, ← e])
        omega
      | false => exact hdK_short hk hb'.1
    obtain ⟨d, hd⟩ : ∃ d, hdN (s.l ++ r) = s.l.length + d := ⟨hdN (s.l ++ r) - s.l.length, by omega⟩
    rw [hd] at hL hb'
    have e : (s.l ++ r).take (s.l.length + d) = s.l ++ r.take d := by rw [List.take_append, List.take_of_length_le (by omega)]; simp
    rw [e] at hL
    have hrd : d ≤ r.length := by simp at hb'; omega
    have := putF_more s.l false 0 (r.take d) (by omega)
    rw [hN, hL]
    unfold putL at hpk ⊢
    rw [List.length_take] at this
    omega

theorem inb_next {l : List Bool} {k : Nat} {x : Bool} {q : List Bool} {b : Bool} {m : Nat} {fi : Bool} (hx : l[k]? = some x) (htk : tkL (l.take (k + 1)) = (q, -1)) (hru : ruF false 0 (l.take (k + 1)) = (b, m)) (hfi : fi = fitL q)
    (hle : hdK q = true → q.length ≤ hdN q) (hri : rightA b m) :
    InB l (k + 1) ⟨b, m, q, if cmpL q && !decide (m = 5) then 1 else 0, fi⟩ ∨ BeB l (k + 1) ⟨b, m, q, if cmpL q && !decide (m = 5) then 1 else 0, fi⟩ := by
  have hkl : k + 1 ≤ l.length := by
    have := (List.getElem?_eq_some_iff.1 hx).1; omega
  by_cases hc : cmpL q = true ∧ m ≠ 5
  · right
    obtain ⟨h1, h2, h3, h4⟩ := bd_found hkl htk (by rw [hru]; exact hc.2) hc.1
    have e : (cmpL q && !decide (m = 5)) = true := by rw [hc.1, decide_eq_false hc.2]; rfl
    rw [e]
    refine ⟨by rw [h1]; exact h3, by omega, by omega, by simp [h1], by rw [h2], by rw [h2]; exact hfi, hc.2, hri, by simp, by rw [h1, h2]; exact h4, by rw [h2]; exact hc.1⟩
  · left
    have e : (cmpL q && !decide (m = 5)) = false := by
      cases h : cmpL q with
      | false => rfl
      | true => have : m = 5 := Classical.byContradiction fun h5 => hc ⟨h, h5⟩
                simp [this]
    rw [e]
    exact ⟨rfl, htk, hru, hfi, hle, hc, hkl, hri⟩

theorem InB.step {l : List Bool} {k : Nat} {s : Tk} {x : Bool} (h : InB l k s) (hx : l[k]? = some x) :
    (nxT s x).2 = rdS (bdN l) (tkL l).2 (fitL (bdL l)) k x ∧ ((nxT s x).2 = 0 ∨ (nxT s x).2 = 4 → InB l (k + 1) (nxT s x).1 ∨ BeB l (k + 1) (nxT s x).1) := by
  have hkl : k < l.length := (List.getElem?_eq_some_iff.1 hx).1
  have hR : rdS (bdN l) (tkL l).2 (fitL (bdL l)) k x = if (k : Int) = (tkL l).2 then 1 else 0 := by unfold rdS; rw [if_pos h.early]
  have hs := tk_split h.tk
  have hlk : (l.take k).length = k := by rw [List.length_take]; omega
  rw [h.ru, hlk, drop_of_get hx] at hs
  have hs1 : tkL (l.take (k + 1)) = tkF s.b s.m k s.l [x] := by
    have := tkF_app (l.take k) false 0 0 [] [x] (by have := h.tk; unfold tkL at this; rw [this])
    rw [← take_snoc hx] at this
    have e := h.tk
    unfold tkL at e ⊢
    rw [this, e, h.ru, Nat.zero_add, hlk]
  have hr1 := ruF_snoc hx
  rw [h.ru] at hr1
  simp only at hs hs1 hr1
  have hri := (nxt_right (x := x) h.ri).1
  rw [hR]
  unfold nxT
  rw [if_pos h.p]
  rw [tkF] at hs hs1
  by_cases h2 : (nxt s.b s.m x).2 = 2
  · rw [if_pos h2] at hs ⊢
    rw [hs]
    simp
  · rw [if_neg h2] at hs hs1 ⊢
    have hwr : ∀ b m out, (tkF b m (k + 1) out (l.drop (k + 1))).2 ≠ (k : Int) := fun b m out e => by
      rcases tkF_ge (l.drop (k + 1)) b m (k + 1) out with h' | h' <;> omega
    by_cases h1 : (nxt s.b s.m x).2 = 1
    · rw [if_pos h1] at hs hs1 ⊢
      rw [hs]
      refine ⟨(if_neg (fun e => hwr _ _ _ e.symm)).symm, fun _ => ?_⟩
      exact inb_next hx (by rw [hs1]; rfl) hr1 h.fi h.le hri
    · rw [if_neg h1] at hs hs1 ⊢
      rw [hs]
      refine ⟨(if_neg (fun e => hwr _ _ _ e.symm)).symm, fun _ => ?_⟩
      refine inb_next hx (by rw [hs1]; rfl) hr1 rfl (fun hk => ?_) hri
      cases hk0 : hdK s.l with
      | true =>
        rw [hd_more hk0]
        have h3 := h.le hk0
        have h5 : s.m ≠ 5 := fun h5 => by
          unfold nxt at h1 h2
          rw [if_pos h5] at h1 h2
          split at h2
          · simp at h2
          · rename_i hn; rw [if_neg hn] at h1; simp at h1
        have h4 : s.l.length ≠ hdN s.l := fun e => h.no ⟨by unfold cmpL; simp [hk0, ← e], h5⟩
        simp only [List.length_append, List.length_cons, List.length_nil]
        omega
      | false =>
        have := hdK_short hk0 hk
        simp only [List.length_append, List.length_cons, List.length_nil]
        omega

theorem BeB.step {l : List Bool} {k : Nat} {s : Tk} {x : Bool} (h : BeB l k s) (hx : l[k]? = some x) :
    (nxT s x).2 = rdS (bdN l) (tkL l).2 (fitL (bdL l)) k x ∧ ((nxT s x).2 = 0 ∨ (nxT s x).2 = 4 → BeB l (k + 1) (nxT s x).1) := by
  obtain ⟨n0, lo, hi, hp, hl, hfi, hm, hri, hok, hpu, hcm⟩ := h
  obtain ⟨d, rfl⟩ : ∃ d, k = bdN l + d := ⟨k - bdN l, by omega⟩
  have hd : bdN l + d - bdN l = d := by omega
  rw [hd] at hp
  have hnn : ¬ (bdN l = 0 ∨ bdN l + d < bdN l) := by omega
  unfold rdS
  rw [if_neg hnn, hd]
  unfold nxT
  rw [hp, ← hfi]
  rw [hp] at hok
  have hdd : bdN l + d + 1 - bdN l = d + 1 := by omega
  rw [if_neg (by omega)]
  by_cases h1 : d = 1
  · subst h1
    rw [if_pos rfl, if_pos rfl]
    exact ⟨rfl, fun _ => ⟨n0, by omega, by omega, by rw [hdd], hl, hfi, hm, hri, by simp, hpu, hcm⟩⟩
  rw [if_neg (by omega), if_neg h1]
  by_cases h9 : d = 9
  · subst h9
    rw [if_pos rfl, if_pos rfl]
    refine ⟨rfl, fun hh => ?_⟩
    cases x <;> simp at hh
  rw [if_neg (by omega), if_neg h9, if_neg (by omega)]
  cases x
  · rw [if_pos rfl, if_pos rfl]
    refine ⟨rfl, fun hh => ?_⟩
    simp at hh
  rw [if_neg (show ¬ (true = false) by simp), if_neg (show ¬ (true = false) by simp)]
  by_cases h2 : d = 2 ∧ s.fi = false
  · rw [if_pos ⟨by omega, h2.2⟩, if_pos h2]
    refine ⟨rfl, fun hh => ?_⟩
    simp at hh
  · rw [if_neg (fun hh => h2 ⟨by omega, hh.2⟩), if_neg h2]
    refine ⟨by by_cases h8 : d = 8 <;> simp [h8] <;> omega, fun _ => ⟨n0, by omega, by omega, by rw [hdd]; simp only; omega, hl, hfi, hm, hri, fun h4 => ?_, hpu, hcm⟩⟩
    simp only at h4 ⊢
    by_cases h3 : d = 2
    · cases e : s.fi with
      | true => rfl
      | false => exact absurd ⟨h3, e⟩ h2
    · exact hok (by omega)

/-- What the state is, as long as nothing has ended it. -/
def Reading (l : List Bool) (k : Nat) (s : Tk) : Prop := InB l k s ∨ BeB l k s

theorem Reading.start (l : List Bool) : Reading l 0 s0 := .inl (InB.start l)

theorem Reading.step {l : List Bool} {k : Nat} {s : Tk} {x : Bool} (h : Reading l k s) (hx : l[k]? = some x) :
    (nxT s x).2 = rdS (bdN l) (tkL l).2 (fitL (bdL l)) k x ∧ ((nxT s x).2 = 0 ∨ (nxT s x).2 = 4 → Reading l (k + 1) (nxT s x).1) := by
  rcases h with h | h
  · exact h.step hx
  · obtain ⟨h1, h2⟩ := h.step hx
    exact ⟨h1, fun e => .inr (h2 e)⟩

theorem Reading.ri {l : List Bool} {k : Nat} {s : Tk} (h : Reading l k s) : rightA s.b s.m := by
  rcases h with h | h
  · exact h.ri
  · exact h.ri
end Go.Proofs.YtajdbimdiodalaaGreat

namespace Go.Proofs.YtajdbimdiodalaaGreat
open Go.RowKit Go.Sort
set_option linter.unusedVariables false

/-- The state of Parse's loop: the row that is read, the boxes of the result and of the frame, the bytes so far. -/
structure Pl (w wr : World) (g q : Nat) (l : List Bool) (v0 v1 v2 v3 : Value) (a : Option Addr) (k c : Nat) (out : List UInt8) : Prop where
  row : Rw w wr g l
  bel : Below w.heap.size w wr
  b2 : wr.heap[w.heap.size]? = some (.cells #[.int .u32 0, .bool false, .bool false, .int .u8 0, .slice none 0 0] 35 (0, 0))
  b3 : wr.heap[q]? = some (.cells #[v0, v1, v2, v3, .slice a k c] 35 (0, 0))
  own : OL bv 5 (q + 1) wr a k c out

section
variable {w wr w' : World} {g q : Nat} {l l' : List Bool} {v0 v1 v2 v3 : Value} {a a' : Option Addr} {k c k' c' : Nat} {out out' : List UInt8}
theorem Pl.call (h : Pl w wr g q l v0 v1 v2 v3 a k c out) (hg : w.heap.size < g) (hq : g < q) (hr : Rw w w' g l') (hgr : wr.grownBy w' (some g)) : Pl w w' g q l' v0 v1 v2 v3 a k c out :=
  ⟨hr, h.bel.grown hgr h.bel.size (fun k hk => by simp at hk; omega), grow_box hgr h.b2 (by omega), grow_box hgr h.b3 (by omega), h.own.kept fun j hj => by
    have h1 := h.own.ltB hj
    exact hgr.block j h1.1 (by simp; have := h1.2; dsimp only at this; omega)⟩
theorem Pl.drew (h : Pl w wr g q l v0 v1 v2 v3 a k c out) : Pl w wr.drew g q l v0 v1 v2 v3 a k c out := ⟨h.row, h.bel.drew, h.b2, h.b3, h.own.drew⟩
theorem Pl.size (h : Pl w wr g q l v0 v1 v2 v3 a k c out) : q < wr.heap.size := bx_lt h.b3
theorem Pl.lt (h : Pl w wr g q l v0 v1 v2 v3 a k c out) : g < wr.heap.size := by obtain ⟨_, _, _, h1, _⟩ := h.row; exact bx_lt h1
theorem Pl.app (h : Pl w wr g q l v0 v1 v2 v3 a k c out) (hg : w.heap.size < g) (hq : g < q) (o : Obj) (hol : OL bv 5 (q + 1) w' a' k' c' out') (hb : Below (q + 1) (wr.alloc o) w') :
    Pl w (w'.setCell ⟨q, 4, none⟩ (.slice a' k' c')) g q l v0 v1 v2 v3 a' k' c' out' := by
  have hs := h.size
  have hq' : ∀ j, j ≤ q → w'.heap[j]? = wr.heap[j]? := fun j hj => (hb.block j (by omega)).trans (Below.heap_alloc _ _ _ (by omega))
  refine ⟨h.row.grown ((heap_setCell_other _ _ _ _ (by simp; omega)).trans (hq' g (by omega))), ?_, ?_, ?_, hol.kept fun j hj => heap_setCell_other _ _ _ _ ?_⟩
  · exact ((h.bel.alloc h.bel.size o).trans (hb.mono (by omega))).setCell (by simp; omega) _
  · exact (heap_setCell_other _ _ _ _ (by simp; omega)).trans ((hq' _ (by omega)).trans h.b2)
  · have := heap_setCell_same w' q 4 _ _ (.slice a' k' c') ((hq' q (Nat.le_refl _)).trans h.b3)
    simpa using this
  · have h1 := (hol.ltB hj).2
    dsimp only at h1 ⊢
    omega
end

/-- One byte more of what is read. -/
theorem byL_chunk {l : List Bool} {M k L : Nat} (hk : k < L) (hl : M + 8 * L ≤ l.length) : (byL ((l.drop M).take (8 * L))).take (k + 1) = (byL ((l.drop M).take (8 * L))).take k ++ [UInt8.ofNat (numL ((l.drop (M + 8 * k)).take 8) % 4294967296)] := by
  have hlen : ((l.drop M).take (8 * L)).length = 8 * L := by rw [List.length_take, List.length_drop]; omega
  have h := byL_get ((l.drop M).take (8 * L)) k (by rw [hlen]; omega)
  have hn : numL ((l.drop (M + 8 * k)).take 8) % 4294967296 = numL ((l.drop (M + 8 * k)).take 8) := by
    have := numL_take_lt (l.drop (M + 8 * k)) 8
    exact Nat.mod_eq_of_lt (by omega)
  rw [take_snoc h, hn]
  congr 3
  rw [List.drop_take, List.drop_drop, List.take_take, Nat.min_eq_left (by omega)]

theorem byL_done {l : List Bool} {M L : Nat} (hl : M + 8 * L ≤ l.length) : (byL ((l.drop M).take (8 * L))).length = L := by
  rw [byL_length, List.length_take, List.length_drop]; omega

theorem lit1V (w : World) (v : Nat) (hv : v < 256) : RL bv (w.alloc (.cells #[.int .u8 (v : Int)] 5)) (some ⟨w.heap.size, 0, none⟩) 1 1 [UInt8.ofNat v] := by
  have h := ol_lit bv 5 w.heap.size w [UInt8.ofNat v] #[bv (UInt8.ofNat v)] 1 rfl rfl (by omega) (Nat.le_refl _)
  have e : bv (UInt8.ofNat v) = .int .u8 (v : Int) := by
    show Value.int .u8 ((UInt8.ofNat v).toNat : Int) = _
    rw [UInt8.toNat_ofNat_of_lt' (by simpa using hv)]
  rw [e] at h
  exact h.rl

set_option maxHeartbeats 2000000 in
theorem parse_own (w : World) (a : Option Addr) (n c : Nat) (l : List Bool) (h : RL .bool w a n c l) (hk : paK l = true) (hs : suV l = 0#15) :
    Calls Tryz.prog 187 #[.slice a n c] w fun e w' => ∃ a' c', e = .returned (.tuple #[.agg #[.int .u32 ((reF l).id : Int), .bool (reF l).ext, .bool (reF l).rem, .int .u8 ((reF l).dlc : Int), .slice a' (lonF (reF l).rem (reF l).dlc) c'], .int .i64 0]) ∧ OL bv 5 w.heap.size w' a' (lonF (reF l).rem (reF l).dlc) c' (paD l) ∧ Below w.heap.size w w' := by
  have hmf : ∀ (fn : Fn) (first cap : Array Value) (w : World), (Instr.makeFunc fn first cap).run Tryz.prog w = .ok (.func fn first cap) w := fun _ _ _ _ => rfl
  obtain ⟨hd, hx, hlN⟩ := paK_parts hk
  have hN2 := hdN_le l
  obtain ⟨w1, hw1, hb1, g1⟩ := zero_new w
  have h1 := h.below g1
  have hs1 : w.heap.size < w1.heap.size := bx_lt hb1
  have hH := fhead_any w1 a n c l h1 (by rw [← h.len]; omega) hd
  rw [← hlN, h.len] at hH hN2
  obtain ⟨b, off, x, rfl, hx', hck⟩ := h1.at (k := 0) (by omega)
  obtain rfl : x = false := by rw [hx'] at hx; simpa using hx
  have hlt : b < w1.heap.size := by obtain ⟨b', off', e, hl, _⟩ := h1.cell (by omega); cases e; exact hl
  obtain ⟨E, hE⟩ : ∃ E, n = E + 15 := ⟨n - 15, by omega⟩
  have hst := (sum_tail (l := l) (E := E) (by rw [h.len]; exact hE)).1 hs
  obtain ⟨a1, c1, p1, p2, hq1⟩ := run_cutFrom tB h1 .i64 E (by omega)
  obtain ⟨a2, p3, p4, hq2⟩ := run_cutTo tB h1 .i64 E (by omega)
  obtain ⟨v1, hv1⟩ : ∃ v1, v1 = numL (l.drop E) % 4294967296 := ⟨_, rfl⟩
  have hv1' : v1 < 32768 := by rw [hv1, hst]; exact (suV (l.take E)).isLt
  have k1 : ∀ w2, Below w1.heap.size w1 w2 → ∀ d os, Calls Tryz.prog 206 #[.slice a1 (n - E) c1] (grow (redrawn w2 d) os) fun e w'' => e = .returned (.int .u32 (v1 : Int)) ∧ ∃ p : Regrown, w'' = grow (redrawn w2 p.d) p.os := fun w2 g2 d os => by
    rw [hv1]
    exact Calls.regrown_of ((number_any _ a1 _ c1 _ ((hq1.below g2).below (below_regrown _ _ _)) (by omega)).mono fun e w' he => ⟨he.1, by rw [← he.2]; exact Below.refl _ _⟩)
  have k2 : ∀ w2, Below w1.heap.size w1 w2 → ∀ d os, Calls Tryz.prog 203 #[.slice a2 E c] (grow (redrawn w2 d) os) fun e w'' => e = .returned (.int .u16 (v1 : Int)) ∧ ∃ p : Regrown, w'' = grow (redrawn w2 p.d) p.os := fun w2 g2 d os => by
    rw [hv1, hst]
    exact Calls.regrown_of (sum_any _ a2 E c _ ((hq2.below g2).below (below_regrown _ _ _)) (by omega))
  have hEi : (n : Int) - 15 = (E : Int) := by omega
  have i0 : 0 < n := by omega
  have hE0 : (0 : Int) ≤ (E : Int) := by omega
  have hML : heM l + 8 * lonF (reF l).rem (reF l).dlc + 15 = l.length := by rw [hlN]; rfl
  have HD : Hid (paD l = byL ((l.drop (heM l)).take (8 * lonF (reF l).rem (reF l).dlc))) := by show _ = _; rfl
  rw [HD.out]
  have hf : ∀ w9, Below w.heap.size w w9 → Calls Tryz.prog 208 #[.func (.func 207) #[.pointer (some ⟨w9.heap.size, 0, none⟩)] #[]] (w9.alloc (.cells #[.slice (some ⟨b, off, none⟩) n c] 239)) fun e w' => e = .returned (.agg #[.int .u32 ((reF l).id : Int), .bool (reF l).ext, .bool (reF l).rem, .int .u8 ((reF l).dlc : Int), .slice none 0 0]) ∧ Rw w w' w9.heap.size (l.drop (heM l)) ∧ (w9.alloc (.cells #[.slice (some ⟨b, off, none⟩) n c] 239)).grownBy w' (some w9.heap.size) := fun w9 g9 =>
    fields_any w _ _ l g9.size (by simp) (g9.alloc g9.size _) ⟨_, n, c, heap_alloc_new w9 _, h⟩ hd
  obtain ⟨q1, q2⟩ := reF_lt l
  have hq8 := lonF_le (reF l).rem (reF l).dlc
  have hlo := fun w0 => frLong_any w0 (reF l).id (reF l).ext (reF l).rem (reF l).dlc none 0 0 (by omega)
  obtain ⟨L, hL⟩ : ∃ L, L = lonF (reF l).rem (reF l).dlc := ⟨_, rfl⟩
  obtain ⟨M, hM⟩ : ∃ M, M = heM l := ⟨_, rfl⟩
  rw [← hL] at hlo hq8 hML ⊢
  rw [← hM] at hML
  simp only [← hM] at hf ⊢
  obtain ⟨fr, hfr⟩ : ∃ fr, fr = reF l := ⟨_, rfl⟩
  simp only [← hfr] at hf hlo ⊢
  clear hL hM hfr q1 q2 HD
  obtain ⟨id, ext, rem, dlc, dat⟩ := fr
  dsimp only at hf hlo ⊢
  have hlen := h.len
  have hML2 : M + 8 * L ≤ l.length := by omega
  have HE := hid hE
  clear hk hs hd hx hx' hlN hst hv1 hq1 hq2 h1 hE hML
  go_enter Tryz.func187, Tryz.ntmps187
  go_wp2_with (go_at_call 205; rw [hw1.out]; (with_reducible refine hH.mono ?_); rintro e w2 ⟨rfl, g2⟩; have hb2 := bx_below hb1 g2; have c0 : w2.cell? ⟨b, off, none⟩ = some (.bool false) := (by rw [g2.cell (p := ⟨b, off, none⟩) hlt]; exact hck))
  have k1' := k1 w2 g2
  have k2' := k2 w2 g2
  clear k1 k2 c0 hck
  refine wp_region_quiet_below (by kernel_rfl) (by kernel_rfl) ?_
  repeat (go_big_quiet_step (first
    | (go_at_call 206; with_reducible exact k1' _ _)
    | (go_at_call 203; with_reducible exact k2' _ _)))
  refine wpQuiet_nil ?_
  intro w9 hw9
  have g9 : Below w2.heap.size w2 w9 := by obtain ⟨p9, rfl⟩ := hw9; exact below_regrown _ _ _
  clear hw9 k1' k2' p1 p2 p3 p4
  have hb9 := bx_below hb2 g9
  have gg9 := bstep (bstep g1 g2) g9
  have hs9 : w.heap.size < w9.heap.size := bx_lt hb9
  have hf' := hf w9 gg9
  clear hf hb2 hb1 g1 g2 g9 hH hw1 HE hEi hE0 hlt
  go_wp2_with (first
    | (go_at_call 208; (with_reducible refine hf'.mono ?_); rintro e w3 ⟨rfl, r3, g3⟩; have gg3 : Below w.heap.size w w3 := (gg9.alloc (Nat.le_of_lt hs9) _).grown g3 (by simp; omega) (fun q hq => by simp at hq; omega); have hb3 := grow_box g3 (bx_alloc _ hb9) (by omega); have hlt3 : w9.heap.size < w3.heap.size := Nat.lt_of_lt_of_le (by simp) g3.size)
    | (go_at_call 81; refine (hlo _).mono ?_; rintro e w4 ⟨rfl, g4⟩; have pl4 : Pl w w4 w9.heap.size w3.heap.size (l.drop (M + 8 * 0)) (.int .u32 (id : Int)) (.bool ext) (.bool rem) (.int .u8 (dlc : Int)) none 0 0 [] := ⟨r3.grown ((g4.block _ (by simp; omega)).trans (Below.heap_alloc _ _ _ hlt3)), bstep (bnew gg3 _) g4, bx_below (bx_alloc _ hb3) g4, bx_below (heap_alloc_new w3 _) g4, OL.nil _ _ _ _⟩))
  clear r3 g3 gg3 hb3 g4 hf' hlo hb9 gg9 h hlen
  generalize hgg : w9.heap.size = g at *
  generalize hqq : w3.heap.size = q at *
  clear hgg hqq
  have hln := byL_done hML2
  go_loopw [49] (fun i wr => ∃ (k : Nat) (a' : Option Addr) (c' : Nat), k ≤ L ∧ i = .int .i64 (k : Int) ∧ Pl w wr g q (l.drop (M + 8 * k)) (.int .u32 (id : Int)) (.bool ext) (.bool rem) (.int .u8 (dlc : Int)) a' k c' ((byL ((l.drop M).take (8 * L))).take k)) (fun i _ => L - (intOf i).toNat)
  case atStart => exact ⟨0, none, 0, Nat.zero_le _, rfl, pl4⟩
  case round =>
    clear pl4
    obtain ⟨k, a', c', hk, rfl, pl⟩ := hrel
    by_cases hlt : k < L
    · obtain ⟨v, hv⟩ : ∃ v, v = numL ((l.drop (M + 8 * k)).take 8) % 4294967296 := ⟨_, rfl⟩
      have hv2 : v < 256 := by have := numL_take_lt (l.drop (M + 8 * k)) 8; omega
      have hnext : Hid ((byL ((l.drop M).take (8 * L))).take (k + 1) = (byL ((l.drop M).take (8 * L))).take k ++ [UInt8.ofNat v]) := by
        show _ = _
        rw [byL_chunk hlt hML2, ← Nat.mod_eq_of_lt (show v < 4294967296 by omega), hv, Nat.mod_mod]
      have pld := pl.drew
      have kt : Calls Tryz.prog 207 #[.pointer (some ⟨g, 0, none⟩), .int .i64 8] wr.drew fun e w' => e = .returned (.int .u32 (v : Int)) ∧ Pl w w' g q (l.drop (M + 8 * (k + 1))) (.int .u32 (id : Int)) (.bool ext) (.bool rem) (.int .u8 (dlc : Int)) a' k c' ((byL ((l.drop M).take (8 * L))).take k) := by
        have := rtake_any w wr.drew g (l.drop (M + 8 * k)) 8 (Nat.le_of_lt hs9) pld.bel pld.row (by rw [List.length_drop]; omega) (by omega)
        rw [← hv] at this
        refine this.mono fun e w' ⟨he, h2, h3⟩ => ⟨he, pld.call hs9 hlt3 ?_ h3⟩
        rw [List.drop_drop] at h2
        exact h2
      obtain ⟨e0, e1, e2, e3, e4⟩ := bx5 pld.b3
      have hwr : IntKind.u8.wrap (v : Int) = (v : Int) := IntWalk.u8_in _ (by omega)
      clear hv e0 e1 e2 e3
      go_wp2_with fail
      have hk8 : (byL ((l.drop M).take (8 * L))).length = L := hln
      go_region_law
        (first
          | (go_simp; go_at_call 207; (with_reducible refine Calls.mono kt ?_); rintro e w6 ⟨rfl, pl6⟩; have p6 := (bx5 pl6.b3).2.2.2.2; have hs6 := pl6.size)
          | (refine step_app (f := bv) (B := q + 1) (w := w6.alloc (.cells #[.int .u8 (v : Int)] 5)) (a := a') (n := k) (c := c') (l := (byL ((l.drop M).take (8 * L))).take k) (a2 := some ⟨w6.heap.size, 0, none⟩) (n2 := 1) (c2 := 1) (m := [UInt8.ofNat v]) tY rfl (.tmp 52) (.tmp 56) rfl rfl (pl6.own.alloc _) rfl (lit1V w6 v hv2) (fun _ => rfl) ?_ ?_ ?_ ?_; omega; omega; (simp; omega); intro w7 a7 c7 hol7 g7; have pl7 := pl6.app hs9 hlt3 _ hol7 g7; have b7 : w7.heap[q]? = some (.cells #[.int .u32 (id : Int), .bool ext, .bool rem, .int .u8 (dlc : Int), .slice a' k c'] 35 (0, 0)) := (by rw [g7.block _ (by omega)]; exact bx_alloc _ pl6.b3); have c7' := (bx5 b7).2.2.2.2; have f7 := bx_thaw b7 4))
      all_goals
        clear kt e4 p6
        go_wp2
        go_roundw
        case rel => exact ⟨k + 1, a7, c7, by omega, by go_num, by rw [hnext.out]; exact pl7⟩
        case measure => simp [intOf]; omega
    · obtain rfl : k = L := by omega
      rw [List.take_of_length_le (by omega)] at pl
      obtain ⟨e0, e1, e2, e3, e4⟩ := bx5 pl.b3
      obtain ⟨d0, d1, d2, d3, d4⟩ := bx5 pl.b2
      have f8 := bx_thaw pl.b2
      have hset := below_five pl.bel
      have hown := pl.own
      clear pl
      go_wp2
      refine bodyPost_ret (v := .tuple #[.agg #[.int .u32 (id : Int), .bool ext, .bool rem, .int .u8 (dlc : Int), .slice a' k c'], .int .i64 0]) (by simp [results, Tryz.results187, go_sem, d0, d1, d2, d3, d4]) rfl ⟨a', c', rfl, (hown.kept fun j hj => ?_).mono (by omega), hset _ _ _ _ _⟩
      have h1 := (hown.ltB hj).2
      have hn : j ≠ w.heap.size := by dsimp only at h1; omega
      rw [heap_setCell_other _ _ _ _ hn, heap_setCell_other _ _ _ _ hn, heap_setCell_other _ _ _ _ hn, heap_setCell_other _ _ _ _ hn, heap_setCell_other _ _ _ _ hn]

theorem parse_ok (w : World) (a : Option Addr) (n c : Nat) (l : List Bool) (h : RL .bool w a n c l) (hk : paK l = true) (hs : suV l = 0#15) :
    Calls Tryz.prog 187 #[.slice a n c] w fun e w' => ∃ a' c', e = .returned (.tuple #[.agg #[.int .u32 ((reF l).id : Int), .bool (reF l).ext, .bool (reF l).rem, .int .u8 ((reF l).dlc : Int), .slice a' (lonF (reF l).rem (reF l).dlc) c'], .int .i64 0]) ∧ RL bv w' a' (lonF (reF l).rem (reF l).dlc) c' (paD l) ∧ Below w.heap.size w w' :=
  (parse_own w a n c l h hk hs).mono fun e w' ⟨a', c', h1, h2, h3⟩ => ⟨a', c', h1, h2.rl, h3⟩
end Go.Proofs.YtajdbimdiodalaaGreat
