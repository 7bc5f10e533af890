/-
  Contracts of stuff.Put and stuff.Take.
  Contracts of the document's own answers of layer 2.
  Contracts of the document's own answers of layer 2, the rest.
  Contracts of the document's own answers of layer 2: Put and Take.
  Plain mathematics of layer 3: check sums as numbers of 15 bits. Nothing of the program is spoken of here.
  Contracts of the functions of layer 3 that touch no memory: crc.Next.
-/
import Derived.Test.YtgpmhmdofefdcaaGreatB2
import Derived.WalkSmall
import Derived.Test.YtgpmhmdofefdcaaGreatB1f
import Derived.Laws.BitsAllLaws
namespace Go.Proofs.YtgpmhmdofefdcaaGreat
open Go.RowKit
set_option linter.unusedVariables false

theorem owed_five (w : World) (b : Bool) :
    Calls Tryz.prog 50 #[.agg #[.bool b, .int .u8 5]] w fun e w' => e = .returned (.tuple #[.bool (!b), .bool true]) ∧ Below w.heap.size w w' := by
  have := owed_any w b 5 (by omega)
  simpa using this

theorem owed_none (w : World) (b : Bool) (m : Nat) (hm : m < 256) (h5 : m ≠ 5) :
    Calls Tryz.prog 50 #[.agg #[.bool b, .int .u8 (m : Int)]] w fun e w' => e = .returned (.tuple #[.bool false, .bool false]) ∧ Below w.heap.size w w' := by
  have := owed_any w b m hm
  simpa [h5] using this

theorem next_five (w : World) (b : Bool) :
    Calls Tryz.prog 49 #[.agg #[.bool b, .int .u8 5], .bool (!b)] w fun e w' => e = .returned (.tuple #[.agg #[.bool (!b), .int .u8 1], .int .u8 1]) ∧ Below w.heap.size w w' := by
  have := next_any w b 5 (!b) ⟨by omega, by omega⟩
  rw [nxt_owed] at this
  exact this

theorem drop_at {l : List Bool} {k : Nat} {x : Bool} (h : l[k]? = some x) : l.drop k = x :: l.drop (k + 1) := by
  obtain ⟨h1, h2⟩ := List.getElem?_eq_some_iff.1 h
  rw [List.drop_eq_getElem_cons h1, h2]

theorem put_any (w : World) (a : Option Addr) (n c : Nat) (l : List Bool) (h : RL .bool w a n c l) (hn : n ≤ 100000) :
    Calls Tryz.prog 37 #[.slice a n c] w fun e w' => ∃ a' c', e = .returned (.slice a' (putL l).length c') ∧ OL .bool 4 w.heap.size w' a' (putL l).length c' (putL l) ∧ Below w.heap.size w w' := by
  have hlen := hid (putL_len l)
  go_enter Tryz.func37, Tryz.ntmps37
  go_wp2_with (at_make; refine wpList_mk0 (f := Value.bool) (n := n + n / 4) tB rfl _ _ rfl _ _ _ rfl rfl (by omega) (by omega) (by omega) ?_; intro w1 hown hb1 hs1; obtain ⟨g, hg⟩ : ∃ g, g = w.heap.size + 1 := ⟨_, rfl⟩; rw [← hg] at hs1; have HG := hid hg; clear hg)
  have H0 := hid hown; clear hown
  go_loopw [3, 18] (fun v i wr => ∃ (k m : Nat) (b : Bool) (out : List Bool) (a' : Option Addr) (c' : Nat), k ≤ n ∧ i = .int .i64 k ∧ v = .slice a' out.length c' ∧ OL .bool 4 w.heap.size wr a' out.length c' out ∧
      wr.heap[g]? = some (.cells #[.bool b, .int .u8 (m : Int)] 50 (0, 0)) ∧ NB a' g ∧ Below w.heap.size w wr ∧ rightA b m ∧ m ≤ 4 ∧ out ++ putF b m (l.drop k) = putL l) (fun _ i _ => n - (intOf i).toNat)
  case atStart => exact ⟨0, 0, false, [], _, _, Nat.zero_le _, rfl, rfl, H0.out.alloc _, by rw [← hs1]; exact heap_alloc_new _ _, NB.at (by have := HG.out; omega), bnew hb1 _, ⟨by omega, fun _ => rfl⟩, by omega, by rw [List.drop_zero]; rfl⟩
  case round =>
    obtain ⟨k, m, b, out, a', c', hk, rfl, rfl, hol, hbx, hnb, hb, hr, hm4, hspec⟩ := hrel
    have HS := hid hspec; clear hspec
    have hlo : out.length ≤ 200000 := by
      have h1 := hlen.out
      have h2 : out.length ≤ (putL l).length := by rw [← HS.out, List.length_append]; omega
      rw [h.len] at h1
      omega
    have HR := hid hr; clear hr
    by_cases hlt : k < n
    · have hrr := h.below hb
      obtain ⟨b0, off, x, rfl, hx, hck⟩ := hrr.at hlt
      have HX := hid hx; clear hx hrr
      have hs := hb.size
      have hgl := bx_lt hbx
      obtain ⟨b1, hb1'⟩ : ∃ b1, b1 = (nxt b m x).1.1 := ⟨_, rfl⟩
      obtain ⟨m1, hm1⟩ : ∃ m1, m1 = (nxt b m x).1.2 := ⟨_, rfl⟩
      obtain ⟨kd, hkd⟩ : ∃ kd, kd = (nxt b m x).2 := ⟨_, rfl⟩
      have hm15 : m1 ≤ 5 := by rw [hm1]; exact (nxt_right HR.out).1.1
      have HB1 := hid hb1'; have HM1 := hid hm1; have HKD := hid hkd
      clear hb1' hm1 hkd
      by_cases h5 : m1 = 5
      · obtain ⟨e1, e2⟩ := nxt_five hm4 (HM1.out.symm.trans h5)
        have hb1x : b1 = x := by rw [HB1.out, e1]
        have hn5 : Hid (nxt b m x = ((x, 5), 0)) := e1
        subst h5
        subst hb1x
        clear HB1 HM1 HKD e1 e2
        go_wp2_with (first
          | (at_builtin; refine wpList_appg (f := Value.bool) tB rfl _ _ rfl rfl (hol.alloc _) rfl (ol_lit Value.bool _ w.heap.size wr [b1] _ 1 rfl rfl (by omega) hs).rl (by omega) (fun _ => rfl) (by omega) (by omega) (by simp; omega) ?_; intro w2 a2 c2 hol2 hb2 hk2 hs2; have hs2' : w.heap.size + 1 ≤ w2.heap.size := by { rw [heap_size_alloc] at hs2; omega }; have hbx2 : w2.heap[g]? = _ := ((hk2 g (by simp; omega) hnb).1).trans (bx_alloc _ hbx); have hnb2 := (hk2 g (by simp; omega) hnb).2; obtain ⟨c0, c1, f0, f1⟩ := bx hbx2)
          | (go_at_call 49; (with_reducible refine (next_any w2 b m b1 HR.out).mono ?_); rw [hn5.out]; rintro e w3 ⟨rfl, g3⟩; have hbx3 := bx_below hbx2 g3; obtain ⟨d0, d1, k0, k1⟩ := bx hbx3)
          | (go_at_call 50; refine (owed_five _ b1).mono ?_; rintro e w4 ⟨rfl, g4⟩; have hbx4 := bx_below (bx_set (.bool b1) (.int .u8 5) hbx3) g4; have hol4 := ((hol2.below g3).box hnb2 (.bool b1) (.int .u8 5)).below g4; have hs4 : w.heap.size + 1 ≤ w4.heap.size := by { have h1 := g4.size; have h2 := g3.size; simp at h1; omega }; have hb4 : Below w.heap.size w w4 := (((hb.alloc hs _).trans hb2).trans (((g3.mono (by omega)).setCell (by show w.heap.size ≤ g; have := HG.out; omega) _).setCell (by show w.heap.size ≤ g; have := HG.out; omega) _)).trans (g4.mono (by simp; have := g3.size; omega)))
          | (at_builtin; refine wpList_appg (f := Value.bool) tB rfl _ _ rfl rfl (hol4.alloc _) rfl (ol_lit Value.bool _ w.heap.size w4 [!b1] _ 1 rfl rfl (by omega) (by omega)).rl (by omega) (fun _ => rfl) (by omega) (by omega) (by simp; omega) ?_; intro w5 a5 c5 hol5 hb5 hk5 hs5; have hs5' : w.heap.size + 1 ≤ w5.heap.size := by { rw [heap_size_alloc] at hs5; omega }; have hbx5 : w5.heap[g]? = _ := ((hk5 g (by simp; have := bx_lt hbx4; omega) hnb2).1).trans (bx_alloc _ hbx4); have hnb5 := (hk5 g (by simp; have := bx_lt hbx4; omega) hnb2).2; obtain ⟨p0, p1, q0, q1⟩ := bx hbx5)
          | (go_at_call 49; (with_reducible refine (next_five w5 b1).mono ?_); rintro e w6 ⟨rfl, g6⟩; have hbx6 := bx_below hbx5 g6; obtain ⟨r0, r1, t0, t1⟩ := bx hbx6))
        go_roundw
        case rel =>
          refine ⟨k + 1, 1, !b1, out ++ [b1] ++ [!b1], a5, c5, by omega, by go_num, by simp, by simpa using (hol5.below g6).box hnb5 _ _, bx_set _ _ hbx6, hnb5, ?_, ⟨by omega, by omega⟩, by omega, ?_⟩
          · exact ((hb4.alloc (by omega) _).trans hb5).trans (((g6.mono (by omega)).setCell (by show w.heap.size ≤ g; have := HG.out; omega) _).setCell (by show w.heap.size ≤ g; have := HG.out; omega) _)
          · rw [← HS.out, drop_at HX.out, putF, if_pos (by rw [hn5.out])]; simp
        case measure => simp [intOf]; omega
      · have hm14 : m1 ≤ 4 := by omega
        go_wp2_with (first
          | (at_builtin; refine wpList_appg (f := Value.bool) tB rfl _ _ rfl rfl (hol.alloc _) rfl (ol_lit Value.bool _ w.heap.size wr [x] _ 1 rfl rfl (by omega) hs).rl (by omega) (fun _ => rfl) (by omega) (by omega) (by simp; omega) ?_; intro w2 a2 c2 hol2 hb2 hk2 hs2; have hs2' : w.heap.size + 1 ≤ w2.heap.size := by { rw [heap_size_alloc] at hs2; omega }; have hbx2 : w2.heap[g]? = _ := ((hk2 g (by simp; omega) hnb).1).trans (bx_alloc _ hbx); have hnb2 := (hk2 g (by simp; omega) hnb).2; obtain ⟨c0, c1, f0, f1⟩ := bx hbx2)
          | (go_at_call 49; refine (next_any w2 b m x HR.out).mono ?_; rw [← HB1.out, ← HM1.out, ← HKD.out]; rintro e w3 ⟨rfl, g3⟩; have hbx3 := bx_below hbx2 g3; obtain ⟨d0, d1, k0, k1⟩ := bx hbx3)
          | (go_at_call 50; refine (owed_none _ b1 m1 (by omega) h5).mono ?_; rintro e w4 ⟨rfl, g4⟩; have hbx4 := bx_below (bx_set (.bool b1) (.int .u8 (m1 : Int)) hbx3) g4))
        go_roundw
        case rel =>
          refine ⟨k + 1, m1, b1, out ++ [x], a2, c2, by omega, by go_num, by simp, by simpa using ((hol2.below g3).box hnb2 _ _).below g4, hbx4, hnb2, ?_, ?_, hm14, ?_⟩
          · exact (((hb.alloc hs _).trans hb2).trans (((g3.mono (by omega)).setCell (by show w.heap.size ≤ g; have := HG.out; omega) _).setCell (by show w.heap.size ≤ g; have := HG.out; omega) _)).trans (g4.mono (by simp; have := g3.size; omega))
          · rw [HB1.out, HM1.out]; exact (nxt_right HR.out).1
          · rw [← HS.out, drop_at HX.out, putF, if_neg (by rw [← HM1.out]; exact h5), ← HB1.out, ← HM1.out]; simp
        case measure => simp [intOf]; omega
    · obtain rfl : k = n := by omega
      have hout : Hid (out = putL l) := by
        have e := HS.out
        rw [List.drop_eq_nil_of_le (by rw [h.len]; omega)] at e
        show out = putL l
        simpa [putF] using e
      go_wp2
      go_ret
      have e := hout.out
      subst e
      exact ⟨a', c', rfl, hol, hb⟩

theorem nxt_kind (b : Bool) (m : Nat) (x : Bool) : (nxt b m x).2 = 0 ∨ (nxt b m x).2 = 1 ∨ (nxt b m x).2 = 2 := by
  unfold nxt; split <;> split <;> simp

end Go.Proofs.YtgpmhmdofefdcaaGreat

namespace Go.Proofs.YtgpmhmdofefdcaaGreat
open Go.RowKit
set_option linter.unusedVariables false

theorem rep_of {l : List Bool} {b : Bool} {n : Nat} (hn : n ≤ l.length) (h : ∀ j, j < n → l[l.length - 1 - j]? = some b) : l.drop (l.length - n) = List.replicate n b := by
  apply List.ext_getElem?
  intro i
  rw [List.getElem?_drop, List.getElem?_replicate]
  by_cases hi : i < n
  · rw [if_pos hi]
    have := h (n - 1 - i) (by omega)
    rw [← this]; congr 1; omega
  · rw [if_neg hi, List.getElem?_eq_none (by omega)]

/-- What looking back from the end finds: n bits alike, and then the begin, or five of them, or another one. -/
theorem rowL_at {l : List Bool} {b : Bool} {n : Nat} (hn : n ≤ l.length) (h1 : 1 ≤ n) (h5 : n ≤ 5) (h : ∀ j, j < n → l[l.length - 1 - j]? = some b) (hs : n = 5 ∨ n = l.length ∨ l[l.length - 1 - n]? = some (!b)) : rowL l = (b, n) := by
  have e : l = l.take (l.length - n) ++ List.replicate n b := by rw [← rep_of hn h, List.take_append_drop]
  rw [e]
  refine rowL_back _ b n h1 h5 ?_
  rcases hs with hs | hs | hs
  · exact .inl hs
  · exact .inr (.inl (by rw [hs]; simp))
  · refine .inr (.inr ⟨l.take (l.length - n - 1), ?_⟩)
    have hlt : l.length - 1 - n < l.length := (List.getElem?_eq_some_iff.1 hs).1
    by_cases hz : n = l.length
    · have h0 := h (n - 1) (by omega)
      rw [show l.length - 1 - (n - 1) = l.length - 1 - n from by omega, hs] at h0
      cases b <;> simp at h0
    · rw [show l.length - n = l.length - n - 1 + 1 from by omega]
      exact take_snoc (by rw [← hs]; congr 1; omega)

end Go.Proofs.YtgpmhmdofefdcaaGreat

namespace Go.Proofs.YtgpmhmdofefdcaaGreat
open Go.RowKit
set_option linter.unusedVariables false

theorem field1 (u v : Value) (w : World) : (Instr.field 50 (.agg #[u, v]) 1).run Tryz.prog w = .ok v w := by kernel_rfl

end Go.Proofs.YtgpmhmdofefdcaaGreat

namespace Go.Proofs.YtgpmhmdofefdcaaGreat
open Go.RowKit
set_option linter.unusedVariables false

theorem rowL_snoc_drop {out : List Bool} {fr : Nat} {b : Bool} {m : Nat} (x : Bool) (hf : fr ≤ out.length) (h : rowL (out.drop fr) = (b, m)) (hm : m ≤ 4) : rowL ((out ++ [x]).drop fr) = (nxt b m x).1 := by
  rw [List.drop_append_of_le_length hf, rowL_snoc, h, rst_nxt x hm]

theorem rowL_one (x : Bool) : rowL [x] = (x, 1) := by cases x <;> rfl

theorem rowL_last {t : List Bool} {b : Bool} {m : Nat} (h : rowL t = (b, m)) (hm : m ≠ 0) : t[t.length - 1]? = some b := by
  have hne : t ≠ [] := by rintro rfl; simp [rowL] at h; omega
  have e : t = t.dropLast ++ [t.getLast hne] := (List.dropLast_concat_getLast hne).symm
  have h2 : (rowL t).1 = t.getLast hne := by
    have := rowL_snoc t.dropLast (t.getLast hne)
    rw [← e] at this
    rw [this]
    unfold rst
    split
    · rfl
    · rfl
  rw [h] at h2
  rw [← List.getLast?_eq_getElem?, List.getLast?_eq_some_getLast hne, ← h2]

end Go.Proofs.YtgpmhmdofefdcaaGreat

namespace Go.Proofs.YtgpmhmdofefdcaaGreat

/-- The check sum after one more bit. -/
def nxV (s : BitVec 15) (b : Bool) : BitVec 15 := (s <<< 1) ^^^ (if s.msb != b then 0x4599#15 else 0#15)

/-- The check sum behind more bits. -/
def foV (s : BitVec 15) (l : List Bool) : BitVec 15 := l.foldl nxV s

/-- The check sum of bits. -/
def suV (l : List Bool) : BitVec 15 := foV 0#15 l

theorem foV_append (s : BitVec 15) (l m : List Bool) : foV s (l ++ m) = foV (foV s l) m := by simp [foV]
theorem foV_nil (s : BitVec 15) : foV s [] = s := rfl
theorem foV_cons (s : BitVec 15) (b : Bool) (l : List Bool) : foV s (b :: l) = foV (nxV s b) l := rfl
theorem suV_append (l m : List Bool) : suV (l ++ m) = foV (suV l) m := foV_append _ _ _
theorem suV_snoc (l : List Bool) (x : Bool) : suV (l ++ [x]) = nxV (suV l) x := by rw [suV_append]; rfl

theorem nxV_xor (a c : BitVec 15) (x y : Bool) : nxV (a ^^^ c) (x != y) = nxV a x ^^^ nxV c y := by
  have hm : (a ^^^ c).msb = (a.msb != c.msb) := by simp [BitVec.msb_xor]
  have hs : (a ^^^ c) <<< 1 = a <<< 1 ^^^ c <<< 1 := by
    exact BitVec.shiftLeft_xor_distrib a c 1
  unfold nxV
  rw [hm, hs]
  generalize a <<< 1 = p
  generalize c <<< 1 = q
  ext i hi
  simp only [BitVec.getElem_xor]
  generalize p[i] = u
  generalize q[i] = v
  cases a.msb <;> cases c.msb <;> cases x <;> cases y <;> simp only [bne_self_eq_false, Bool.bne_false, Bool.bne_true, Bool.not_false, if_true, if_false, Bool.false_eq_true, BitVec.getElem_zero] <;> generalize (0x4599#15)[i] = t <;> cases u <;> cases v <;> (try cases t) <;> rfl

/-- Two lists of one length, turned about by each other. -/
def xoL (l m : List Bool) : List Bool := List.zipWith (fun x y => x != y) l m

theorem foV_xor : ∀ (l m : List Bool) (a c : BitVec 15), l.length = m.length → foV (a ^^^ c) (xoL l m) = foV a l ^^^ foV c m := by
  intro l
  induction l with
  | nil => intro m a c h; cases m with
    | nil => rfl
    | cons y m => simp at h
  | cons x l ih =>
    intro m a c h
    cases m with
    | nil => simp at h
    | cons y m =>
      show foV (nxV (a ^^^ c) (x != y)) (xoL l m) = _
      rw [nxV_xor, ih m _ _ (by simpa using h)]
      rfl

theorem suV_xor (l m : List Bool) (h : l.length = m.length) : suV (xoL l m) = suV l ^^^ suV m := by
  have := foV_xor l m 0#15 0#15 h
  rw [BitVec.xor_self] at this
  exact this

/-- The 15 bits of a sum. -/
def biV (s : BitVec 15) : List Bool := ofL s.toNat 15

theorem nxV_own (s : BitVec 15) : nxV s s.msb = s <<< 1 := by simp [nxV]

theorem foV_bits (s : BitVec 15) : ∀ k, k ≤ 15 → foV s (ofL s.toNat 15 |>.take k) = s <<< k := by
  intro k
  induction k with
  | zero => intro _; simp [foV]
  | succ k ih =>
    intro hk
    rw [take_snoc (x := s.toNat.testBit (14 - k)) (by rw [ofL_get _ _ _ (by omega)]), foV_append, ih (by omega)]
    have hm : s.toNat.testBit (14 - k) = (s <<< k).msb := by
      rw [BitVec.msb_eq_getLsbD_last, BitVec.getLsbD_shiftLeft, BitVec.testBit_toNat]
      simp [show ¬ (14 < k) by omega]
    rw [hm]
    show nxV (s <<< k) (s <<< k).msb = _
    rw [nxV_own, ← BitVec.shiftLeft_add]

theorem foV_own (s : BitVec 15) : foV s (biV s) = 0#15 := by
  have := foV_bits s 15 (Nat.le_refl _)
  rw [List.take_of_length_le (by simp)] at this
  unfold biV
  rw [this]
  ext i hi
  simp

theorem suV_whole (l : List Bool) : suV (l ++ biV (suV l)) = 0#15 := by rw [suV_append, foV_own]

/-- Dominant bits ahead say nothing. -/
theorem suV_zeros (k : Nat) : suV (List.replicate k false) = 0#15 := by
  induction k with
  | zero => rfl
  | succ k ih => rw [List.replicate_succ', suV_snoc, ih]; rfl

theorem suV_ahead (k : Nat) (l : List Bool) : suV (List.replicate k false ++ l) = suV l := by rw [suV_append, suV_zeros]; rfl

/-- Whatever is not 0 is not 0 behind one more dominant bit: the lowest bit of the polynomial is set. -/
theorem nxV_zero {s : BitVec 15} (h : nxV s false = 0#15) : s = 0#15 := by
  have h0 : (nxV s false).getLsbD 0 = false := by rw [h]; rfl
  have hm : s.msb = false := by
    unfold nxV at h0
    cases hs : s.msb
    · rfl
    · rw [hs] at h0
      simp at h0
  have h1 : s <<< 1 = 0#15 := by
    unfold nxV at h
    rw [hm] at h
    simpa using h
  ext i hi
  by_cases h14 : i = 14
  · subst h14
    rw [BitVec.msb_eq_getLsbD_last] at hm
    simpa using hm
  · have h2 : (s <<< 1).getLsbD (i + 1) = false := by rw [h1]; simp
    rw [BitVec.getLsbD_shiftLeft] at h2
    simp [show i + 1 < 15 by omega] at h2
    rw [← BitVec.getLsbD_eq_getElem, h2]; simp

theorem foV_zeros_ne {s : BitVec 15} (h : s ≠ 0#15) (k : Nat) : foV s (List.replicate k false) ≠ 0#15 := by
  induction k with
  | zero => exact h
  | succ k ih =>
    rw [List.replicate_succ', foV_append]
    exact fun e => ih (nxV_zero e)

/-- Bits within 15 beside one another, not all of them dominant, have a sum that is not 0. -/
theorem suV_burst {b : List Bool} (hb : b.length ≤ 15) (ht : true ∈ b) : suV b ≠ 0#15 := by
  obtain ⟨c, hc⟩ : ∃ c, c = List.replicate (15 - b.length) false ++ b := ⟨_, rfl⟩
  have hl : c.length = 15 := by rw [hc]; simp; omega
  have hs : suV b = suV c := by rw [hc, suV_ahead]
  obtain ⟨B, hB⟩ : ∃ B : BitVec 15, B = BitVec.ofNat 15 (numL c) := ⟨_, rfl⟩
  have hlt := numL_lt c
  rw [hl] at hlt
  have hBn : B.toNat = numL c := by rw [hB, BitVec.toNat_ofNat, Nat.mod_eq_of_lt hlt]
  have hbi : biV B = c := by unfold biV; rw [hBn, ← hl, ofL_numL]
  have hx := foV_xor (List.replicate 15 false) (biV B) B 0#15 (by simp [biV])
  have hz : xoL (List.replicate 15 false) (biV B) = biV B := by
    apply List.ext_getElem?
    intro i
    unfold xoL
    rw [List.getElem?_zipWith]
    by_cases hi : i < 15
    · rw [List.getElem?_replicate, if_pos hi]
      cases hq : (biV B)[i]? <;> simp
    · rw [List.getElem?_replicate, if_neg hi, List.getElem?_eq_none (by simp [biV]; omega)]
  rw [hz, BitVec.xor_zero, foV_own, hbi] at hx
  have hne : B ≠ 0#15 := by
    intro e
    have h0 : numL c = 0 := by rw [← hBn, e]; rfl
    have hall : c = List.replicate 15 false := by
      have := ofL_numL c
      rw [h0, hl] at this
      rw [← this]; decide
    have hm : true ∈ c := by rw [hc]; exact List.mem_append.2 (.inr ht)
    rw [hall] at hm
    simp at hm
  have h2 := foV_zeros_ne hne 15
  intro e
  rw [hs] at e
  have e2 : foV 0#15 c = 0#15 := e
  rw [e2, BitVec.xor_zero] at hx
  exact h2 hx.symm

/-- How many are true, as a bit. -/
def paL (l : List Bool) : Bool := l.foldl (fun p b => p != b) false
def paV (s : BitVec 15) : Bool := paL (biV s)

theorem paL_foldl (l : List Bool) : ∀ p, l.foldl (fun p b => p != b) p = (p != paL l) := by
  induction l with
  | nil => intro p; cases p <;> rfl
  | cons b l ih =>
    intro p
    show l.foldl _ (p != b) = (p != l.foldl _ (false != b))
    rw [ih, ih]
    cases p <;> cases b <;> cases paL l <;> rfl

theorem paL_append (l m : List Bool) : paL (l ++ m) = (paL l != paL m) := by
  show (l ++ m).foldl _ _ = _
  rw [List.foldl_append, paL_foldl]; rfl

theorem paL_cons (b : Bool) (m : List Bool) : paL (b :: m) = (b != paL m) := by
  have := paL_append [b] m
  simpa [paL] using this

theorem paL_xor : ∀ (l m : List Bool), l.length = m.length → paL (xoL l m) = (paL l != paL m) := by
  intro l
  induction l with
  | nil => intro m h; cases m with
    | nil => rfl
    | cons y m => simp at h
  | cons x l ih =>
    intro m h
    cases m with
    | nil => simp at h
    | cons y m =>
      show paL ((x != y) :: xoL l m) = _
      rw [paL_cons, paL_cons, paL_cons, ih m (by simpa using h)]
      cases x <;> cases y <;> cases paL l <;> cases paL m <;> rfl

theorem biV_xor (a c : BitVec 15) : biV (a ^^^ c) = xoL (biV a) (biV c) := by
  apply List.ext_getElem?
  intro i
  unfold biV xoL
  rw [List.getElem?_zipWith]
  by_cases hi : i < 15
  · rw [ofL_get _ _ _ hi, ofL_get _ _ _ hi, ofL_get _ _ _ hi]
    simp
  · rw [List.getElem?_eq_none (by simp; omega), List.getElem?_eq_none (by simp; omega)]

theorem paV_xor (a c : BitVec 15) : paV (a ^^^ c) = (paV a != paV c) := by
  unfold paV
  rw [biV_xor, paL_xor _ _ (by simp [biV])]

theorem biV_shift (s : BitVec 15) : s.msb :: biV (s <<< 1) = biV s ++ [false] := by
  apply List.ext_getElem?
  intro i
  unfold biV
  cases i with
  | zero =>
    rw [List.getElem?_append_left (by simp), ofL_get _ _ _ (by omega), List.getElem?_cons_zero, BitVec.msb_eq_getLsbD_last, BitVec.testBit_toNat]
  | succ i =>
    rw [List.getElem?_cons_succ]
    by_cases hi : i + 1 < 15
    · rw [List.getElem?_append_left (by simp; omega), ofL_get _ _ _ (by omega), ofL_get _ _ _ (by omega), BitVec.testBit_toNat, BitVec.testBit_toNat, BitVec.getLsbD_shiftLeft]
      simp [show ¬ (15 - 1 - i < 1) by omega, show 15 - 1 - i < 15 by omega]
      congr 1
      omega
    · by_cases h14 : i = 14
      · subst h14
        rw [ofL_get _ _ _ (by omega), List.getElem?_append_right (by simp), BitVec.testBit_toNat]
        simp
      · rw [List.getElem?_eq_none (by simp; omega), List.getElem?_eq_none (by simp; omega)]

theorem paV_nx (s : BitVec 15) (b : Bool) : paV (nxV s b) = (paV s != b) := by
  have h := congrArg paL (biV_shift s)
  rw [paL_cons, paL_append] at h
  have h2 : paV (s <<< 1) = (paV s != s.msb) := by
    have : paL [false] = false := rfl
    rw [this] at h
    unfold paV
    revert h
    cases s.msb <;> cases paL (biV (s <<< 1)) <;> cases paL (biV s) <;> simp
  unfold nxV
  rw [paV_xor, h2]
  have e1 : paV 0x4599#15 = true := by decide
  have e0 : paV 0#15 = false := by decide
  cases s.msb <;> cases b <;> simp [e1, e0]

theorem paV_fo (l : List Bool) : ∀ s, paV (foV s l) = (paV s != paL l) := by
  induction l with
  | nil => intro s; simp [foV, paL]
  | cons b l ih =>
    intro s
    rw [foV_cons, ih, paV_nx, paL_cons]
    cases paV s <;> cases b <;> cases paL l <;> rfl

theorem paV_su (l : List Bool) : paV (suV l) = paL l := by
  unfold suV
  rw [paV_fo]
  have e0 : paV 0#15 = false := by decide
  rw [e0]; simp

/-- Lists that differ in an odd number of places have sums that differ. -/
theorem suV_odd {l m : List Bool} (h : l.length = m.length) (ho : paL (xoL l m) = true) : suV l ≠ suV m := by
  intro e
  rw [paL_xor _ _ h, ← paV_su, ← paV_su, e] at ho
  simp at ho

/-- Lists that differ, and only within 15 bits beside one another, have sums that differ. -/
theorem suV_near {l m : List Bool} (h : l.length = m.length) {p q : Nat} {b : List Bool} (hb : b.length ≤ 15) (ht : true ∈ b) (hx : xoL l m = List.replicate p false ++ (b ++ List.replicate q false)) : suV l ≠ suV m := by
  intro e
  have h1 := suV_xor l m h
  rw [e, BitVec.xor_self, hx, suV_ahead, suV_append] at h1
  exact foV_zeros_ne (suV_burst hb ht) q h1
end Go.Proofs.YtgpmhmdofefdcaaGreat

namespace Go.Proofs.YtgpmhmdofefdcaaGreat
open Go.RowKit
set_option linter.unusedVariables false

theorem and14 (x : Nat) : x &&& 16384 = if x.testBit 14 then 16384 else 0 := by
  apply Nat.eq_of_testBit_eq
  intro i
  rw [Nat.testBit_and, show (16384 : Nat) = 2 ^ 14 from rfl, Nat.testBit_two_pow]
  by_cases h : 14 = i
  · subst h
    cases x.testBit 14
    · rfl
    · decide
  · rw [decide_eq_false h, Bool.and_false]
    cases x.testBit 14
    · simp
    · rw [if_pos rfl, Nat.testBit_two_pow, decide_eq_false h]

theorem nxV_toNat (x : Nat) (b : Bool) : (nxV (BitVec.ofNat 15 x) b).toNat = (x * 2 % 32768) ^^^ (if x.testBit 14 != b then 17817 else 0) := by
  have hm : (BitVec.ofNat 15 x).msb = x.testBit 14 := by
    rw [BitVec.msb_eq_getLsbD_last, BitVec.getLsbD_ofNat]; simp
  unfold nxV
  rw [hm, BitVec.toNat_xor, BitVec.toNat_shiftLeft, BitVec.toNat_ofNat, Nat.shiftLeft_eq]
  congr 1
  · show (x % 32768 * 2 ^ 1) % 32768 = _
    omega
  · cases x.testBit 14 != b <;> rfl

theorem crcNext_any (w : World) (x : Nat) (b : Bool) (hx : x < 65536) :
    Calls Tryz.prog 67 #[.int .u16 (x : Int), .bool b] w fun e w' => e = .returned (.int .u16 ((nxV (BitVec.ofNat 15 x) b).toNat : Int)) ∧ w = w' := by
  have hs := nxV_toNat x b
  have e1 : bits .and .u16 (x : Int) 16384 = ((if x.testBit 14 then 16384 else 0 : Nat) : Int) := by
    rw [show ((16384 : Int)) = ((16384 : Nat) : Int) from rfl, u16_and_nat x 16384 hx (by omega), and14]
  obtain ⟨y, hy⟩ : ∃ y, y = x * 2 % 32768 := ⟨_, rfl⟩
  have hy1 : y < 32768 := by omega
  have e2 : bits .and .u16 (IntKind.u16.wrap ((x : Int) * 2)) 32767 = (y : Int) := by
    rw [show IntKind.u16.wrap ((x : Int) * 2) = ((x * 2 % 65536 : Nat) : Int) from by rw [IntKind.wrap_u16]; omega, show ((32767 : Int)) = ((32767 : Nat) : Int) from rfl, u16_and_nat _ 32767 (by omega) (by omega), show (32767 : Nat) = 2 ^ 15 - 1 from rfl, Nat.and_two_pow_sub_one_eq_mod, hy]
    congr 1
    omega
  have e3 : bits .xor .u16 (y : Int) 17817 = ((y ^^^ 17817 : Nat) : Int) := by
    rw [show ((17817 : Int)) = ((17817 : Nat) : Int) from rfl, u16_xor_nat y 17817 (by omega) (by omega)]
  rw [← hy] at hs
  obtain ⟨t, ht⟩ : ∃ t, t = x.testBit 14 := ⟨_, rfl⟩
  rw [← ht] at hs e1
  have HS := hid hs
  clear hs hy ht
  cases t <;> cases b
  all_goals
    simp at e1
    go_enter Tryz.func67, Tryz.ntmps67
    go_wp2
    go_ret
    exact ⟨ret_int (by rw [HS.out]; simp), rfl⟩
end Go.Proofs.YtgpmhmdofefdcaaGreat
