/-
  Contract of fields: the frame of a head that is read by a method value.
  Contract of fields at an extended head.
  Contracts of Head (the program's).
  Contracts of the document's Read and Head.
-/
import Derived.Test.YtgpmhmdofefdcaaGreatB4j
import Derived.Deep.RegionLaw
import Derived.Deep.CutRange
import Derived.Deep.DeepCutAuto
import Derived.StillTailTactics
namespace Go.Proofs.YtgpmhmdofefdcaaGreat
open Go.RowKit Go.Sort
set_option linter.unusedVariables false

def zeroF : Array Value := #[.int .u32 0, .bool false, .bool false, .int .u8 0, .slice none 0 0]

/-- The state of fields: the row that is read, what was there, the box of the result. -/
structure Fs (w0 w wc : World) (g : Nat) (l : List Bool) : Prop where
  row : Rw w0 wc g l
  bel : Below w0.heap.size w0 wc
  gr : w.grownBy wc (some g)
  b2 : wc.heap[w.heap.size]? = some (.cells #[.int .u32 0, .bool false, .bool false, .int .u8 0, .slice none 0 0] 26 (0, 0))

theorem grow_trans {w w1 w2 : World} {o : Option Nat} (h : w.grownBy w1 o) (h2 : w1.grownBy w2 o) : w.grownBy w2 o :=
  ⟨h2.os.trans h.os, h2.tape.trans h.tape, h2.output.trans h.output, Nat.le_trans h.size h2.size, fun q h1 hn => (h2.block q (Nat.lt_of_lt_of_le h1 h.size) hn).trans (h.block q h1 hn)⟩

theorem grow_box {w w' : World} {g q : Nat} {o : Obj} (h : w.grownBy w' (some g)) (hb : w.heap[q]? = some o) (hq : q ≠ g) : w'.heap[q]? = some o := by
  rw [h.block q (bx_lt hb) (by simpa using hq)]; exact hb

section
variable {w0 w wc w' : World} {g q : Nat} {l l' : List Bool}
theorem Fs.take (h : Fs w0 w wc g l) (hg : w0.heap.size ≤ g) (hgw : g < w.heap.size) (hr : Rw w0 w' g l') (hgr : wc.grownBy w' (some g)) : Fs w0 w w' g l' :=
  ⟨hr, h.bel.grown hgr h.bel.size (fun k hk => by simp at hk; omega), grow_trans h.gr hgr, grow_box hgr h.b2 (by omega)⟩
theorem Fs.size (h : Fs w0 w wc g l) : w.heap.size < wc.heap.size := bx_lt h.b2
theorem Fs.alloc (h : Fs w0 w wc g l) (hgw : g < w.heap.size) (o : Obj) : Fs w0 w (wc.alloc o) g l :=
  ⟨h.row.grown (Below.heap_alloc _ _ _ (by have := h.size; omega)), h.bel.alloc h.bel.size o, grow_trans h.gr ⟨rfl, rfl, rfl, by simp, fun k hk _ => Below.heap_alloc _ _ _ hk⟩, bx_alloc _ h.b2⟩
theorem Fs.set (h : Fs w0 w wc g l) (hgw : g < w.heap.size) (hg : w0.heap.size ≤ g) (hq : w.heap.size < q) (i : Nat) (v : Value) : Fs w0 w (wc.setCell ⟨q, i, none⟩ v) g l :=
  ⟨h.row.grown (heap_setCell_other _ _ _ _ (by simp; omega)), h.bel.setCell (by simp; omega) _,
   ⟨h.gr.os, h.gr.tape, h.gr.output, by simpa using h.gr.size, fun k hk hn => (heap_setCell_other _ _ _ _ (by simp; omega)).trans (h.gr.block k hk hn)⟩, by rw [heap_setCell_other _ _ _ _ (by simp; omega)]; exact h.b2⟩
end

/-- take at a state of fields. -/
theorem Fs.call {w0 w wc : World} {g : Nat} {l : List Bool} (h : Fs w0 w wc g l) (hg : w0.heap.size ≤ g) (hgw : g < w.heap.size) (k : Int) (m v : Nat) (l' : List Bool) (hk : k = (m : Int)) (hm : m ≤ l.length) (hv : v = numL (l.take m) % 4294967296) (hl : l' = l.drop m) (hm1 : m ≤ 1000 := by omega) :
    Calls Tryz.prog 108 #[.pointer (some ⟨g, 0, none⟩), .int .i64 k] wc fun e w' => e = .returned (.int .u32 (v : Int)) ∧ Fs w0 w w' g l' ∧ wc.grownBy w' (some g) := by
  subst hk hv hl
  exact (rtake_any w0 wc g l m hg h.bel h.row hm hm1).mono fun e w' ⟨he, h2, h3⟩ => ⟨he, h.take hg hgw h2 h3, h3⟩

theorem num1 {l : List Bool} {x : Bool} (h : l[0]? = some x) : numL (l.take 1) % 4294967296 = x.toNat := by
  cases l with
  | nil => cases h
  | cons y l => simp at h; subst h; cases y <;> rfl

theorem rg_set {w0 w wc : World} {g : Nat} {l : List Bool} (h : Rw w0 wc g l ∧ w.grownBy wc (some g)) (hgw : g < w.heap.size) (i : Nat) (v : Value) : Rw w0 (wc.setCell ⟨w.heap.size, i, none⟩ v) g l ∧ w.grownBy (wc.setCell ⟨w.heap.size, i, none⟩ v) (some g) :=
  ⟨h.1.grown (heap_setCell_other _ _ _ _ (by simp; omega)), h.2.os, h.2.tape, h.2.output, by simpa using h.2.size, fun k hk hn => (heap_setCell_other _ _ _ _ (by simp; omega)).trans (h.2.block k hk hn)⟩

theorem Fs.fin {w0 w wc : World} {g : Nat} {l : List Bool} (h : Fs w0 w wc g l) (hgw : g < w.heap.size) (v0 v1 v2 v3 v4 : Value) :
    Rw w0 (((((wc.setCell ⟨w.heap.size, 0, none⟩ v0).setCell ⟨w.heap.size, 1, none⟩ v1).setCell ⟨w.heap.size, 2, none⟩ v2).setCell ⟨w.heap.size, 3, none⟩ v3).setCell ⟨w.heap.size, 4, none⟩ v4) g l ∧
    w.grownBy (((((wc.setCell ⟨w.heap.size, 0, none⟩ v0).setCell ⟨w.heap.size, 1, none⟩ v1).setCell ⟨w.heap.size, 2, none⟩ v2).setCell ⟨w.heap.size, 3, none⟩ v3).setCell ⟨w.heap.size, 4, none⟩ v4) (some g) := by
  exact rg_set (rg_set (rg_set (rg_set (rg_set ⟨h.row, h.gr⟩ hgw 0 v0) hgw 1 v1) hgw 2 v2) hgw 3 v3) hgw 4 v4

/-- The same, beside the box of the frame that is filled. -/
structure Fq (w0 w wc : World) (g : Nat) (l : List Bool) (q : Nat) (vs : Array Value) : Prop where
  fs : Fs w0 w wc g l
  b3 : wc.heap[q]? = some (.cells vs 26 (0, 0))
  hq : w.heap.size < q

theorem Fq.new {w0 w wc : World} {g : Nat} {l : List Bool} (h : Fs w0 w wc g l) (hgw : g < w.heap.size) (vs : Array Value) : Fq w0 w (wc.alloc (.cells vs 26)) g l wc.heap.size vs := ⟨h.alloc hgw _, heap_alloc_new wc _, h.size⟩
theorem Fq.set {w0 w wc : World} {g q : Nat} {l : List Bool} {vs : Array Value} (h : Fq w0 w wc g l q vs) (hgw : g < w.heap.size) (hg : w0.heap.size ≤ g) (i : Nat) (v : Value) : Fq w0 w (wc.setCell ⟨q, i, none⟩ v) g l q (vs.setIfInBounds i v) :=
  ⟨h.fs.set hgw hg h.hq i v, heap_setCell_same wc q i _ _ v h.b3, h.hq⟩
theorem Fq.call {w0 w wc : World} {g q : Nat} {l : List Bool} {vs : Array Value} (h : Fq w0 w wc g l q vs) (hg : w0.heap.size ≤ g) (hgw : g < w.heap.size) (k : Int) (m v : Nat) (l' : List Bool) (hk : k = (m : Int)) (hm : m ≤ l.length) (hv : v = numL (l.take m) % 4294967296) (hl : l' = l.drop m) (hm1 : m ≤ 1000 := by omega) :
    Calls Tryz.prog 108 #[.pointer (some ⟨g, 0, none⟩), .int .i64 k] wc fun e w' => e = .returned (.int .u32 (v : Int)) ∧ Fq w0 w w' g l' q vs := 
  (h.fs.call hg hgw k m v l' hk hm hv hl hm1).mono fun e w' ⟨he, h2, h3⟩ => ⟨he, h2, grow_box h3 h.b3 (by have := h.hq; omega), h.hq⟩

theorem Fq.set0 {w0 w wc : World} {g q : Nat} {l : List Bool} {v0 v1 v2 v3 v4 : Value} (h : Fq w0 w wc g l q #[v0, v1, v2, v3, v4]) (hgw : g < w.heap.size) (hg : w0.heap.size ≤ g) (v : Value) : Fq w0 w (wc.setCell ⟨q, 0, none⟩ v) g l q #[v, v1, v2, v3, v4] := by
  have := h.set hgw hg 0 v
  simpa using this
theorem Fq.set1 {w0 w wc : World} {g q : Nat} {l : List Bool} {v0 v1 v2 v3 v4 : Value} (h : Fq w0 w wc g l q #[v0, v1, v2, v3, v4]) (hgw : g < w.heap.size) (hg : w0.heap.size ≤ g) (v : Value) : Fq w0 w (wc.setCell ⟨q, 1, none⟩ v) g l q #[v0, v, v2, v3, v4] := by
  have := h.set hgw hg 1 v
  simpa using this
theorem Fq.set2 {w0 w wc : World} {g q : Nat} {l : List Bool} {v0 v1 v2 v3 v4 : Value} (h : Fq w0 w wc g l q #[v0, v1, v2, v3, v4]) (hgw : g < w.heap.size) (hg : w0.heap.size ≤ g) (v : Value) : Fq w0 w (wc.setCell ⟨q, 2, none⟩ v) g l q #[v0, v1, v, v3, v4] := by
  have := h.set hgw hg 2 v
  simpa using this
theorem Fq.set3 {w0 w wc : World} {g q : Nat} {l : List Bool} {v0 v1 v2 v3 v4 : Value} (h : Fq w0 w wc g l q #[v0, v1, v2, v3, v4]) (hgw : g < w.heap.size) (hg : w0.heap.size ≤ g) (v : Value) : Fq w0 w (wc.setCell ⟨q, 3, none⟩ v) g l q #[v0, v1, v2, v, v4] := by
  have := h.set hgw hg 3 v
  simpa using this

set_option maxHeartbeats 4000000 in
theorem fields_base (w0 w : World) (g : Nat) (l : List Bool) (hg : w0.heap.size ≤ g) (hgw : g < w.heap.size) (hb : Below w0.heap.size w0 w) (hr : Rw w0 w g l) (hm : 19 ≤ l.length) (h13 : l[13]? = some false) :
    Calls Tryz.prog 109 #[.func (.func 108) #[.pointer (some ⟨g, 0, none⟩)] #[]] w fun e w' => e = .returned (.agg #[.int .u32 (numL ((l.drop 1).take 11) : Int), .bool false, .bool (l[12]?.getD false), .int .u8 (numL ((l.drop 15).take 4) : Int), .slice none 0 0]) ∧ Rw w0 w' g (l.drop 19) ∧ w.grownBy w' (some g) := by
  have fs1 : Fs w0 w (w.alloc (.cells #[.int .u32 0, .bool false, .bool false, .int .u8 0, .slice none 0 0] 26)) g l :=
    ⟨hr.grown (Below.heap_alloc _ _ _ hgw), hb.alloc hb.size _, ⟨rfl, rfl, rfl, by simp, fun k hk _ => Below.heap_alloc _ _ _ hk⟩, heap_alloc_new w _⟩
  obtain ⟨id, hid'⟩ : ∃ id, id = numL ((l.drop 1).take 11) := ⟨_, rfl⟩
  obtain ⟨dl, hdl⟩ : ∃ dl, dl = numL ((l.drop 15).take 4) := ⟨_, rfl⟩
  obtain ⟨x0, hx0⟩ : ∃ x0, l[0]? = some x0 := ⟨l[0], by simp⟩
  obtain ⟨x12, hx12⟩ : ∃ x, l[12]? = some x := ⟨l[12], by simp⟩
  obtain ⟨x14, hx14⟩ : ∃ x, l[14]? = some x := ⟨l[14], by simp⟩
  have hid2 : id < 2048 := by rw [hid']; have := numL_lt ((l.drop 1).take 11); rw [List.length_take, List.length_drop] at this; exact Nat.lt_of_lt_of_le this (Nat.pow_le_pow_right (n := 2) (j := 11) (by decide) (by omega))
  have hdl2 : dl < 16 := by rw [hdl]; have := numL_lt ((l.drop 15).take 4); rw [List.length_take, List.length_drop] at this; exact Nat.lt_of_lt_of_le this (Nat.pow_le_pow_right (n := 2) (j := 4) (by decide) (by omega))
  obtain ⟨v0, hv0⟩ : ∃ v0, v0 = x0.toNat := ⟨_, rfl⟩
  obtain ⟨v12, hv12⟩ : ∃ v12, v12 = x12.toNat := ⟨_, rfl⟩
  obtain ⟨v14, hv14⟩ : ∃ v14, v14 = x14.toNat := ⟨_, rfl⟩
  have n1 : v0 = numL (l.take 1) % 4294967296 := hv0.trans (num1 hx0).symm
  have n2 : id = numL ((l.drop 1).take 11) % 4294967296 := by rw [hid'] at hid2 ⊢; omega
  have n3 : v12 = numL ((l.drop 12).take 1) % 4294967296 := hv12.trans (num1 (by rw [List.getElem?_drop]; exact hx12)).symm
  have n4 : 0 = numL ((l.drop 13).take 1) % 4294967296 := (num1 (x := false) (by rw [List.getElem?_drop]; exact h13)).symm
  have n5 : v14 = numL ((l.drop 14).take 1) % 4294967296 := hv14.trans (num1 (by rw [List.getElem?_drop]; exact hx14)).symm
  have n6 : dl = numL ((l.drop 15).take 4) % 4294967296 := by rw [hdl] at hdl2 ⊢; omega
  have k1 := fun wc (fs : Fs w0 w wc g l) => fs.call hg hgw 1 1 v0 (l.drop 1) rfl (by omega) n1 rfl
  have k2 := fun wc (fs : Fs w0 w wc g (l.drop 1)) => fs.call hg hgw 11 11 id (l.drop 12) rfl (by simp; omega) n2 (by rw [List.drop_drop])
  have k3 := fun wc q vs (fs : Fq w0 w wc g (l.drop 12) q vs) => fs.call hg hgw 1 1 v12 (l.drop 13) rfl (by simp; omega) n3 (by rw [List.drop_drop])
  have k4 := fun wc q vs (fs : Fq w0 w wc g (l.drop 13) q vs) => fs.call hg hgw 1 1 0 (l.drop 14) rfl (by simp; omega) n4 (by rw [List.drop_drop])
  have k5 := fun wc q vs (fs : Fq w0 w wc g (l.drop 14) q vs) => fs.call hg hgw 1 1 v14 (l.drop 15) rfl (by simp; omega) n5 (by rw [List.drop_drop])
  have k6 := fun wc q vs (fs : Fq w0 w wc g (l.drop 15) q vs) => fs.call hg hgw 4 4 dl (l.drop 19) rfl (by simp; omega) n6 (by rw [List.drop_drop])
  rw [← hid', ← hdl, hx12]
  have e12 : ((v12 : Int) == 1) = x12 := by rw [hv12]; cases x12 <;> rfl
  have w12 : v12 < 2 := by rw [hv12]; cases x12 <;> decide
  clear hv0 hv12 hv14 hid' hdl hx0 hx12 hx14 n1 n2 n3 n4 n5 n6 h13 hr hb
  simp only [Option.getD_some]
  go_enter Tryz.func109, Tryz.ntmps109
  go_wp2_with (first
    | (go_at_call 108; (with_reducible refine (k1 _ fs1).mono ?_); rintro e w2 ⟨rfl, fs2, -⟩)
    | (go_at_call 108; (with_reducible refine (k2 w2 fs2).mono ?_); rintro e w3 ⟨rfl, fs3, -⟩; have fq3 := Fq.new fs3 hgw #[.int .u32 (id : Int), .bool false, .bool false, .int .u8 0, .slice none 0 0]; clear fs1 fs2)
    | (go_at_call 108; (with_reducible refine (k3 _ _ _ fq3).mono ?_); rintro e w4 ⟨rfl, fq4⟩; have f4 := bx_thaw fq4.b3 2; have p4 := (bx5 fq4.b3).2.2.1; have fq4' := fq4.set2 hgw hg (.bool x12))
    | (go_at_call 108; (with_reducible refine (k4 _ _ _ fq4').mono ?_); rintro e w5 ⟨rfl, fq5⟩; have f5 := bx_thaw fq5.b3 1; have p5 := (bx5 fq5.b3).2.1; clear f4 p4; have fq5' := fq5.set1 hgw hg (.bool false))
    | (go_at_call 108; (with_reducible refine (k5 _ _ _ fq5').mono ?_); rintro e w6 ⟨rfl, fq6⟩)
    | (go_at_call 108; (with_reducible refine (k6 _ _ _ fq6).mono ?_); rintro e w7 ⟨rfl, fq7⟩; clear f5 p5; have f7 := bx_thaw fq7.b3 3; obtain ⟨c0, c1, c2, c3, c4⟩ := bx5 fq7.b3; have f8 := bx_thaw fq7.fs.b2; obtain ⟨d0, d1, d2, d3, d4⟩ := bx5 fq7.fs.b2; have hq7 := fq7.hq))
  have fin := (fq7.set3 hgw hg (.int .u8 (dl : Int))).fs.fin hgw (.int .u32 (id : Int)) (.bool false) (.bool x12) (.int .u8 (dl : Int)) (.slice none 0 0)
  exact bodyPost_ret (v := .agg #[.int .u32 (id : Int), .bool false, .bool x12, .int .u8 (dl : Int), .slice none 0 0]) (by simp [results, Tryz.results109, go_sem, d0, d1, d2, d3, d4]) rfl ⟨rfl, fin.1, fin.2⟩
end Go.Proofs.YtgpmhmdofefdcaaGreat

namespace Go.Proofs.YtgpmhmdofefdcaaGreat
open Go.RowKit Go.Sort
set_option linter.unusedVariables false

set_option maxHeartbeats 4000000 in
theorem fields_ext (w0 w : World) (g : Nat) (l : List Bool) (hg : w0.heap.size ≤ g) (hgw : g < w.heap.size) (hb : Below w0.heap.size w0 w) (hr : Rw w0 w g l) (hm : 39 ≤ l.length) (h13 : l[13]? = some true) :
    Calls Tryz.prog 109 #[.func (.func 108) #[.pointer (some ⟨g, 0, none⟩)] #[]] w fun e w' => e = .returned (.agg #[.int .u32 (numL ((l.drop 1).take 11) * 262144 + numL ((l.drop 14).take 18) : Nat), .bool true, .bool (l[32]?.getD false), .int .u8 (numL ((l.drop 35).take 4) : Int), .slice none 0 0]) ∧ Rw w0 w' g (l.drop 39) ∧ w.grownBy w' (some g) := by
  have fs1 : Fs w0 w (w.alloc (.cells #[.int .u32 0, .bool false, .bool false, .int .u8 0, .slice none 0 0] 26)) g l :=
    ⟨hr.grown (Below.heap_alloc _ _ _ hgw), hb.alloc hb.size _, ⟨rfl, rfl, rfl, by simp, fun k hk _ => Below.heap_alloc _ _ _ hk⟩, heap_alloc_new w _⟩
  obtain ⟨up, hup⟩ : ∃ up, up = numL ((l.drop 1).take 11) := ⟨_, rfl⟩
  obtain ⟨lo, hlo⟩ : ∃ lo, lo = numL ((l.drop 14).take 18) := ⟨_, rfl⟩
  obtain ⟨dl, hdl⟩ : ∃ dl, dl = numL ((l.drop 35).take 4) := ⟨_, rfl⟩
  obtain ⟨x0, hx0⟩ : ∃ x0, l[0]? = some x0 := ⟨l[0], by simp⟩
  obtain ⟨x12, hx12⟩ : ∃ x, l[12]? = some x := ⟨l[12], by simp⟩
  obtain ⟨x32, hx32⟩ : ∃ x, l[32]? = some x := ⟨l[32], by simp⟩
  obtain ⟨x33, hx33⟩ : ∃ x, l[33]? = some x := ⟨l[33], by simp⟩
  obtain ⟨x34, hx34⟩ : ∃ x, l[34]? = some x := ⟨l[34], by simp⟩
  have hup2 : up < 2048 := by rw [hup]; have := numL_lt ((l.drop 1).take 11); rw [List.length_take, List.length_drop] at this; exact Nat.lt_of_lt_of_le this (Nat.pow_le_pow_right (n := 2) (j := 11) (by decide) (by omega))
  have hlo2 : lo < 262144 := by rw [hlo]; have := numL_lt ((l.drop 14).take 18); rw [List.length_take, List.length_drop] at this; exact Nat.lt_of_lt_of_le this (Nat.pow_le_pow_right (n := 2) (j := 18) (by decide) (by omega))
  have hdl2 : dl < 16 := by rw [hdl]; have := numL_lt ((l.drop 35).take 4); rw [List.length_take, List.length_drop] at this; exact Nat.lt_of_lt_of_le this (Nat.pow_le_pow_right (n := 2) (j := 4) (by decide) (by omega))
  obtain ⟨v0, hv0⟩ : ∃ v0, v0 = x0.toNat := ⟨_, rfl⟩
  obtain ⟨v12, hv12⟩ : ∃ v12, v12 = x12.toNat := ⟨_, rfl⟩
  obtain ⟨v32, hv32⟩ : ∃ v32, v32 = x32.toNat := ⟨_, rfl⟩
  obtain ⟨v33, hv33⟩ : ∃ v33, v33 = x33.toNat := ⟨_, rfl⟩
  obtain ⟨v34, hv34⟩ : ∃ v34, v34 = x34.toNat := ⟨_, rfl⟩
  have n1 : v0 = numL (l.take 1) % 4294967296 := hv0.trans (num1 hx0).symm
  have n2 : up = numL ((l.drop 1).take 11) % 4294967296 := by rw [hup] at hup2 ⊢; omega
  have n3 : v12 = numL ((l.drop 12).take 1) % 4294967296 := hv12.trans (num1 (by rw [List.getElem?_drop]; exact hx12)).symm
  have n4 : 1 = numL ((l.drop 13).take 1) % 4294967296 := (num1 (x := true) (by rw [List.getElem?_drop]; exact h13)).symm
  have n5 : lo = numL ((l.drop 14).take 18) % 4294967296 := by rw [hlo] at hlo2 ⊢; omega
  have n6 : v32 = numL ((l.drop 32).take 1) % 4294967296 := hv32.trans (num1 (by rw [List.getElem?_drop]; exact hx32)).symm
  have n7 : v33 = numL ((l.drop 33).take 1) % 4294967296 := hv33.trans (num1 (by rw [List.getElem?_drop]; exact hx33)).symm
  have n8 : v34 = numL ((l.drop 34).take 1) % 4294967296 := hv34.trans (num1 (by rw [List.getElem?_drop]; exact hx34)).symm
  have n9 : dl = numL ((l.drop 35).take 4) % 4294967296 := by rw [hdl] at hdl2 ⊢; omega
  have k1 := fun wc (fs : Fs w0 w wc g l) => fs.call hg hgw 1 1 v0 (l.drop 1) rfl (by omega) n1 rfl
  have k2 := fun wc (fs : Fs w0 w wc g (l.drop 1)) => fs.call hg hgw 11 11 up (l.drop 12) rfl (by simp; omega) n2 (by rw [List.drop_drop])
  have k3 := fun wc q vs (fs : Fq w0 w wc g (l.drop 12) q vs) => fs.call hg hgw 1 1 v12 (l.drop 13) rfl (by simp; omega) n3 (by rw [List.drop_drop])
  have k4 := fun wc q vs (fs : Fq w0 w wc g (l.drop 13) q vs) => fs.call hg hgw 1 1 1 (l.drop 14) rfl (by simp; omega) n4 (by rw [List.drop_drop])
  have k5 := fun wc q vs (fs : Fq w0 w wc g (l.drop 14) q vs) => fs.call hg hgw 18 18 lo (l.drop 32) rfl (by simp; omega) n5 (by rw [List.drop_drop])
  have k6 := fun wc q vs (fs : Fq w0 w wc g (l.drop 32) q vs) => fs.call hg hgw 1 1 v32 (l.drop 33) rfl (by simp; omega) n6 (by rw [List.drop_drop])
  have k7 := fun wc q vs (fs : Fq w0 w wc g (l.drop 33) q vs) => fs.call hg hgw 1 1 v33 (l.drop 34) rfl (by simp; omega) n7 (by rw [List.drop_drop])
  have k8 := fun wc q vs (fs : Fq w0 w wc g (l.drop 34) q vs) => fs.call hg hgw 1 1 v34 (l.drop 35) rfl (by simp; omega) n8 (by rw [List.drop_drop])
  have k9 := fun wc q vs (fs : Fq w0 w wc g (l.drop 35) q vs) => fs.call hg hgw 4 4 dl (l.drop 39) rfl (by simp; omega) n9 (by rw [List.drop_drop])
  rw [← hup, ← hlo, ← hdl, hx32]
  have e12 : ((v12 : Int) == 1) = x12 := by rw [hv12]; cases x12 <;> rfl
  have e32 : ((v32 : Int) == 1) = x32 := by rw [hv32]; cases x32 <;> rfl
  have w12 : v12 < 2 := by rw [hv12]; cases x12 <;> decide
  have w32 : v32 < 2 := by rw [hv32]; cases x32 <;> decide
  clear hv0 hv12 hv32 hv33 hv34 hup hlo hdl hx0 hx12 hx32 hx33 hx34 n1 n2 n3 n4 n5 n6 n7 n8 n9 h13 hr hb
  simp only [Option.getD_some]
  obtain ⟨id, hid0⟩ : ∃ id, id = up * 262144 + lo := ⟨_, rfl⟩
  rw [← hid0]
  have hor : bits .or .u32 ((up * 262144 : Nat) : Int) (lo : Int) = (id : Int) := by
    rw [(u32_bits (up * 262144) lo (by omega) (by omega)).2, hid0]
    rw [show up * 262144 = 2 ^ 18 * up from by omega, ← Nat.two_pow_add_eq_or_of_lt hlo2]
  have hid2 : id < 4294967296 := by omega
  obtain ⟨us, hus⟩ : ∃ us, us = up * 262144 := ⟨_, rfl⟩
  have hsh : Op.shift .shl .u32 (up : Int) .u64 18 = pure (.int .u32 (us : Int)) := by
    have h1 := shift_shl_u32 (x := (up : Int)) (y := 18) (yk := .u64) (by omega) (by omega)
    rw [h1, hus]
    have h2 : (up : Int) * 2 ^ (18 : Int).toNat = ((up * 262144 : Nat) : Int) := by norm_cast
    rw [h2, IntWalk.u32_in ((up * 262144 : Nat) : Int) (by omega)]
  rw [← hus] at hor
  clear hid0 hus
  go_enter Tryz.func109, Tryz.ntmps109
  go_wp2_with (first
    | (go_at_call 108; (with_reducible refine (k1 _ fs1).mono ?_); rintro e w2 ⟨rfl, fs2, -⟩)
    | (go_at_call 108; (with_reducible refine (k2 w2 fs2).mono ?_); rintro e w3 ⟨rfl, fs3, -⟩; have fq3 := Fq.new fs3 hgw #[.int .u32 (up : Int), .bool false, .bool false, .int .u8 0, .slice none 0 0]; clear fs1 fs2)
    | (go_at_call 108; (with_reducible refine (k3 _ _ _ fq3).mono ?_); rintro e w4 ⟨rfl, fq4⟩; have f4 := bx_thaw fq4.b3 2; have p4 := (bx5 fq4.b3).2.2.1; have fq4' := fq4.set2 hgw hg (.bool x12))
    | (go_at_call 108; (with_reducible refine (k4 _ _ _ fq4').mono ?_); rintro e w5 ⟨rfl, fq5⟩; have f5 := bx_thaw fq5.b3 1; have p5 := (bx5 fq5.b3).2.1; clear f4 p4; have fq5' := fq5.set1 hgw hg (.bool true)))
  have hb5 : Below w0.heap.size w0 (w5.setCell ⟨w3.heap.size, 1, none⟩ (.bool true)).drew := fq5'.fs.bel.drew
  have fq5d : Fq w0 w (w5.setCell ⟨w3.heap.size, 1, none⟩ (.bool true)).drew g (l.drop 14) w3.heap.size #[.int .u32 (up : Int), .bool true, .bool x12, .int .u8 0, .slice none 0 0] := ⟨⟨fq5'.fs.row, fq5'.fs.bel.drew, grow_trans fq5'.fs.gr ⟨rfl, rfl, rfl, Nat.le_refl _, fun _ _ _ => rfl⟩, fq5'.fs.b2⟩, fq5'.b3, fq5'.hq⟩
  obtain ⟨c0, c1, c2, c3, c4⟩ := bx5 fq5'.b3
  clear p5 f5
  go_cut [19] (fun s19 wx => ∃ w6, Fq w0 w w6 g (l.drop 32) w3.heap.size #[.int .u32 (up : Int), .bool true, .bool x12, .int .u8 0, .slice none 0 0] ∧ wx = w6.setCell ⟨w3.heap.size, 0, none⟩ (.int .u32 (id : Int)))
  case first =>
    have k5' := k5 _ _ _ fq5d
    clear k1 k2 k3 k4 k5 k6 k7 k8 k9 fq3 fq4 fq4' fq5
    go_region_law
      (first
        | (go_simp; go_at_call 108; (with_reducible refine Calls.mono k5' ?_); rintro e w6 ⟨rfl, fq6⟩; have p6 := (bx5 fq6.b3).1; have f6 := bx_thaw fq6.b3 0))
    all_goals
      go_wp2_with fail
      go_meet
      exact ⟨w6, fq6, rfl⟩
  case rest =>
    obtain ⟨w6, fq6, rfl⟩ := hcut
    have fq6' := fq6.set0 hgw hg (.int .u32 (id : Int))
    clear fq3 fq4 fq4' fq5 fq5' fq5d c0 c1 c2 c3 c4 k1 k2 k3 k4 k5
    go_wp2_with (first
      | (go_at_call 108; (with_reducible refine (k6 _ _ _ fq6').mono ?_); rintro e w7 ⟨rfl, fq7⟩; have f7 := bx_thaw fq7.b3 2; have p7 := (bx5 fq7.b3).2.2.1; have fq7' := fq7.set2 hgw hg (.bool x32))
      | (go_at_call 108; (with_reducible refine (k7 _ _ _ fq7').mono ?_); rintro e w8 ⟨rfl, fq8⟩)
      | (go_at_call 108; (with_reducible refine (k8 _ _ _ fq8).mono ?_); rintro e w9 ⟨rfl, fq9⟩)
      | (go_at_call 108; (with_reducible refine (k9 _ _ _ fq9).mono ?_); rintro e w10 ⟨rfl, fq10⟩; clear f7 p7; have f7 := bx_thaw fq10.b3 3; obtain ⟨c0, c1, c2, c3, c4⟩ := bx5 fq10.b3; have f8 := bx_thaw fq10.fs.b2; obtain ⟨d0, d1, d2, d3, d4⟩ := bx5 fq10.fs.b2; have hq10 := fq10.hq))
    have fin := (fq10.set3 hgw hg (.int .u8 (dl : Int))).fs.fin hgw (.int .u32 (id : Int)) (.bool true) (.bool x32) (.int .u8 (dl : Int)) (.slice none 0 0)
    exact bodyPost_ret (v := .agg #[.int .u32 (id : Int), .bool true, .bool x32, .int .u8 (dl : Int), .slice none 0 0]) (by simp [results, Tryz.results109, go_sem, d0, d1, d2, d3, d4]) rfl ⟨rfl, fin.1, fin.2⟩
end Go.Proofs.YtgpmhmdofefdcaaGreat

namespace Go.Proofs.YtgpmhmdofefdcaaGreat
open Go.RowKit Go.Sort
set_option linter.unusedVariables false

/-- The frame, without data, of a head. -/
def reF (l : List Bool) : Fr :=
  if l[13]?.getD false then ⟨numL ((l.drop 1).take 11) * 262144 + numL ((l.drop 14).take 18), true, l[32]?.getD false, numL ((l.drop 35).take 4), []⟩
  else ⟨numL ((l.drop 1).take 11), false, l[12]?.getD false, numL ((l.drop 15).take 4), []⟩

/-- How many bits its head has. -/
def heM (l : List Bool) : Nat := if l[13]?.getD false then 39 else 19
/-- Whether the head is there. -/
def hdK (l : List Bool) : Bool := decide (19 ≤ l.length) && (!(l[13]?.getD false) || decide (39 ≤ l.length))
/-- How many bits its body has. -/
def hdN (l : List Bool) : Nat := heM l + 8 * lonF (reF l).rem (reF l).dlc + 15

theorem lonF_le (rem : Bool) (dlc : Nat) : lonF rem dlc ≤ 8 := by unfold lonF; split <;> omega
theorem numL_take_lt (l : List Bool) (k : Nat) : numL (l.take k) < 2 ^ k := Nat.lt_of_lt_of_le (numL_lt _) (Nat.pow_le_pow_right (n := 2) (by decide) (by rw [List.length_take]; omega))
theorem reF_lt (l : List Bool) : (reF l).id < 4294967296 ∧ (reF l).dlc < 16 := by
  have h1 := numL_take_lt (l.drop 1) 11
  have h2 := numL_take_lt (l.drop 14) 18
  have h3 := numL_take_lt (l.drop 35) 4
  have h4 := numL_take_lt (l.drop 15) 4
  unfold reF; split <;> constructor <;> dsimp only <;> omega

theorem fields_any (w0 w : World) (g : Nat) (l : List Bool) (hg : w0.heap.size ≤ g) (hgw : g < w.heap.size) (hb : Below w0.heap.size w0 w) (hr : Rw w0 w g l) (hk : hdK l = true) :
    Calls Tryz.prog 109 #[.func (.func 108) #[.pointer (some ⟨g, 0, none⟩)] #[]] w fun e w' => e = .returned (.agg #[.int .u32 ((reF l).id : Int), .bool (reF l).ext, .bool (reF l).rem, .int .u8 ((reF l).dlc : Int), .slice none 0 0]) ∧ Rw w0 w' g (l.drop (heM l)) ∧ w.grownBy w' (some g) := by
  unfold hdK at hk
  simp only [Bool.and_eq_true, decide_eq_true_eq, Bool.or_eq_true, Bool.not_eq_true'] at hk
  obtain ⟨h19, hk⟩ := hk
  obtain ⟨x, hx⟩ : ∃ x, l[13]? = some x := ⟨l[13], by simp⟩
  unfold reF heM
  rw [hx] at hk ⊢
  cases x
  · exact fields_base w0 w g l hg hgw hb hr h19 hx
  · simp at hk
    exact fields_ext w0 w g l hg hgw hb hr hk hx

theorem fhead_none (w : World) (a : Option Addr) (n c : Nat) (l : List Bool) (h : RL .bool w a n c l) (hn : n ≤ 9223372036854775807) (hk : hdK l = false) :
    Calls Tryz.prog 106 #[.slice a n c] w fun e w' => e = .returned (.tuple #[.int .i64 0, .bool false]) ∧ Below w.heap.size w w' := by
  unfold hdK at hk
  rw [h.len] at hk
  by_cases h13 : n ≤ 13
  · go_enter Tryz.func106, Tryz.ntmps106
    go_wp2
    go_ret2
    exact ⟨rfl, Below.refl _ _⟩
  · obtain ⟨b, off, x, rfl, hx, hck⟩ := h.at (k := 13) (by omega)
    rw [hx] at hk
    clear hx
    have i1 : 13 < n := by omega
    cases x
    · simp at hk
      go_enter Tryz.func106, Tryz.ntmps106
      go_wp2
      go_ret2
      exact ⟨rfl, Below.refl _ _⟩
    · simp at hk
      have i2 : n < 39 := by omega
      go_enter Tryz.func106, Tryz.ntmps106
      go_wp2
      go_ret2
      exact ⟨rfl, Below.refl _ _⟩

theorem fhead_any (w : World) (a : Option Addr) (n c : Nat) (l : List Bool) (h : RL .bool w a n c l) (hn : n ≤ 9223372036854775807) (hk : hdK l = true) :
    Calls Tryz.prog 106 #[.slice a n c] w fun e w' => e = .returned (.tuple #[.int .i64 (hdN l : Int), .bool true]) ∧ Below w.heap.size w w' := by
  have hmf : ∀ (fn : Fn) (first cap : Array Value) (w : World), (Instr.makeFunc fn first cap).run Tryz.prog w = .ok (.func fn first cap) w := fun _ _ _ _ => rfl
  have hg1 : w.heap.size < (w.alloc (.cells #[.slice a n c] 149)).heap.size := by simp
  have hrw : Rw w (w.alloc (.cells #[.slice a n c] 149)) w.heap.size l := ⟨a, n, c, heap_alloc_new w _, h⟩
  have hf := fields_any w _ _ l (Nat.le_refl _) hg1 (bnew0 w _) hrw hk
  obtain ⟨q1, q2⟩ := reF_lt l
  obtain ⟨q, hq⟩ : ∃ q, q = lonF (reF l).rem (reF l).dlc := ⟨_, rfl⟩
  have hlo := fun w0 => frLong_any w0 (reF l).id (reF l).ext (reF l).rem (reF l).dlc none 0 0 (by omega)
  have hq8 := lonF_le (reF l).rem (reF l).dlc
  rw [← hq] at hlo hq8
  have HQ : Hid (hdN l = heM l + 8 * q + 15) := by show _ = _; rw [hq]; rfl
  rw [HQ.out]
  clear hq
  obtain ⟨fr, hfr⟩ : ∃ fr, fr = reF l := ⟨_, rfl⟩
  rw [← hfr] at hf hlo
  obtain ⟨id, ext, rem, dlc, dat⟩ := fr
  dsimp only at hf hlo
  clear hfr q1 q2 hrw HQ
  unfold hdK at hk
  unfold heM at hf ⊢
  rw [h.len] at hk
  have h19 : 19 ≤ n := by simp at hk; omega
  obtain ⟨b, off, x, rfl, hx, hck⟩ := h.at (k := 13) (by omega)
  rw [hx] at hk hf ⊢
  clear hx
  cases x
  all_goals
    simp only [Option.getD_some, Bool.false_eq_true, if_false, if_true, Bool.not_true, Bool.false_or, Bool.and_eq_true, decide_eq_true_eq] at hk hf ⊢
    (first | (have h39 := hk.2) | skip)
    clear hk
    go_enter Tryz.func106, Tryz.ntmps106
    go_wp2_with (first
      | (go_at_call 109; (with_reducible refine hf.mono ?_); rintro e w2 ⟨rfl, -, g2⟩; have gg2 : Below w.heap.size w w2 := (bnew0 w _).grown g2 (Nat.le_of_lt hg1) (fun q hq => by simp at hq; omega))
      | (go_at_call 14; (with_reducible refine (hlo w2).mono ?_); rintro e w3 ⟨rfl, g3⟩; have gg3 := bstep gg2 g3))
    go_ret2
    exact ⟨by first | rfl | (congr 4; done) | (congr 4; push_cast; omega), gg3⟩
end Go.Proofs.YtgpmhmdofefdcaaGreat

namespace Go.Proofs.YtgpmhmdofefdcaaGreat
set_option maxRecDepth 100000
open Go.RowKit Go.Sort
set_option linter.unusedVariables false

theorem run_cut {α : Type} {f : α → Value} {E T : TypeId} {z : Value} {bytes : Nat} {w : World} {P : Program} {l : List α} {n c : Nat} {a : Option Addr} (hT : ElT P T E z bytes) (hr : RL f w a n c l) (kl kh : IntKind) (L H : Int) (l0 h0 N : Nat) (hL : L = (l0 : Int)) (hH : H = (h0 : Int)) (hN : N = h0 - l0) (h1 : l0 ≤ h0) (h2 : h0 ≤ n) :
    ∃ a' c', (∀ w', (Instr.sliceAt T (.slice a n c) (some (.int kl L)) (some (.int kh H)) none).run P w' = .ok (.slice a' N c') w') ∧ (∀ w', (Instr.slice T (.slice a n c) (some (.int kl L)) (some (.int kh H)) none).run P w' = .ok (.slice a' N c') w') ∧ RL f w a' N c' ((l.drop l0).take N) := by
  subst hL
  subst hH
  subst hN
  obtain ⟨a', he, hr'⟩ := hr.sliced l0 h0 1 rfl h1 h2
  have hu : P.underlying T = some (.slice (P.elem T)) := by rw [hT.und, hT.el]
  have key : ∀ w', (Instr.slice T (.slice a n c) (some (.int kl (l0 : Int))) (some (.int kh (h0 : Int))) none).run P w' = .ok (.slice a' (h0 - l0) (c - l0)) w' := fun w' => by
    have hrun := run_slice_lh (P := P) w' T a n c hu kl kh l0 h0 (by omega) (by omega) (by have := hr.cap; omega)
    simp only [Int.toNat_natCast, run_sizeOf_el hT, Result.andThen] at hrun
    rw [hrun, he]
  exact ⟨a', c - l0, fun w' => by rw [run_sliceAt_slice w' T _ _ _ _ hu]; exact key w', key, by rw [List.drop_take] at hr'; exact hr'⟩

/-- A number of few bits. -/
theorem num_small {l : List Bool} {k v : Nat} (hv : v = numL (l.take k)) (hk : k ≤ 32) : v = numL (l.take k) % 4294967296 := by
  have h := numL_take_lt l k
  have := Nat.lt_of_lt_of_le h (Nat.pow_le_pow_right (n := 2) (j := 32) (by decide) hk)
  rw [hv, Nat.mod_eq_of_lt this]

theorem below_five {w w1 : World} (h : Below w.heap.size w w1) (v0 v1 v2 v3 v4 : Value) : Below w.heap.size w (((((w1.setCell ⟨w.heap.size, 0, none⟩ v0).setCell ⟨w.heap.size, 1, none⟩ v1).setCell ⟨w.heap.size, 2, none⟩ v2).setCell ⟨w.heap.size, 3, none⟩ v3).setCell ⟨w.heap.size, 4, none⟩ v4) :=
  ((((h.setCell (by simp) _).setCell (by simp) _).setCell (by simp) _).setCell (by simp) _).setCell (by simp) _

end Go.Proofs.YtgpmhmdofefdcaaGreat
