/-
  Contract of fields: the frame of a head that is read by a method value.
-/
import Derived.Test.YthpgcgkgokfnpaaB4j
namespace Go.Proofs.Ythpgcgkgokfnpaa
open Go.RowKit Go.Sort
set_option linter.unusedVariables false

def zeroF : Array Value := #[.int .u32 0, .bool false, .bool false, .int .u8 0, .slice none 0 0]

/-- The state of fields: the row that is read, what was there, the box of the result. -/
structure Fs (w0 w wc : World) (g : Nat) (l : List Bool) : Prop where
  row : Rw w0 wc g l
  bel : Below w0.heap.size w0 wc
  gr : w.grownBy wc (some g)
  b2 : wc.heap[w.heap.size]? = some (.cells #[.int .u32 0, .bool false, .bool false, .int .u8 0, .slice none 0 0] 36 (0, 0))

theorem grow_trans {w w1 w2 : World} {o : Option Nat} (h : w.grownBy w1 o) (h2 : w1.grownBy w2 o) : w.grownBy w2 o :=
  ⟨h2.os.trans h.os, h2.tape.trans h.tape, h2.output.trans h.output, Nat.le_trans h.size h2.size, fun q h1 hn => (h2.block q (Nat.lt_of_lt_of_le h1 h.size) hn).trans (h.block q h1 hn)⟩

theorem grow_box {w w' : World} {g q : Nat} {o : Obj} (h : w.grownBy w' (some g)) (hb : w.heap[q]? = some o) (hq : q ≠ g) : w'.heap[q]? = some o := by
  rw [h.block q (bx_lt hb) (by simpa using hq)]; exact hb

section
variable {w0 w wc w' : World} {g q : Nat} {l l' : List Bool}
theorem Fs.take (h : Fs w0 w wc g l) (hg : w0.heap.size ≤ g) (hgw : g < w.heap.size) (hr : Rw w0 w' g l') (hgr : wc.grownBy w' (some g)) : Fs w0 w w' g l' :=
  ⟨hr, h.bel.grown hgr h.bel.size (fun k hk => by simp at hk; omega), grow_trans h.gr hgr, grow_box hgr h.b2 (by omega)⟩
theorem Fs.size (h : Fs w0 w wc g l) : w.heap.size < wc.heap.size := bx_lt h.b2
theorem Fs.alloc (h : Fs w0 w wc g l) (hgw : g < w.heap.size) (o : Obj) : Fs w0 w (wc.alloc o) g l :=
  ⟨h.row.grown (Below.heap_alloc _ _ _ (by have := h.size; omega)), h.bel.alloc h.bel.size o, grow_trans h.gr ⟨rfl, rfl, rfl, by simp, fun k hk _ => Below.heap_alloc _ _ _ hk⟩, bx_alloc _ h.b2⟩
theorem Fs.set (h : Fs w0 w wc g l) (hgw : g < w.heap.size) (hg : w0.heap.size ≤ g) (hq : w.heap.size < q) (i : Nat) (v : Value) : Fs w0 w (wc.setCell ⟨q, i, none⟩ v) g l :=
  ⟨h.row.grown (heap_setCell_other _ _ _ _ (by simp; omega)), h.bel.setCell (by simp; omega) _,
   ⟨h.gr.os, h.gr.tape, h.gr.output, by simpa using h.gr.size, fun k hk hn => (heap_setCell_other _ _ _ _ (by simp; omega)).trans (h.gr.block k hk hn)⟩, by rw [heap_setCell_other _ _ _ _ (by simp; omega)]; exact h.b2⟩
end

/-- take at a state of fields. -/
theorem Fs.call {w0 w wc : World} {g : Nat} {l : List Bool} (h : Fs w0 w wc g l) (hg : w0.heap.size ≤ g) (hgw : g < w.heap.size) (k : Int) (m v : Nat) (l' : List Bool) (hk : k = (m : Int)) (hm : m ≤ l.length) (hv : v = numL (l.take m) % 4294967296) (hl : l' = l.drop m) (hm1 : m ≤ 1000 := by omega) :
    Calls Try.prog 49 #[.pointer (some ⟨g, 0, none⟩), .int .i64 k] wc fun e w' => e = .returned (.int .u32 (v : Int)) ∧ Fs w0 w w' g l' ∧ wc.grownBy w' (some g) := by
  subst hk hv hl
  exact (rtake_any w0 wc g l m hg h.bel h.row hm hm1).mono fun e w' ⟨he, h2, h3⟩ => ⟨he, h.take hg hgw h2 h3, h3⟩

theorem num1 {l : List Bool} {x : Bool} (h : l[0]? = some x) : numL (l.take 1) % 4294967296 = x.toNat := by
  cases l with
  | nil => cases h
  | cons y l => simp at h; subst h; cases y <;> rfl

theorem rg_set {w0 w wc : World} {g : Nat} {l : List Bool} (h : Rw w0 wc g l ∧ w.grownBy wc (some g)) (hgw : g < w.heap.size) (i : Nat) (v : Value) : Rw w0 (wc.setCell ⟨w.heap.size, i, none⟩ v) g l ∧ w.grownBy (wc.setCell ⟨w.heap.size, i, none⟩ v) (some g) :=
  ⟨h.1.grown (heap_setCell_other _ _ _ _ (by simp; omega)), h.2.os, h.2.tape, h.2.output, by simpa using h.2.size, fun k hk hn => (heap_setCell_other _ _ _ _ (by simp; omega)).trans (h.2.block k hk hn)⟩

theorem Fs.fin {w0 w wc : World} {g : Nat} {l : List Bool} (h : Fs w0 w wc g l) (hgw : g < w.heap.size) (v0 v1 v2 v3 v4 : Value) :
    Rw w0 (((((wc.setCell ⟨w.heap.size, 0, none⟩ v0).setCell ⟨w.heap.size, 1, none⟩ v1).setCell ⟨w.heap.size, 2, none⟩ v2).setCell ⟨w.heap.size, 3, none⟩ v3).setCell ⟨w.heap.size, 4, none⟩ v4) g l ∧
    w.grownBy (((((wc.setCell ⟨w.heap.size, 0, none⟩ v0).setCell ⟨w.heap.size, 1, none⟩ v1).setCell ⟨w.heap.size, 2, none⟩ v2).setCell ⟨w.heap.size, 3, none⟩ v3).setCell ⟨w.heap.size, 4, none⟩ v4) (some g) := by
  exact rg_set (rg_set (rg_set (rg_set (rg_set ⟨h.row, h.gr⟩ hgw 0 v0) hgw 1 v1) hgw 2 v2) hgw 3 v3) hgw 4 v4

/-- The same, beside the box of the frame that is filled. -/
structure Fq (w0 w wc : World) (g : Nat) (l : List Bool) (q : Nat) (vs : Array Value) : Prop where
  fs : Fs w0 w wc g l
  b3 : wc.heap[q]? = some (.cells vs 36 (0, 0))
  hq : w.heap.size < q

theorem Fq.new {w0 w wc : World} {g : Nat} {l : List Bool} (h : Fs w0 w wc g l) (hgw : g < w.heap.size) (vs : Array Value) : Fq w0 w (wc.alloc (.cells vs 36)) g l wc.heap.size vs := ⟨h.alloc hgw _, heap_alloc_new wc _, h.size⟩
theorem Fq.set {w0 w wc : World} {g q : Nat} {l : List Bool} {vs : Array Value} (h : Fq w0 w wc g l q vs) (hgw : g < w.heap.size) (hg : w0.heap.size ≤ g) (i : Nat) (v : Value) : Fq w0 w (wc.setCell ⟨q, i, none⟩ v) g l q (vs.setIfInBounds i v) :=
  ⟨h.fs.set hgw hg h.hq i v, heap_setCell_same wc q i _ _ v h.b3, h.hq⟩
theorem Fq.call {w0 w wc : World} {g q : Nat} {l : List Bool} {vs : Array Value} (h : Fq w0 w wc g l q vs) (hg : w0.heap.size ≤ g) (hgw : g < w.heap.size) (k : Int) (m v : Nat) (l' : List Bool) (hk : k = (m : Int)) (hm : m ≤ l.length) (hv : v = numL (l.take m) % 4294967296) (hl : l' = l.drop m) (hm1 : m ≤ 1000 := by omega) :
    Calls Try.prog 49 #[.pointer (some ⟨g, 0, none⟩), .int .i64 k] wc fun e w' => e = .returned (.int .u32 (v : Int)) ∧ Fq w0 w w' g l' q vs := 
  (h.fs.call hg hgw k m v l' hk hm hv hl hm1).mono fun e w' ⟨he, h2, h3⟩ => ⟨he, h2, grow_box h3 h.b3 (by have := h.hq; omega), h.hq⟩

theorem Fq.set0 {w0 w wc : World} {g q : Nat} {l : List Bool} {v0 v1 v2 v3 v4 : Value} (h : Fq w0 w wc g l q #[v0, v1, v2, v3, v4]) (hgw : g < w.heap.size) (hg : w0.heap.size ≤ g) (v : Value) : Fq w0 w (wc.setCell ⟨q, 0, none⟩ v) g l q #[v, v1, v2, v3, v4] := by
  have := h.set hgw hg 0 v
  simpa using this
theorem Fq.set1 {w0 w wc : World} {g q : Nat} {l : List Bool} {v0 v1 v2 v3 v4 : Value} (h : Fq w0 w wc g l q #[v0, v1, v2, v3, v4]) (hgw : g < w.heap.size) (hg : w0.heap.size ≤ g) (v : Value) : Fq w0 w (wc.setCell ⟨q, 1, none⟩ v) g l q #[v0, v, v2, v3, v4] := by
  have := h.set hgw hg 1 v
  simpa using this
theorem Fq.set2 {w0 w wc : World} {g q : Nat} {l : List Bool} {v0 v1 v2 v3 v4 : Value} (h : Fq w0 w wc g l q #[v0, v1, v2, v3, v4]) (hgw : g < w.heap.size) (hg : w0.heap.size ≤ g) (v : Value) : Fq w0 w (wc.setCell ⟨q, 2, none⟩ v) g l q #[v0, v1, v, v3, v4] := by
  have := h.set hgw hg 2 v
  simpa using this
theorem Fq.set3 {w0 w wc : World} {g q : Nat} {l : List Bool} {v0 v1 v2 v3 v4 : Value} (h : Fq w0 w wc g l q #[v0, v1, v2, v3, v4]) (hgw : g < w.heap.size) (hg : w0.heap.size ≤ g) (v : Value) : Fq w0 w (wc.setCell ⟨q, 3, none⟩ v) g l q #[v0, v1, v2, v, v4] := by
  have := h.set hgw hg 3 v
  simpa using this

set_option maxHeartbeats 4000000 in
theorem fields_base (w0 w : World) (g : Nat) (l : List Bool) (hg : w0.heap.size ≤ g) (hgw : g < w.heap.size) (hb : Below w0.heap.size w0 w) (hr : Rw w0 w g l) (hm : 19 ≤ l.length) (h13 : l[13]? = some false) :
    Calls Try.prog 50 #[.func (.func 49) #[.pointer (some ⟨g, 0, none⟩)] #[]] w fun e w' => e = .returned (.agg #[.int .u32 (numL ((l.drop 1).take 11) : Int), .bool false, .bool (l[12]?.getD false), .int .u8 (numL ((l.drop 15).take 4) : Int), .slice none 0 0]) ∧ Rw w0 w' g (l.drop 19) ∧ w.grownBy w' (some g) := by
  have fs1 : Fs w0 w (w.alloc (.cells #[.int .u32 0, .bool false, .bool false, .int .u8 0, .slice none 0 0] 36)) g l :=
    ⟨hr.grown (Below.heap_alloc _ _ _ hgw), hb.alloc hb.size _, ⟨rfl, rfl, rfl, by simp, fun k hk _ => Below.heap_alloc _ _ _ hk⟩, heap_alloc_new w _⟩
  obtain ⟨id, hid'⟩ : ∃ id, id = numL ((l.drop 1).take 11) := ⟨_, rfl⟩
  obtain ⟨dl, hdl⟩ : ∃ dl, dl = numL ((l.drop 15).take 4) := ⟨_, rfl⟩
  obtain ⟨x0, hx0⟩ : ∃ x0, l[0]? = some x0 := ⟨l[0], by simp⟩
  obtain ⟨x12, hx12⟩ : ∃ x, l[12]? = some x := ⟨l[12], by simp⟩
  obtain ⟨x14, hx14⟩ : ∃ x, l[14]? = some x := ⟨l[14], by simp⟩
  have hid2 : id < 2048 := by rw [hid']; have := numL_lt ((l.drop 1).take 11); rw [List.length_take, List.length_drop] at this; exact Nat.lt_of_lt_of_le this (Nat.pow_le_pow_right (n := 2) (j := 11) (by decide) (by omega))
  have hdl2 : dl < 16 := by rw [hdl]; have := numL_lt ((l.drop 15).take 4); rw [List.length_take, List.length_drop] at this; exact Nat.lt_of_lt_of_le this (Nat.pow_le_pow_right (n := 2) (j := 4) (by decide) (by omega))
  obtain ⟨v0, hv0⟩ : ∃ v0, v0 = x0.toNat := ⟨_, rfl⟩
  obtain ⟨v12, hv12⟩ : ∃ v12, v12 = x12.toNat := ⟨_, rfl⟩
  obtain ⟨v14, hv14⟩ : ∃ v14, v14 = x14.toNat := ⟨_, rfl⟩
  have n1 : v0 = numL (l.take 1) % 4294967296 := hv0.trans (num1 hx0).symm
  have n2 : id = numL ((l.drop 1).take 11) % 4294967296 := by rw [hid'] at hid2 ⊢; omega
  have n3 : v12 = numL ((l.drop 12).take 1) % 4294967296 := hv12.trans (num1 (by rw [List.getElem?_drop]; exact hx12)).symm
  have n4 : 0 = numL ((l.drop 13).take 1) % 4294967296 := (num1 (x := false) (by rw [List.getElem?_drop]; exact h13)).symm
  have n5 : v14 = numL ((l.drop 14).take 1) % 4294967296 := hv14.trans (num1 (by rw [List.getElem?_drop]; exact hx14)).symm
  have n6 : dl = numL ((l.drop 15).take 4) % 4294967296 := by rw [hdl] at hdl2 ⊢; omega
  have k1 := fun wc (fs : Fs w0 w wc g l) => fs.call hg hgw 1 1 v0 (l.drop 1) rfl (by omega) n1 rfl
  have k2 := fun wc (fs : Fs w0 w wc g (l.drop 1)) => fs.call hg hgw 11 11 id (l.drop 12) rfl (by simp; omega) n2 (by rw [List.drop_drop])
  have k3 := fun wc q vs (fs : Fq w0 w wc g (l.drop 12) q vs) => fs.call hg hgw 1 1 v12 (l.drop 13) rfl (by simp; omega) n3 (by rw [List.drop_drop])
  have k4 := fun wc q vs (fs : Fq w0 w wc g (l.drop 13) q vs) => fs.call hg hgw 1 1 0 (l.drop 14) rfl (by simp; omega) n4 (by rw [List.drop_drop])
  have k5 := fun wc q vs (fs : Fq w0 w wc g (l.drop 14) q vs) => fs.call hg hgw 1 1 v14 (l.drop 15) rfl (by simp; omega) n5 (by rw [List.drop_drop])
  have k6 := fun wc q vs (fs : Fq w0 w wc g (l.drop 15) q vs) => fs.call hg hgw 4 4 dl (l.drop 19) rfl (by simp; omega) n6 (by rw [List.drop_drop])
  rw [← hid', ← hdl, hx12]
  have e12 : ((v12 : Int) == 1) = x12 := by rw [hv12]; cases x12 <;> rfl
  have w12 : v12 < 2 := by rw [hv12]; cases x12 <;> decide
  clear hv0 hv12 hv14 hid' hdl hx0 hx12 hx14 n1 n2 n3 n4 n5 n6 h13 hr hb
  simp only [Option.getD_some]
  go_enter Try.func50, Try.ntmps50
  go_wp2_with (first
    | (go_at_call 49; (with_reducible refine (k1 _ fs1).mono ?_); rintro e w2 ⟨rfl, fs2, -⟩)
    | (go_at_call 49; (with_reducible refine (k2 w2 fs2).mono ?_); rintro e w3 ⟨rfl, fs3, -⟩; have fq3 := Fq.new fs3 hgw #[.int .u32 (id : Int), .bool false, .bool false, .int .u8 0, .slice none 0 0]; clear fs1 fs2)
    | (go_at_call 49; (with_reducible refine (k3 _ _ _ fq3).mono ?_); rintro e w4 ⟨rfl, fq4⟩; have f4 := bx_thaw fq4.b3 2; have p4 := (bx5 fq4.b3).2.2.1; have fq4' := fq4.set2 hgw hg (.bool x12))
    | (go_at_call 49; (with_reducible refine (k4 _ _ _ fq4').mono ?_); rintro e w5 ⟨rfl, fq5⟩; have f5 := bx_thaw fq5.b3 1; have p5 := (bx5 fq5.b3).2.1; clear f4 p4; have fq5' := fq5.set1 hgw hg (.bool false))
    | (go_at_call 49; (with_reducible refine (k5 _ _ _ fq5').mono ?_); rintro e w6 ⟨rfl, fq6⟩)
    | (go_at_call 49; (with_reducible refine (k6 _ _ _ fq6).mono ?_); rintro e w7 ⟨rfl, fq7⟩; clear f5 p5; have f7 := bx_thaw fq7.b3 3; obtain ⟨c0, c1, c2, c3, c4⟩ := bx5 fq7.b3; have f8 := bx_thaw fq7.fs.b2; obtain ⟨d0, d1, d2, d3, d4⟩ := bx5 fq7.fs.b2; have hq7 := fq7.hq))
  have fin := (fq7.set3 hgw hg (.int .u8 (dl : Int))).fs.fin hgw (.int .u32 (id : Int)) (.bool false) (.bool x12) (.int .u8 (dl : Int)) (.slice none 0 0)
  exact bodyPost_ret (v := .agg #[.int .u32 (id : Int), .bool false, .bool x12, .int .u8 (dl : Int), .slice none 0 0]) (by simp [results, Try.results50, go_sem, d0, d1, d2, d3, d4]) rfl ⟨rfl, fin.1, fin.2⟩
end Go.Proofs.Ythpgcgkgokfnpaa
