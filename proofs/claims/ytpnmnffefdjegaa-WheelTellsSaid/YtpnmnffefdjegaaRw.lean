/-
  Words on rows of cells: a struct loaded, stored and handed back whole; an element of a list loaded and stored; a call that writes one block. slices.Clone of bytes.
-/
import Derived.Test.YtpnmnffefdjegaaBase2
import Derived.Test.YtpnmnffefdjegaaBaseK
import Derived.Test.YtpnmnffefdjegaaBox5
import Derived.Test.YtpnmnffefdjegaaTy
import Derived.Laws.Tables
import Derived.Laws.Rows
import Derived.Laws.CopyOwn
import Derived.Laws.EntriesVeiled
import Derived.Lib.SliceRun
import Derived.Deep.MidRow
namespace Go.Proofs.Ytpnmnffefdjegaa
open Go.RowKit
set_option linter.unusedVariables false

/-- What is there is kept but for the block g, and nothing else happens. -/
structure Wr (g : Nat) (w w' : World) : Prop where
  os : w'.os = w.os
  tape : w'.tape = w.tape
  output : w'.output = w.output
  size : w.heap.size ≤ w'.heap.size
  block : ∀ k, k < w.heap.size → k ≠ g → w'.heap[k]? = w.heap[k]?

section
variable {g : Nat} {w w0 w1 w2 : World}

theorem sz_set (w : World) (a : Addr) (v : Value) : (w.setCell a v).heap.size = w.heap.size := by simp [World.setCell]
theorem Wr.refl (g : Nat) (w : World) : Wr g w w := ⟨rfl, rfl, rfl, Nat.le_refl _, fun _ _ _ => rfl⟩
theorem Wr.trans (h : Wr g w w1) (k : Wr g w1 w2) : Wr g w w2 :=
  ⟨k.os.trans h.os, k.tape.trans h.tape, k.output.trans h.output, Nat.le_trans h.size k.size, fun i hi hg => (k.block i (Nat.lt_of_lt_of_le hi h.size) hg).trans (h.block i hi hg)⟩
theorem Wr.call (h : Wr g w w1) (k : Below w1.heap.size w1 w2) : Wr g w w2 :=
  h.trans ⟨k.os, k.tape, k.output, k.size, fun i hi _ => k.block i hi⟩
theorem Wr.alloc (h : Wr g w w1) (o : Obj) : Wr g w (w1.alloc o) := h.call (bnew0 w1 o)
/-- A store into the block, or into one that was laid since. -/
theorem Wr.setCell (h : Wr g w w1) {p : Addr} (hp : p.block = g ∨ w.heap.size ≤ p.block) (u : Value) : Wr g w (w1.setCell p u) :=
  ⟨h.os, h.tape, h.output, by simpa [World.setCell] using h.size, fun k hk hg => by
    rw [Below.heap_setCell _ _ _ _ (by rcases hp with e | e <;> omega)]
    exact h.block k hk hg⟩
theorem Wr.setRow (h : Wr g w w1) {p : Nat} (hp : p = g ∨ w.heap.size ≤ p) (cs : Array Value) : Wr g w (w1.setRow p cs) :=
  ⟨h.os, h.tape, h.output, by simpa using h.size, fun k hk hg => by
    rw [setRow_other _ _ _ _ (by rcases hp with e | e <;> omega)]
    exact h.block k hk hg⟩
theorem Wr.drew (h : Wr g w w1) : Wr g w w1.drew := ⟨h.os, h.tape, h.output, h.size, h.block⟩
/-- Behind a method that writes a block of the call's own. -/
theorem Wr.below {B : Nat} (k : Wr g w w1) (h : Below B w0 w) (hB : B ≤ g) (hg : g < w.heap.size) : Below B w0 w1 :=
  h.trans ⟨k.os, k.tape, k.output, k.size, fun i hi => k.block i (by omega) (by omega)⟩
end

/-- A box of six cells. -/
theorem bx6 {w : World} {g : Nat} {E : TypeId} {v0 v1 v2 v3 v4 v5 : Value} (h : w.heap[g]? = some (.cells #[v0, v1, v2, v3, v4, v5] E (0, 0))) :
    w.cell? ⟨g, 0, none⟩ = some v0 ∧ w.cell? ⟨g, 1, none⟩ = some v1 ∧ w.cell? ⟨g, 2, none⟩ = some v2 ∧ w.cell? ⟨g, 3, none⟩ = some v3 ∧ w.cell? ⟨g, 4, none⟩ = some v4 ∧ w.cell? ⟨g, 5, none⟩ = some v5 :=
  ⟨by rw [cell_of_row w g 0 _ _ _ h]; rfl, by rw [cell_of_row w g 1 _ _ _ h]; rfl, by rw [cell_of_row w g 2 _ _ _ h]; rfl, by rw [cell_of_row w g 3 _ _ _ h]; rfl, by rw [cell_of_row w g 4 _ _ _ h]; rfl, by rw [cell_of_row w g 5 _ _ _ h]; rfl⟩

/-- A type whose values are rows of so many cells. -/
structure RowT (P : Program) (T : TypeId) (n : Nat) : Prop where
  und : ∃ d, P.underlying T = some d ∧ (match d with | .struct _ | .array _ _ => true | _ => false) = true
  size : (P.info? T).map (·.size) = some n

theorem rowT_of {P : Program} {T : TypeId} {n : Nat} (h : (P.underlying T).any (fun d => match d with | .struct _ | .array _ _ => true | _ => false) = true) (hs : (P.info? T).map (·.size) = some n) : RowT P T n := by
  refine ⟨?_, hs⟩
  cases hh : P.underlying T with
  | none => rw [hh] at h; simp at h
  | some d => rw [hh] at h; exact ⟨d, rfl, by simpa using h⟩

section
variable {P : Program} {ops : Array Oper} {rest : List Oper} {o : Oper} {a : Act} {w : World} {Q : Exit → Act → World → Prop} {T : TypeId} {n : Nat}

theorem wpList_loadR (hT : RowT P T n) (hgd : o.guard = none) (x : Operand) (ho : o.op = .load T x)
    (g : Nat) (hx : a.eval x = .pointer (some ⟨g, 0, none⟩)) {t : TypeId} {cs : Array Value} {fr : Nat × Nat} (hg : w.heap[g]? = some (.cells cs t fr)) (hn : cs.size = n)
    (h : wpList P ops Q rest (a.put o.dst (.agg cs)) w) : wpList P ops Q (o :: rest) a w := by
  obtain ⟨d, hu, hd⟩ := hT.und
  exact wpList_load_row hgd T x ho g hx t cs fr d hg hu (by cases d <;> simp_all) (by rw [hT.size, hn]) h

/-- .. behind a guard. -/
theorem wpList_loadW (hT : RowT P T n) (hw : Region.wanted o (yielded ops a.tmps) = true) (x : Operand) (ho : o.op = .load T x)
    (g : Nat) (hx : a.eval x = .pointer (some ⟨g, 0, none⟩)) {t : TypeId} {cs : Array Value} {fr : Nat × Nat} (hg : w.heap[g]? = some (.cells cs t fr)) (hn : cs.size = n)
    (h : wpList P ops Q rest (a.put o.dst (.agg cs)) w) : wpList P ops Q (o :: rest) a w := by
  obtain ⟨d, hu, hd⟩ := hT.und
  exact wpList_step fun _ hK => by
    rw [if_pos hw]
    exact wp_load_row T x ho g hx t cs fr d hg hu (by cases d <;> simp_all) (by rw [hT.size, hn]) (hK _ _ h)

theorem wpList_storeR (hT : RowT P T n) (hgd : o.guard = none) (x y : Operand) (ho : o.op = .store T x y)
    (g : Nat) (cells : Array Value) (hx : a.eval x = .pointer (some ⟨g, 0, none⟩)) (hy : a.eval y = .agg cells)
    {t : TypeId} {old : Array Value} (hg : w.heap[g]? = some (.cells old t (0, 0))) (hn : cells.size = n) (hold : old.size = n) (h1 : cells.all (·.oneCell') = true)
    (h : wpList P ops Q rest (a.put o.dst undef) (w.setRow g cells)) : wpList P ops Q (o :: rest) a w :=
  wpList_store_row hgd T x y ho g cells hx hy t old hg (by rw [hT.size, hn]) (by omega) h1 h

theorem results_row (hT : RowT P T n) {fn : Func} {p : Tmp} (h : fn.results = #[.cell p T]) (tmps : Array Value) (w : World) (g : Nat) {t : TypeId} {cs : Array Value} {fr : Nat × Nat}
    (hp : tmps.getD p undef = .pointer (some ⟨g, 0, none⟩)) (hg : w.heap[g]? = some (.cells cs t fr)) (hn : cs.size = n) : (results fn tmps).run P w = .ok (.agg cs) w := by
  obtain ⟨d, hu, hd⟩ := hT.und
  exact results_cell_row h tmps w g t cs fr d hp hg hu (by cases d <;> simp_all) (by rw [hT.size, hn])
end

section
variable {P : Program} {ops : Array Oper} {o : Oper} {a : Act} {w : World} {K : Act → World → Prop} {Q : Exit → Act → World → Prop} {T U : TypeId} {n m : Nat}

/-- A row loaded, and one stored, in a region that draws its order. -/
theorem draw_loadR (hT : RowT P T n) (hgd : o.guard = none) (x : Operand) (ho : o.op = .load T x)
    (g : Nat) (hx : a.eval x = .pointer (some ⟨g, 0, none⟩)) {t : TypeId} {cs : Array Value} {fr : Nat × Nat} (hg : w.heap[g]? = some (.cells cs t fr)) (hn : cs.size = n)
    (h : K (a.put o.dst (.agg cs)) w) : if Region.wanted o (yielded ops a.tmps) = true then Oper.wp P o a w K Q else K (a.put o.dst undef) w := by
  obtain ⟨d, hu, hd⟩ := hT.und
  rw [if_pos (by simp [Region.wanted, hgd])]
  exact wp_load_row T x ho g hx t cs fr d hg hu (by cases d <;> simp_all) (by rw [hT.size, hn]) h
theorem draw_storeR (hT : RowT P T n) (hgd : o.guard = none) (x y : Operand) (ho : o.op = .store T x y)
    (g : Nat) (cells : Array Value) (hx : a.eval x = .pointer (some ⟨g, 0, none⟩)) (hy : a.eval y = .agg cells)
    {t : TypeId} {old : Array Value} (hg : w.heap[g]? = some (.cells old t (0, 0))) (hn : cells.size = n) (hold : old.size = n) (h1 : cells.all (·.oneCell') = true)
    (h : K (a.put o.dst undef) (w.setRow g cells)) : if Region.wanted o (yielded ops a.tmps) = true then Oper.wp P o a w K Q else K (a.put o.dst undef) w := by
  rw [if_pos (by simp [Region.wanted, hgd])]
  exact wp_store_row T x y ho g cells hx hy t old hg (by rw [hT.size, hn]) (by omega) h1 h

theorem results_row2 (hT : RowT P T n) (hU : RowT P U m) {fn : Func} {p q : Tmp} (h : fn.results = #[.cell p T, .cell q U]) (tmps : Array Value) (w : World) (g k : Nat) {t u : TypeId} {cs ds : Array Value} {fr fs : Nat × Nat}
    (hp : tmps.getD p undef = .pointer (some ⟨g, 0, none⟩)) (hq : tmps.getD q undef = .pointer (some ⟨k, 0, none⟩)) (hg : w.heap[g]? = some (.cells cs t fr)) (hk : w.heap[k]? = some (.cells ds u fs)) (hn : cs.size = n) (hm : ds.size = m) :
    (results fn tmps).run P w = .ok (.tuple #[.agg cs, .agg ds]) w := by
  obtain ⟨d, hu, hd⟩ := hT.und
  obtain ⟨d2, hu2, hd2⟩ := hU.und
  have hp' : tmps[p]?.getD undef = .pointer (some ⟨g, 0, none⟩) := by simpa using hp
  have hq' : tmps[q]?.getD undef = .pointer (some ⟨k, 0, none⟩) := by simpa using hq
  have e1 := run_loadVar_row (P := P) w g t T cs fr d hg hu (by cases d <;> simp_all) (by rw [hT.size, hn])
  have e2 := run_loadVar_row (P := P) w k u U ds fs d2 hk hu2 (by cases d2 <;> simp_all) (by rw [hU.size, hm])
  simp [results, h, hp', hq', asAddr, e1, e2]

theorem results_row1 (hT : RowT P T n) {fn : Func} {p q : Tmp} (h : fn.results = #[.cell p T, .tmp q]) (tmps : Array Value) (w : World) (g : Nat) {t : TypeId} {cs : Array Value} {fr : Nat × Nat} {v : Value}
    (hp : tmps.getD p undef = .pointer (some ⟨g, 0, none⟩)) (hq : tmps.getD q undef = v) (hg : w.heap[g]? = some (.cells cs t fr)) (hn : cs.size = n) :
    (results fn tmps).run P w = .ok (.tuple #[.agg cs, v]) w := by
  obtain ⟨d, hu, hd⟩ := hT.und
  have hp' : tmps[p]?.getD undef = .pointer (some ⟨g, 0, none⟩) := by simpa using hp
  have hq' : tmps[q]?.getD undef = v := by simpa using hq
  have e1 := run_loadVar_row (P := P) w g t T cs fr d hg hu (by cases d <;> simp_all) (by rw [hT.size, hn])
  simp [results, h, hp', hq', asAddr, e1]
end

section
variable {α : Type} {enc : α → List Value} {k : Nat} {E : TypeId} {B : Nat} {w w' : World} {a : Option Addr} {n c : Nat} {l : List α}

theorem flat_set (hk : EnK enc k) (l : List α) (i : Nat) (hi : i < l.length) (x : α) : (l.set i x).flatMap enc = (l.flatMap enc).take (i * k) ++ enc x ++ (l.flatMap enc).drop (i * k + k) := by
  have e : l.flatMap enc = (l.take i).flatMap enc ++ (enc l[i] ++ (l.drop (i + 1)).flatMap enc) := by
    conv => lhs; rw [← List.take_append_drop i l, List.drop_eq_getElem_cons hi]
    rw [List.flatMap_append, List.flatMap_cons]
  have h1 : ((l.take i).flatMap enc).length = i * k := by rw [flat_len hk, List.length_take, Nat.min_eq_left (by omega)]
  have h2 := hk.len l[i]
  rw [List.set_eq_take_append_cons_drop, if_pos hi, List.flatMap_append, List.flatMap_cons, e]
  rw [List.take_left' h1, ← List.append_assoc (List.flatMap enc (List.take i l)) (enc l[i]), List.drop_left' (by rw [List.length_append, h1, h2]), List.append_assoc]

theorem take_splice {β : Type} (L V : List β) (o m : Nat) (h : o + V.length ≤ m) (hm : m ≤ L.length) : (L.take o ++ V ++ L.drop (o + V.length)).take m = (L.take m).take o ++ V ++ (L.take m).drop (o + V.length) := by
  apply List.ext_getElem?
  intro j
  simp only [List.getElem?_take, List.getElem?_append, List.getElem?_drop, List.length_append, List.length_take, Nat.min_eq_left (show o ≤ L.length by omega), Nat.min_eq_left hm, Nat.min_eq_left (show o ≤ m by omega)]
  by_cases h1 : j < o
  · simp [h1, show j < m by omega, show j < o + V.length by omega]
  · by_cases h2 : j < o + V.length
    · simp [h1, h2, show j < m by omega]
    · have e : o + V.length + (j - (o + V.length)) = j := by omega
      simp [h2, e]

/-- Cells written one behind the other. -/
def wrC (cur : Array Value) : Nat → List Value → Array Value
  | _, [] => cur
  | o, v :: r => wrC (cur.setIfInBounds o v) (o + 1) r

theorem wrC_size : ∀ (vs : List Value) (cur : Array Value) (o : Nat), (wrC cur o vs).size = cur.size
  | [], _, _ => rfl
  | v :: r, cur, o => by rw [wrC, wrC_size r]; simp

theorem wrC_list : ∀ (vs : List Value) (cur : Array Value) (o : Nat), o + vs.length ≤ cur.size → (wrC cur o vs).toList = cur.toList.take o ++ vs ++ cur.toList.drop (o + vs.length)
  | [], cur, o, h => by simp [wrC]
  | v :: r, cur, o, h => by
    have ho : o < cur.size := by simp at h; omega
    rw [wrC, wrC_list r _ _ (by simp at h ⊢; omega)]
    rw [Array.toList_setIfInBounds, List.take_succ_eq_append_getElem (by simpa using ho), List.take_set_of_le (Nat.le_refl _), List.drop_set_of_lt (by omega)]
    simp [Nat.add_assoc, Nat.add_comm 1]

theorem heap_setCells_same (b : Nat) (t : TypeId) : ∀ (vs : List Value) (o : Nat) (w : World) (cur : Array Value), w.heap[b]? = some (.cells cur t (0, 0)) → (w.setCells b o vs).heap[b]? = some (.cells (wrC cur o vs) t (0, 0))
  | [], _, _, _, h => h
  | v :: r, o, w, cur, h => heap_setCells_same b t r (o + 1) _ _ (heap_setCell_same w b o _ _ v h)

theorem wr_setCells (b : Nat) : ∀ (vs : List Value) (o : Nat) (w : World), Wr b w (w.setCells b o vs)
  | [], _, w => Wr.refl b w
  | v :: r, o, w => by
    have h1 : Wr b w (w.setCell ⟨b, o, none⟩ v) := (Wr.refl b w).setCell (.inl rfl) v
    exact h1.trans (wr_setCells b r (o + 1) _)

/-- An element's cells, as a range. -/
theorem RK.range (h : RK enc k w a n c l) {i : Nat} {x : α} (hx : l[i]? = some x) : ∃ b off, a = some ⟨b, off, none⟩ ∧ b < w.heap.size ∧ w.rangeAt b (off + i * k) (enc x) := by
  have hi : i < l.length := (List.getElem?_eq_some_iff.1 hx).1
  obtain ⟨b, off, ha, hb, hc⟩ := h.cell (by rw [← h.len]; omega)
  exact ⟨b, off, ha, hb, fun j v hv => by rw [Nat.add_assoc]; exact hc i x j v hx hv⟩

theorem OK.addr (h : OK enc k E B w a n c l) (hn : 0 < n) : ∃ g, a = some ⟨g, 0, none⟩ ∧ B ≤ g ∧ g < w.heap.size := by
  rcases h.ex with ⟨_, h0, _⟩ | ⟨g, cur, h1, h2, h3, _⟩
  · omega
  · exact ⟨g, h1, h2, bx_lt h3⟩

theorem OK.range (hk : EnK enc k) {g : Nat} (h : OK enc k E B w (some ⟨g, 0, none⟩) n c l) {i : Nat} {x : α} (hx : l[i]? = some x) : w.rangeAt g (i * k) (enc x) := by
  obtain ⟨b, off, e, _, hr⟩ := (h.rk hk).range hx
  cases e
  rwa [Nat.zero_add] at hr

theorem OK.there (hk : EnK enc k) {g : Nat} (h : OK enc k E B w (some ⟨g, 0, none⟩) n c l) {i : Nat} (hi : i < n) : w.there g (i * k) k := by
  rcases h.ex with ⟨h0, _⟩ | ⟨g', cur, h1, h2, h3, h4, h5, h6⟩
  · cases h0
  · cases h1
    intro j hj
    have hb : i * k + j < cur.size := by
      have : (i + 1) * k ≤ c * k := Nat.mul_le_mul_right k (by have := h.cap; omega)
      rw [Nat.add_mul] at this
      omega
    exact ⟨by rw [cell_of_row w g _ _ _ _ h3]; simp [hb], bx_thaw h3 _⟩

/-- An element written anew. -/
theorem OK.put (hk : EnK enc k) {g : Nat} (h : OK enc k E B w (some ⟨g, 0, none⟩) n c l) {i : Nat} (hi : i < n) (x : α) : OK enc k E B (w.setCells g (i * k) (enc x)) (some ⟨g, 0, none⟩) n c (l.set i x) := by
  rcases h.ex with ⟨h0, _⟩ | ⟨g', cur, h1, h2, h3, h4, h5, h6⟩
  · cases h0
  · cases h1
    have hnk : (i + 1) * k ≤ n * k := Nat.mul_le_mul_right k (by omega)
    have hck : n * k ≤ c * k := Nat.mul_le_mul_right k h.cap
    rw [Nat.add_mul] at hnk
    have hle := hk.len x
    refine ⟨by rw [List.length_set]; exact h.len, h.cap, by rw [flat_len hk, List.length_set, h.len], .inr ⟨g, c, _, rfl, h2, heap_setCells_same g E _ _ _ _ h3, h.cap, h6, by rw [wrC_size]; exact h4, ?_⟩⟩
    rw [wrC_list _ _ _ (by rw [hle, h4]; omega), flat_set hk l i (by rw [h.len]; exact hi) x, ← h5, hle]
    have hl : cur.toList.length = c * k := by rw [Array.length_toList, h4]
    have := take_splice cur.toList (enc x) (i * k) (n * k) (by rw [hle]; omega) (by rw [hl]; exact hck)
    rw [hle] at this
    exact this
end

theorem sz_setCells (b : Nat) : ∀ (vs : List Value) (o : Nat) (w : World), (w.setCells b o vs).heap.size = w.heap.size
  | [], _, _ => rfl
  | v :: r, o, w => by rw [World.setCells, sz_setCells b r]; exact sz_set w _ v

section
variable {P : Program} {ops : Array Oper} {rest : List Oper} {o : Oper} {ac : Act} {w : World} {K : Act → World → Prop} {Q : Exit → Act → World → Prop} {T E : TypeId} {n : Nat}
variable {α : Type} {enc : α → List Value} {k B c : Nat} {l : List α}

theorem wp_loadM (hT : RowT P T n) (x : Operand) (ho : o.op = .load T x) (b off : Nat) (hx : ac.eval x = .pointer (some ⟨b, off, none⟩)) (cs : Array Value) (hr : w.rangeAt b off cs.toList) (hn : cs.size = n)
    (h : K (ac.put o.dst (.agg cs)) w) : o.wp P ac w K Q := by
  obtain ⟨d, hu, hd⟩ := hT.und
  exact wp_load_mid T x ho b off hx cs.toList d hr hu (by cases d <;> simp_all) (by rw [hT.size, Array.length_toList, hn]) (by rw [Array.toArray_toList]; exact h)

/-- A whole element is loaded, in the middle of a block. -/
theorem wpList_loadM (hT : RowT P T n) (hgd : o.guard = none) (x : Operand) (ho : o.op = .load T x) (b off : Nat) (hx : ac.eval x = .pointer (some ⟨b, off, none⟩)) (cs : Array Value) (hr : w.rangeAt b off cs.toList) (hn : cs.size = n)
    (h : wpList P ops Q rest (ac.put o.dst (.agg cs)) w) : wpList P ops Q (o :: rest) ac w :=
  wpList_plain hgd fun _ hK => wp_loadM hT x ho b off hx cs hr hn (hK _ _ h)
theorem wpList_loadMW (hT : RowT P T n) (hw : Region.wanted o (yielded ops ac.tmps) = true) (x : Operand) (ho : o.op = .load T x) (b off : Nat) (hx : ac.eval x = .pointer (some ⟨b, off, none⟩)) (cs : Array Value) (hr : w.rangeAt b off cs.toList) (hn : cs.size = n)
    (h : wpList P ops Q rest (ac.put o.dst (.agg cs)) w) : wpList P ops Q (o :: rest) ac w :=
  wpList_step fun _ hK => by
    rw [if_pos hw]
    exact wp_loadM hT x ho b off hx cs hr hn (hK _ _ h)

theorem wp_putM (hk : EnK enc k) (hT : RowT P T k) (x y : Operand) (ho : o.op = .store T x y) {g : Nat} (hown : OK enc k E B w (some ⟨g, 0, none⟩) n c l) (i : Nat) (hi : i < n) (p : α) (cells : Array Value) (hcs : cells.toList = enc p)
    (hx : ac.eval x = .pointer (some ⟨g, i * k, none⟩)) (hy : ac.eval y = .agg cells) (h1 : cells.all (·.oneCell') = true)
    (h : ∀ w', OK enc k E B w' (some ⟨g, 0, none⟩) n c (l.set i p) → Wr g w w' → w'.heap.size = w.heap.size → K (ac.put o.dst undef) w') : o.wp P ac w K Q := by
  have hs : cells.size = k := by rw [← Array.length_toList, hcs, hk.len]
  refine wp_store_mid T x y ho g (i * k) cells hx hy (by rw [hs]; exact hown.there hk hi) (by rw [hT.size, hs]) h1 ?_
  rw [hcs]
  exact h _ (hown.put hk hi p) (wr_setCells g _ _ _) (sz_setCells g _ _ _)

/-- A whole element is stored, in a row that the call owns. -/
theorem wpList_putM (hk : EnK enc k) (hT : RowT P T k) (hgd : o.guard = none) (x y : Operand) (ho : o.op = .store T x y) {g : Nat} (hown : OK enc k E B w (some ⟨g, 0, none⟩) n c l) (i : Nat) (hi : i < n) (p : α) (cells : Array Value) (hcs : cells.toList = enc p)
    (hx : ac.eval x = .pointer (some ⟨g, i * k, none⟩)) (hy : ac.eval y = .agg cells) (h1 : cells.all (·.oneCell') = true)
    (h : ∀ w', OK enc k E B w' (some ⟨g, 0, none⟩) n c (l.set i p) → Wr g w w' → w'.heap.size = w.heap.size → wpList P ops Q rest (ac.put o.dst undef) w') : wpList P ops Q (o :: rest) ac w :=
  wpList_plain hgd fun _ hK => wp_putM hk hT x y ho hown i hi p cells hcs hx hy h1 fun w' a b c => hK _ _ (h w' a b c)
theorem draw_putM (hk : EnK enc k) (hT : RowT P T k) (hgd : o.guard = none) (x y : Operand) (ho : o.op = .store T x y) {g : Nat} (hown : OK enc k E B w (some ⟨g, 0, none⟩) n c l) (i : Nat) (hi : i < n) (p : α) (cells : Array Value) (hcs : cells.toList = enc p)
    (hx : ac.eval x = .pointer (some ⟨g, i * k, none⟩)) (hy : ac.eval y = .agg cells) (h1 : cells.all (·.oneCell') = true)
    (h : ∀ w', OK enc k E B w' (some ⟨g, 0, none⟩) n c (l.set i p) → Wr g w w' → w'.heap.size = w.heap.size → K (ac.put o.dst undef) w') : if Region.wanted o (yielded ops ac.tmps) = true then Oper.wp P o ac w K Q else K (ac.put o.dst undef) w := by
  rw [if_pos (by simp [Region.wanted, hgd])]
  exact wp_putM hk hT x y ho hown i hi p cells hcs hx hy h1 h

variable {z : Value} {bytes : Nat}
theorem made_flat (hk : EnK enc k) (hp : 0 < k) (zs : Array Value) (z0 : α) (hz : zs.toList = enc z0) (n : Nat) : (madeCells zs (n * k)).toList = (List.replicate n z0).flatMap enc := by
  have hzs : zs.size = k := by rw [← Array.length_toList, hz, hk.len]
  apply List.ext_getElem?
  intro p
  by_cases hlt : p < n * k
  · have hq : p / k < n := (Nat.div_lt_iff_lt_mul hp).2 hlt
    have hm : p % k < k := Nat.mod_lt _ hp
    have he : p / k * k + p % k = p := by rw [Nat.mul_comm]; exact Nat.div_add_mod p k
    obtain ⟨v, hv⟩ : ∃ v, (enc z0)[p % k]? = some v := ⟨_, List.getElem?_eq_getElem (by rw [hk.len]; exact hm)⟩
    have h2 := flat_at hk (List.replicate n z0) (p / k) (p % k) z0 v (by simp [hq]) hv
    rw [he] at h2
    rw [h2]
    unfold madeCells
    rw [← hz] at hv
    have hv' : zs[p % zs.size]? = some v := by rw [hzs]; simpa using hv
    have : (zs[p % zs.size]!) = v := by rw [Array.getElem!_eq_getD, Array.getD_eq_getD_getElem?, hv']; rfl
    simp [hlt, this]
  · rw [List.getElem?_eq_none (by rw [Array.length_toList, size_madeCells]; omega), List.getElem?_eq_none (by rw [flat_len hk, List.length_replicate]; omega)]

theorem run_mkK {P : Program} (hT : ElK P T E k z bytes) (hk : EnK enc k) (z0 : α) (hz : z.cells.toList = enc z0) (w : World) (kl kc : IntKind) (n : Nat) (h63 : n ≤ 1000000) (hby : bytes ≤ 1000) :
    (Instr.makeSlice T (.int kl (n : Int)) (.int kc (n : Int))).run P w = .ok (.slice (some ⟨w.heap.size, 0, none⟩) n n) (w.alloc (.cells (madeCells z.cells (n * k)) E)) ∧
      OK enc k E w.heap.size (w.alloc (.cells (madeCells z.cells (n * k)) E)) (some ⟨w.heap.size, 0, none⟩) n n (List.replicate n z0) := by
  obtain ⟨i, hi, hz0, hz1, hz2⟩ := info_parts hT.info
  have hb2 : ((i.bytes * n : Nat) : Int) ≤ 281474976710656 := by
    have := Nat.mul_le_mul hby h63
    rw [hz2]; omega
  have hr := run_make (P := P) w T E i z hT.und hi hz0 kl kc n n (by omega) (Int.le_refl _) (by rw [Int.natCast_mul] at hb2; exact hb2) (by omega)
  rw [hz1] at hr
  simp only [Int.toNat_natCast] at hr
  exact ⟨hr, ok_of_cells hk (heap_alloc_new w _) (Nat.le_refl _) (by omega) (by simp) (made_flat hk hT.pos _ z0 hz n)⟩

/-- 'make([]T, n)', elements of k cells. -/
theorem wpList_mkK (hT : ElK P T E k z bytes) (hk : EnK enc k) (z0 : α) (hz : z.cells.toList = enc z0) (hgd : o.guard = none) (lo co : Operand) (ho : o.op = Op.makeSlice T lo co) (n : Nat) (L C : Int) (kl kc : IntKind)
    (hl : ac.eval lo = .int kl L) (hc : ac.eval co = .int kc C) (hL : L = (n : Int)) (hC : C = (n : Int)) (h63 : n ≤ 1000000) (hby : bytes ≤ 1000)
    (h : ∀ w', OK enc k E w.heap.size w' (some ⟨w.heap.size, 0, none⟩) n n (List.replicate n z0) → Below w.heap.size w w' → w'.heap.size = w.heap.size + 1 → wpList P ops Q rest (ac.put o.dst (.slice (some ⟨w.heap.size, 0, none⟩) n n)) w') :
    wpList P ops Q (o :: rest) ac w := by
  subst hL
  subst hC
  refine wpList_plain hgd fun K hK' => ?_
  obtain ⟨hr, hok⟩ := run_mkK hT hk z0 hz w kl kc n h63 hby
  unfold Oper.wp
  simp [execOp, ho, hl, hc, hr, Result.andThen]
  exact hK' _ _ (h _ hok ((Below.refl _ _).alloc (Nat.le_refl _) _) (by simp))
end

end Go.Proofs.Ytpnmnffefdjegaa
