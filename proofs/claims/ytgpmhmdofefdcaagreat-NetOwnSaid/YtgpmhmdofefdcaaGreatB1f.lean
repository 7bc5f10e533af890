/-
  More words for all seats: boxes (structs in memory) that lie beside a slice that is appended to: an append turns no block but the slice's own one, and what it lays is new.
  Words and laws for slices of structs (elements of k cells): a slice that reads as a list ('RK'), one that the call itself owns ('OK'), and laws for the walk on cutting, appending to and building such slices.
  Frames, plain and as they lie in memory: for every seat.
  An append to a slice of structs turns no block but the slice's own one: for two rows that grow side by side.
  A box of five cells, and one box behind a call: for every seat.
  Slices of bytes: for every seat.
  Slices of bools: for every seat.
  Words on rows of cells: a struct loaded, stored and handed back whole; an element of a list loaded and stored; a call that writes one block. slices.Clone of bytes.
  Contract: clone.Frame: a frame, its data in memory of its own.
  Laws for regions that draw their order: rows loaded and stored, functions called; loads that are taken first until those that wait for them are through.
  Plain mathematics of layer 1: the bits of numbers and bytes as lists. Nothing of the program is spoken of here.
  Contracts of the statements' own helpers on bits (Same, Anew, Text): each returns what a plain function on lists says.
  Contracts of bits.Of and bits.OfBytes (layer 1): each returns what a plain function on lists says.
-/
import Derived.Test.YtgpmhmdofefdcaaGreatBase
import Derived.BigQuiet
import Derived.Laws.Tables
import Derived.Laws.Rows
import Derived.Laws.CopyOwn
import Derived.Laws.EntriesVeiled
import Derived.Lib.SliceRun
import Derived.Deep.MidRow
import Derived.WalkKit
import Derived.OrdersHeld
import Derived.Deep.Quiet
import Derived.Lib.QuietBelow
import Derived.Test.YtgpmhmdofefdcaaGreatRows
namespace Go.Proofs.YtgpmhmdofefdcaaGreat
open Go.RowKit

/-- The slice at this address does not lie in block k. -/
def NB (a : Option Addr) (k : Nat) : Prop := ∀ q, a = some q → q.block ≠ k

theorem NB.nil (k : Nat) : NB none k := fun q h => by cases h
theorem NB.at {g k : Nat} (h : g ≠ k) : NB (some ⟨g, 0, none⟩) k := fun q hq => by cases hq; exact h
theorem NB.block {g k o : Nat} (h : NB (some ⟨g, o, none⟩) k) : g ≠ k := h _ rfl

/-- A box of two cells: what each holds, and that neither is frozen. -/
theorem bx {w : World} {g : Nat} {E : TypeId} {v0 v1 : Value} (h : w.heap[g]? = some (.cells #[v0, v1] E (0, 0))) :
    w.cell? ⟨g, 0, none⟩ = some v0 ∧ w.cell? ⟨g, 1, none⟩ = some v1 ∧ w.frozen? ⟨g, 0, none⟩ = false ∧ w.frozen? ⟨g, 1, none⟩ = false :=
  ⟨by rw [cell_of_row w g 0 _ _ _ h]; rfl, by rw [cell_of_row w g 1 _ _ _ h]; rfl, frozen_of_row w g 0 _ _ h, frozen_of_row w g 1 _ _ h⟩

theorem heap_size_alloc (w : World) (o : Obj) : (w.alloc o).heap.size = w.heap.size + 1 := by simp

theorem bx_lt {w : World} {g : Nat} {o : Obj} (h : w.heap[g]? = some o) : g < w.heap.size := (Array.getElem?_eq_some_iff.1 h).1

theorem bx_below {w w' : World} {g : Nat} {o : Obj} (h : w.heap[g]? = some o) (hb : Below w.heap.size w w') : w'.heap[g]? = some o := by
  rw [hb.block g (bx_lt h)]; exact h

theorem bx_alloc {w : World} {g : Nat} {o : Obj} (p : Obj) (h : w.heap[g]? = some o) : (w.alloc p).heap[g]? = some o := by
  rw [Below.heap_alloc w p g (bx_lt h)]; exact h

/-- Two boxes that were laid one behind the other, behind a call. -/
theorem two_bx {w w1 : World} {E F : TypeId} {u v : Array Value} (g1 : Below ((w.alloc (.cells u E)).alloc (.cells v F)).heap.size ((w.alloc (.cells u E)).alloc (.cells v F)) w1) :
    w1.heap[w.heap.size]? = some (.cells u E (0, 0)) ∧ w1.heap[w.heap.size + 1]? = some (.cells v F (0, 0)) ∧ Below w.heap.size w w1 := by
  refine ⟨bx_below (bx_alloc _ (heap_alloc_new _ _)) g1, ?_, (bnew (bnew0 w _) _).trans (g1.mono (by simp; omega))⟩
  have := bx_below (heap_alloc_new (w.alloc (.cells u E)) (.cells v F)) g1
  simpa using this

/-- Both cells of a box, stored. -/
theorem bx_set {w : World} {g : Nat} {E : TypeId} {v0 v1 : Value} (u0 u1 : Value) (h : w.heap[g]? = some (.cells #[v0, v1] E (0, 0))) :
    ((w.setCell ⟨g, 0, none⟩ u0).setCell ⟨g, 1, none⟩ u1).heap[g]? = some (.cells #[u0, u1] E (0, 0)) := by
  have h1 := heap_setCell_same w g 0 _ _ u0 h
  exact heap_setCell_same _ g 1 _ _ u1 h1

theorem set_other {w : World} {g k : Nat} (u0 u1 : Value) (h : k ≠ g) : ((w.setCell ⟨g, 0, none⟩ u0).setCell ⟨g, 1, none⟩ u1).heap[k]? = w.heap[k]? := by
  rw [heap_setCell_other _ _ _ _ h, heap_setCell_other _ _ _ _ h]

section
variable {α : Type} {f : α → Value} {E T : TypeId} {z : Value} {bytes : Nat} {B : Nat} {w w' : World} {P : Program} {l m : List α} {n c : Nat} {a : Option Addr}

/-- A row lies in one block. -/
theorem OL.kept (h : OL f E B w a n c l) (hk : ∀ g, a = some ⟨g, 0, none⟩ → w'.heap[g]? = w.heap[g]?) : OL f E B w' a n c l := by
  refine ⟨h.len, h.cap, h.own.1, ?_⟩
  rcases h.own.2 with hn | ⟨g, cap, cur, hv, hB, hg, rest⟩
  · exact .inl hn
  · refine .inr ⟨g, cap, cur, hv, hB, ?_, rest⟩
    simp only [Value.slice.injEq] at hv
    rw [hk g hv.1]; exact hg

theorem OL.drewN (h : OL f E B w a n c l) (q : Nat) : OL f E B (w.drewN q) a n c l := h.kept fun g _ => by simp

/-- A store into another block leaves a row. -/
theorem OL.box (h : OL f E B w a n c l) {g : Nat} (hn : NB a g) (u0 u1 : Value) : OL f E B ((w.setCell ⟨g, 0, none⟩ u0).setCell ⟨g, 1, none⟩ u1) a n c l :=
  h.kept fun k hk => set_other u0 u1 (by subst hk; exact hn.block)

theorem OL.ltB (h : OL f E B w a n c l) {q : Addr} (hq : a = some q) : q.block < w.heap.size ∧ B ≤ q.block := by
  rcases h.ex with ⟨h0, _⟩ | ⟨g, cur, hg, hBg, hh, _⟩
  · rw [h0] at hq; cases hq
  · rw [hg] at hq; cases hq; exact ⟨bx_lt hh, hBg⟩

/-- Where an append's result lies. -/
theorem app_where (hT : ElT P T E z bytes) {ty : TypeId} {ad : Addr} {n2 c2 : Nat} (hown : OL f E B w a n c l) (h0 : 0 < n2) (hlm : m.length = n2) (hnews : ∀ j v, (m.map f)[j]? = some v → w.cell? (ad.add j) = some v)
    (h1 : ∀ u, (f u).oneCell' = true) (h63 : n + n2 ≤ 1000000000) (hby : bytes ≤ 64) {v' : Value} {w' : World}
    (hrun : (Builtin.append_ #[T, T] ty #[.slice a n c, .slice (some ad) n2 c2]).run P w = .ok v' w') : ∃ q N C, v' = .slice (some q) N C ∧ (a = some q ∨ q.block = w.heap.size) := by
  obtain ⟨i, hi, hz0, hz1, hz2⟩ := info_parts hT.info
  have hb64 : (n + n2) * bytes ≤ 140737488355328 := by
    have := Nat.mul_le_mul h63 hby
    omega
  have hlen : (m.map f).length = n2 * i.size := by rw [hz1]; simp [hlm]
  rcases hown.own.2 with ⟨h', hn0⟩ | ⟨g, cap, cur, h', hB, hg, hnc, hcm, hcs, htake⟩
  · simp only [Value.slice.injEq] at h'
    obtain ⟨rfl, rfl, rfl⟩ := h'
    rw [run_append_nil (P := P) w T ty E i z hT.und hi hz0 ad n2 c2 (m.map f) hlen hnews h0 (by omega) (by rw [hz2]; have hb := hb64; simp only [Nat.zero_add] at hb; omega)] at hrun
    injection hrun with e1 e2
    exact ⟨_, _, _, e1.symm, .inr rfl⟩
  · simp only [Value.slice.injEq, true_and] at h'
    obtain ⟨rfl, rfl⟩ := h'
    by_cases hroom : n + n2 ≤ c
    · rw [run_append_room (P := P) w T ty E i hT.und hi g n c cur hg ad n2 c2 (m.map f) hlen hnews (fun u hu => by obtain ⟨y, _, rfl⟩ := List.mem_map.1 hu; exact h1 y) hroom (by
        rw [hlen, hcs, hz1]; omega)] at hrun
      injection hrun with e1 e2
      exact ⟨_, _, _, e1.symm, .inl rfl⟩
    · have holds : ∀ j u, (l.map f)[j]? = some u → w.cell? ((⟨g, 0, none⟩ : Addr).add j) = some u := hown.own.cells (g := g) rfl
      rw [run_append_grow (P := P) w T ty E i z hT.und hi hz0 ⟨g, 0, none⟩ n c (l.map f) (by rw [hz1]; simp [hown.len]) holds ad n2 c2 (m.map f) hlen hnews (by omega) (by omega) (growslice_fits (by omega) (by rw [hz2]; exact hb64))] at hrun
      injection hrun with e1 e2
      exact ⟨_, _, _, e1.symm, .inr rfl⟩

/-- 'append(v, x...)' of at least one element: v of the call's own; no other block is turned, and the result lies in v's or in a new one. -/
theorem wp_appg {o : Oper} {ac : Act} {K : Act → World → Prop} {Q : Exit → Act → World → Prop} (hT : ElT P T E z bytes) (s x : Operand)
    (ho : o.op = .call { callee := .builtin .append, args := #[s, x], argTypes := #[T, T] })
    {a2 : Option Addr} {n2 c2 : Nat} (hs : ac.eval s = .slice a n c) (hown : OL f E B w a n c l) (hx : ac.eval x = .slice a2 n2 c2) (hr : RL f w a2 n2 c2 m) (h0 : 0 < n2)
    (h1 : ∀ u, (f u).oneCell' = true) (h63 : n + n2 ≤ 1000000000) (hby : bytes ≤ 64) (hbase : B ≤ w.heap.size)
    (h : ∀ w' a' c', OL f E B w' a' (n + n2) c' (l ++ m) → Below B w w' → (∀ k, k < w.heap.size → NB a k → w'.heap[k]? = w.heap[k]? ∧ NB a' k) → w.heap.size ≤ w'.heap.size → K (ac.put o.dst (.slice a' (n + n2) c')) w') : o.wp P ac w K Q := by
  obtain ⟨i, hi, hz0, hz1, hz2⟩ := info_parts hT.info
  have hbl : ∀ k, (Value.slice a n c).ownBlock = some k → B ≤ k := fun k hk => (hown.own.lt k hk).1
  obtain ⟨b, off, rfl, hb, hc⟩ := hr.cell h0
  have hnews : ∀ j v, (m.map f)[j]? = some v → w.cell? ((⟨b, off, none⟩ : Addr).add j) = some v := by
    intro j u hu
    rw [List.getElem?_map] at hu
    cases hj : m[j]? with
    | none => rw [hj] at hu; cases hu
    | some y =>
      rw [hj] at hu
      simp only [Option.map_some, Option.some.injEq] at hu
      subst hu
      rw [Addr.add_lit]
      exact hc j y hj
  obtain ⟨v', w', hrun, h2, h3, h4⟩ := run_append_own (P := P) w B T o.type E i z 1 bytes hT.und hi hz0 hz1 hz2 hT.zc (by decide) (.slice a n c) n (l.map f) hown.own ⟨b, off, none⟩ n2 c2 (m.map f) (by simp [hr.len]) hnews
    (fun u hu => by obtain ⟨y, _, rfl⟩ := List.mem_map.1 hu; exact h1 y) (by unfold maxLen; omega) (by have := Nat.mul_le_mul h63 hby; omega) hbase
  obtain ⟨q, N, C, rfl, hq⟩ := app_where hT hown h0 hr.len hnews h1 h63 hby hrun
  obtain ⟨a', c', e', hol⟩ := of_ownsRow (f := f) (l := l ++ m) h2 (by simp)
  simp only [Value.slice.injEq] at e'
  obtain ⟨rfl, rfl, rfl⟩ := e'
  unfold Oper.wp execOp
  simp only [ho, resolve, invoke, builtin, Sem.run_bind, Sem.run_pure, Result.andThen_ok, List.map_toArray, List.map_cons, List.map_nil, hs, hx, hrun]
  refine h w' _ _ hol ((Below.refl B w).grown h3 hbase hbl) (fun k hk hn => ⟨h3.block k hk ?_, ?_⟩) h3.size
  · intro e
    cases a with
    | none => simp [Value.ownBlock] at e
    | some p => simp [Value.ownBlock] at e; exact hn p rfl e.symm
  · intro p hp
    cases hp
    rcases hq with rfl | hq
    · exact hn _ rfl
    · omega

theorem wpList_appg {ops : Array Oper} {rest : List Oper} {o : Oper} {ac : Act} {Q : Exit → Act → World → Prop} (hT : ElT P T E z bytes) (hgd : o.guard = none) (s x : Operand)
    (ho : o.op = .call { callee := .builtin .append, args := #[s, x], argTypes := #[T, T] })
    {a2 : Option Addr} {n2 c2 : Nat} (hs : ac.eval s = .slice a n c) (hown : OL f E B w a n c l) (hx : ac.eval x = .slice a2 n2 c2) (hr : RL f w a2 n2 c2 m) (h0 : 0 < n2)
    (h1 : ∀ u, (f u).oneCell' = true) (h63 : n + n2 ≤ 1000000000) (hby : bytes ≤ 64) (hbase : B ≤ w.heap.size)
    (h : ∀ w' a' c', OL f E B w' a' (n + n2) c' (l ++ m) → Below B w w' → (∀ k, k < w.heap.size → NB a k → w'.heap[k]? = w.heap[k]? ∧ NB a' k) → w.heap.size ≤ w'.heap.size → wpList P ops Q rest (ac.put o.dst (.slice a' (n + n2) c')) w') : wpList P ops Q (o :: rest) ac w :=
  wpList_plain hgd fun _ hK => wp_appg hT s x ho hs hown hx hr h0 h1 h63 hby hbase fun w' a' c' h2 h3 h4 h5 => hK _ _ (h w' a' c' h2 h3 h4 h5)

/-- One element of a row that the call owns, stored anew. -/
theorem OL.set {g i : Nat} (h : OL f E B w (some ⟨g, 0, none⟩) n c l) (x : α) : OL f E B (w.setCell ⟨g, i, none⟩ (f x)) (some ⟨g, 0, none⟩) n c (l.set i x) := by
  refine ⟨by rw [List.length_set]; exact h.len, h.cap, by rw [List.length_map, List.length_set, Nat.mul_one]; exact h.len, ?_⟩
  rcases h.own.2 with ⟨h', _⟩ | ⟨g', cap', cur', h', hB, hg', hnc, hcm, hcs, htake⟩
  · simp at h'
  · simp only [Value.slice.injEq, Option.some.injEq, Addr.mk.injEq, and_true, true_and] at h'
    obtain ⟨rfl, rfl⟩ := h'
    refine .inr ⟨g, c, cur'.setIfInBounds i (f x), rfl, hB, heap_setCell_same w g i cur' _ (f x) hg', hnc, hcm, by simpa using hcs, ?_⟩
    rw [Array.toList_setIfInBounds, List.take_set, htake, List.map_set]

theorem OL.cellAt {g i : Nat} {x : α} (h : OL f E B w (some ⟨g, 0, none⟩) n c l) (hx : l[i]? = some x) : w.cell? ⟨g, i, none⟩ = some (f x) ∧ w.frozen? ⟨g, i, none⟩ = false := by
  have hi : i < n := by rw [← h.len]; exact (List.getElem?_eq_some_iff.1 hx).1
  obtain ⟨b, off, e, _, hc⟩ := h.rl.cell (by omega)
  cases e
  refine ⟨by have := hc i x hx; rwa [Nat.zero_add] at this, ?_⟩
  rcases h.ex with ⟨h0, _⟩ | ⟨g', cur, hg, hBg, hh, hcs⟩
  · cases h0
  simp only [Option.some.injEq, Addr.mk.injEq, and_true] at hg
  subst hg
  exact frozen_of_row w _ i cur _ hh

/-- 'append(v, x...)' behind a guard that lets it by. -/
theorem wpList_appW {ops : Array Oper} {rest : List Oper} {o : Oper} {ac : Act} {Q : Exit → Act → World → Prop} (hT : ElT P T E z bytes) (hw : Region.wanted o (yielded ops ac.tmps) = true) (s x : Operand)
    (ho : o.op = .call { callee := .builtin .append, args := #[s, x], argTypes := #[T, T] })
    {a2 : Option Addr} {n2 c2 : Nat} (hs : ac.eval s = .slice a n c) (hown : OL f E B w a n c l) (hx : ac.eval x = .slice a2 n2 c2) (hr : RL f w a2 n2 c2 m)
    (h1 : ∀ u, (f u).oneCell' = true) (h63 : n + n2 ≤ 1000000000) (hby : bytes ≤ 64) (hbase : B ≤ w.heap.size)
    (h : ∀ w' a' c', OL f E B w' a' (n + n2) c' (l ++ m) → Below B w w' → wpList P ops Q rest (ac.put o.dst (.slice a' (n + n2) c')) w') : wpList P ops Q (o :: rest) ac w :=
  wpList_step fun _ hK => by
    rw [if_pos hw]
    exact wp_app hT s x ho hs hown hx hr h1 h63 hby hbase fun w' a' c' h2 h3 => hK _ _ (h w' a' c' h2 h3)

/-- 'make([]T, 0, n)': an empty row with room for n, of the call's own. -/
theorem wpList_mk0 {ops : Array Oper} {rest : List Oper} {o : Oper} {ac : Act} {Q : Exit → Act → World → Prop} (hT : ElT P T E z bytes)
    (hgd : o.guard = none) (lo co : Operand) (ho : o.op = Op.makeSlice T lo co) (C : Int) (kl kc : IntKind) (hl : ac.eval lo = .int kl 0) (hc : ac.eval co = .int kc C) (hC : C = (n : Int))
    (h63 : n ≤ 1000000000) (hby : bytes ≤ 64)
    (h : ∀ w', OL f E w.heap.size w' (some ⟨w.heap.size, 0, none⟩) 0 n [] → Below w.heap.size w w' → w'.heap.size = w.heap.size + 1 → wpList P ops Q rest (ac.put o.dst (.slice (some ⟨w.heap.size, 0, none⟩) 0 n)) w') :
    wpList P ops Q (o :: rest) ac w := by
  obtain ⟨i, hi, hz0, hz1, hz2⟩ := info_parts hT.info
  subst hC
  refine wpList_plain hgd fun K hK' => ?_
  have hb2 : ((i.bytes * n : Nat) : Int) ≤ 281474976710656 := by
    have := Nat.mul_le_mul hby h63
    rw [hz2]; omega
  have hr := run_make (P := P) w T E i z hT.und hi hz0 kl kc 0 n (by omega) (by omega) (by rw [Int.natCast_mul] at hb2; exact hb2) (by omega)
  unfold Oper.wp
  simp [execOp, ho, hl, hc, hr, Result.andThen]
  have ho := World.ownsRow_made (base := w.heap.size) (e := E) (size := 1) w (madeCells z.cells (n * i.size)) n (Nat.le_refl _) (by unfold maxLen; omega) (by rw [size_madeCells, hz1])
  have hk := h (w.alloc (.cells (madeCells z.cells (n * i.size)) E)) ⟨rfl, Nat.zero_le _, ho⟩ ((Below.refl _ _).alloc (Nat.le_refl _) _) (by simp)
  exact hK' _ _ hk
end
end Go.Proofs.YtgpmhmdofefdcaaGreat

namespace Go.Proofs.YtgpmhmdofefdcaaGreat
open Go.RowKit

/-- What is known of an element type of k cells and of the slices of it. -/
structure ElK (P : Program) (T E : TypeId) (k : Nat) (z : Value) (bytes : Nat) : Prop where
  und : P.underlying T = some (.slice E)
  el : P.elem T = E
  size : P.cellsOf E = k
  info : (P.info? E).map (fun i => (i.zero, i.size, i.bytes)) = some (some z, k, bytes)
  zc : z.cells.size = k
  pos : 0 < k

/-- How an element stands in memory: k cells. -/
structure EnK {α : Type} (enc : α → List Value) (k : Nat) : Prop where
  len : ∀ x, (enc x).length = k
  one : ∀ x, ∀ v ∈ enc x, v.oneCell' = true

section
variable {α : Type} {enc : α → List Value} {k : Nat}

theorem flat_len (hk : EnK enc k) (l : List α) : (l.flatMap enc).length = l.length * k := by
  induction l with
  | nil => simp
  | cons x l ih => rw [List.flatMap_cons, List.length_append, hk.len, ih, List.length_cons, Nat.add_mul]; omega

theorem flat_at (hk : EnK enc k) : ∀ (l : List α) (i j : Nat) (x : α) (v : Value), l[i]? = some x → (enc x)[j]? = some v → (l.flatMap enc)[i * k + j]? = some v
  | [], i, j, x, v, h, _ => by simp at h
  | y :: l, 0, j, x, v, h, hv => by
    simp at h
    subst h
    have hj := (List.getElem?_eq_some_iff.1 hv).1
    rw [List.flatMap_cons, Nat.zero_mul, Nat.zero_add, List.getElem?_append_left hj, hv]
  | y :: l, i + 1, j, x, v, h, hv => by
    simp at h
    rw [List.flatMap_cons, List.getElem?_append_right (by rw [hk.len, Nat.add_mul]; omega), hk.len]
    have e : (i + 1) * k + j - k = i * k + j := by rw [Nat.add_mul]; omega
    rw [e]
    exact flat_at hk l i j x v h hv

theorem flat_back (hk : EnK enc k) : ∀ (l : List α) (p : Nat) (v : Value), (l.flatMap enc)[p]? = some v → ∃ i j x, l[i]? = some x ∧ (enc x)[j]? = some v ∧ p = i * k + j
  | [], p, v, h => by simp at h
  | y :: l, p, v, h => by
    rw [List.flatMap_cons] at h
    by_cases hp : p < (enc y).length
    · rw [List.getElem?_append_left hp] at h
      exact ⟨0, p, y, rfl, h, by omega⟩
    · rw [List.getElem?_append_right (by omega)] at h
      obtain ⟨i, j, x, h1, h2, h3⟩ := flat_back hk l _ v h
      rw [hk.len] at h3 hp
      exact ⟨i + 1, j, x, by simpa using h1, h2, by rw [Nat.add_mul]; omega⟩

theorem flat_one (hk : EnK enc k) (l : List α) : ∀ v ∈ l.flatMap enc, v.oneCell' = true := fun v hv => by
  obtain ⟨x, _, hx⟩ := List.mem_flatMap.1 hv
  exact hk.one x v hx
end

/-- '.slice a n c' reads, at w, as the list l of elements of k cells. -/
structure RK {α : Type} (enc : α → List Value) (k : Nat) (w : World) (a : Option Addr) (n c : Nat) (l : List α) : Prop where
  len : l.length = n
  cap : n ≤ c
  cell : 0 < n → ∃ b off, a = some ⟨b, off, none⟩ ∧ b < w.heap.size ∧ ∀ i x j v, l[i]? = some x → (enc x)[j]? = some v → w.cell? ⟨b, off + (i * k + j), none⟩ = some v

/-- '.slice a n c' is a row of the call's own, from block B on, that reads as l. -/
def OK {α : Type} (enc : α → List Value) (k : Nat) (E : TypeId) (B : Nat) (w : World) (a : Option Addr) (n c : Nat) (l : List α) : Prop :=
  l.length = n ∧ n ≤ c ∧ w.ownsRow B E k (.slice a n c) n (l.flatMap enc)

section
variable {α : Type} {enc : α → List Value} {k : Nat} {E : TypeId} {B : Nat} {w w' : World} {a : Option Addr} {n c : Nat} {l m : List α}

theorem RK.nil (enc : α → List Value) (k : Nat) (w : World) (a : Option Addr) (c : Nat) : RK enc k w a 0 c [] := ⟨rfl, Nat.zero_le _, fun h => absurd h (by omega)⟩

theorem RK.below (h : RK enc k w a n c l) (hb : Below w.heap.size w w') : RK enc k w' a n c l :=
  ⟨h.len, h.cap, fun hn => by
    obtain ⟨b, off, ha, hlt, hc⟩ := h.cell hn
    exact ⟨b, off, ha, Nat.lt_of_lt_of_le hlt hb.size, fun i x j v hx hv => (hb.cell (p := ⟨b, _, none⟩) hlt).trans (hc i x j v hx hv)⟩⟩

theorem RK.drew (h : RK enc k w a n c l) : RK enc k w.drew a n c l := ⟨h.len, h.cap, h.cell⟩

theorem OK.len (h : OK enc k E B w a n c l) : l.length = n := h.1
theorem OK.cap (h : OK enc k E B w a n c l) : n ≤ c := h.2.1
theorem OK.own (h : OK enc k E B w a n c l) : w.ownsRow B E k (.slice a n c) n (l.flatMap enc) := h.2.2

theorem OK.rk (hk : EnK enc k) (h : OK enc k E B w a n c l) : RK enc k w a n c l := by
  refine ⟨h.len, h.cap, fun hn => ?_⟩
  have ho := h.own
  rcases ho.2 with ⟨h', h0⟩ | ⟨g, cap, cur, h', hb, hg, hnc, hcm, hcs, htake⟩
  · omega
  · simp only [Value.slice.injEq, true_and] at h'
    obtain ⟨rfl, rfl⟩ := h'
    refine ⟨g, 0, rfl, (Array.getElem?_eq_some_iff.1 hg).1, fun i x j v hx hv => ?_⟩
    have hi : i < l.length := (List.getElem?_eq_some_iff.1 hx).1
    have hj : j < k := by have := (List.getElem?_eq_some_iff.1 hv).1; rwa [hk.len] at this
    have hlt : i * k + j < n * k := by
      have : (i + 1) * k ≤ n * k := Nat.mul_le_mul_right k (by rw [← h.len]; exact hi)
      rw [Nat.add_mul] at this
      omega
    rw [Nat.zero_add, ho.cellAt _ hlt]
    exact flat_at hk l i j x v hx hv

theorem OK.mono {B' : Nat} (h : OK enc k E B w a n c l) (hB : B' ≤ B) : OK enc k E B' w a n c l := by
  refine ⟨h.len, h.cap, h.own.1, ?_⟩
  rcases h.own.2 with hn | ⟨g, cap, cur, hv, hb, rest⟩
  · exact .inl hn
  · exact .inr ⟨g, cap, cur, hv, Nat.le_trans hB hb, rest⟩

theorem OK.below (h : OK enc k E B w a n c l) (hb : Below w.heap.size w w') : OK enc k E B w' a n c l := by
  refine ⟨h.len, h.cap, h.own.1, ?_⟩
  rcases h.own.2 with hn | ⟨g, cap, cur, hv, hB, hg, rest⟩
  · exact .inl hn
  · exact .inr ⟨g, cap, cur, hv, hB, by rw [hb.block g (Array.getElem?_eq_some_iff.1 hg).1]; exact hg, rest⟩

theorem OK.alloc (h : OK enc k E B w a n c l) (o : Obj) : OK enc k E B (w.alloc o) a n c l := ⟨h.len, h.cap, h.own.alloc o⟩

theorem OK.nil (enc : α → List Value) (k : Nat) (E : TypeId) (B : Nat) (w : World) : OK enc k E B w none 0 0 [] := ⟨rfl, Nat.le_refl _, World.ownsRow_nil _ _ _ _⟩

/-- The address of what is owned: nil, or the head of a block. -/
theorem OK.ex (h : OK enc k E B w a n c l) : (a = none ∧ n = 0 ∧ c = 0 ∧ l = []) ∨ ∃ g cur, a = some ⟨g, 0, none⟩ ∧ B ≤ g ∧ w.heap[g]? = some (.cells cur E (0, 0)) ∧ cur.size = c * k ∧ cur.toList.take (n * k) = l.flatMap enc ∧ c ≤ maxLen := by
  rcases h.own.2 with ⟨h', h0⟩ | ⟨g, cap, cur, h', hb, hg, hnc, hcm, hcs, htake⟩
  · simp only [Value.slice.injEq] at h'
    obtain ⟨rfl, _, rfl⟩ := h'
    subst h0
    exact .inl ⟨rfl, rfl, rfl, List.eq_nil_of_length_eq_zero h.len⟩
  · simp only [Value.slice.injEq, true_and] at h'
    obtain ⟨rfl, rfl⟩ := h'
    exact .inr ⟨g, cur, rfl, hb, hg, hcs, htake, hcm⟩

theorem OK.kept (h : OK enc k E B w a n c l) (hk : ∀ g, a = some ⟨g, 0, none⟩ → w'.heap[g]? = w.heap[g]?) : OK enc k E B w' a n c l := by
  refine ⟨h.len, h.cap, h.own.1, ?_⟩
  rcases h.own.2 with hn | ⟨g, cap, cur, hv, hB, hg, rest⟩
  · exact .inl hn
  · refine .inr ⟨g, cap, cur, hv, hB, ?_, rest⟩
    simp only [Value.slice.injEq] at hv
    rw [hk g hv.1]; exact hg

theorem OK.drewN (h : OK enc k E B w a n c l) (q : Nat) : OK enc k E B (w.drewN q) a n c l := h.kept fun g _ => by simp

theorem OK.ltB (h : OK enc k E B w a n c l) {q : Addr} (hq : a = some q) : q.block < w.heap.size ∧ B ≤ q.block := by
  rcases h.ex with ⟨h0, _⟩ | ⟨g, cur, hg, hBg, hh, _⟩
  · rw [h0] at hq; cases hq
  · rw [hg] at hq; cases hq; exact ⟨(Array.getElem?_eq_some_iff.1 hh).1, hBg⟩

theorem ok_of_ownsRow {v : Value} {xs : List Value} (h : w.ownsRow B E k v n xs) (hx : xs = l.flatMap enc) (hl : l.length = n) : ∃ a c, v = .slice a n c ∧ OK enc k E B w a n c l := by
  subst hx
  rcases h.2 with ⟨rfl, h0⟩ | ⟨g, cap, cur, rfl, hb, hg, hnc, hcm, hcs, htake⟩
  · subst h0
    exact ⟨none, 0, rfl, hl, Nat.le_refl _, h⟩
  · exact ⟨some ⟨g, 0, none⟩, cap, rfl, hl, hnc, h⟩

variable {T : TypeId} {z : Value} {bytes : Nat} {P : Program}

theorem run_len_k (hT : ElK P T E k z bytes) (ty : TypeId) (v : Option Addr) (n c : Nat) (w : World) : (Builtin.len_ #[T] ty #[.slice v n c]).run P w = .ok (goInt n) w :=
  run_len_slice w T ty v n c (by rw [hT.und, hT.el])

/-- 'append(v, x...)', v of the call's own, x whatever reads as a list. -/
theorem wp_appK {o : Oper} {ac : Act} {K : Act → World → Prop} {Q : Exit → Act → World → Prop} (hT : ElK P T E k z bytes) (hk : EnK enc k) (s x : Operand)
    (ho : o.op = .call { callee := .builtin .append, args := #[s, x], argTypes := #[T, T] })
    {a2 : Option Addr} {n2 c2 : Nat} (hs : ac.eval s = .slice a n c) (hown : OK enc k E B w a n c l) (hx : ac.eval x = .slice a2 n2 c2) (hr : RK enc k w a2 n2 c2 m)
    (h63 : n + n2 ≤ 1000000000) (hby : bytes ≤ 64) (hbase : B ≤ w.heap.size)
    (h : ∀ w' a' c', OK enc k E B w' a' (n + n2) c' (l ++ m) → Below B w w' → K (ac.put o.dst (.slice a' (n + n2) c')) w') : o.wp P ac w K Q := by
  obtain ⟨i, hi, hz0, hz1, hz2⟩ := info_parts hT.info
  have hbl : ∀ q, (Value.slice a n c).ownBlock = some q → B ≤ q := fun q hq => (hown.own.lt q hq).1
  by_cases h0 : n2 = 0
  · subst h0
    have hm : m = [] := List.eq_nil_of_length_eq_zero hr.len
    subst hm
    have hrun : (Builtin.append_ #[T, T] o.type #[.slice a n c, .slice a2 0 c2]).run P w = .ok (.slice a n c) w := by
      rcases hown.own.2 with ⟨h', h0⟩ | ⟨g, cap, cur, h', _, _, hnc, _⟩
      · simp only [Value.slice.injEq] at h'
        obtain ⟨rfl, rfl, rfl⟩ := h'
        cases a2 <;> simp [Builtin.append_, run_underlying hT.und, sizeOf, typeInfo, hi, Builtin.lenOf, Builtin.firstCells, loadCells, loadCellsFrom]
      · simp only [Value.slice.injEq, true_and] at h'
        obtain ⟨rfl, rfl⟩ := h'
        cases a2 <;> simp [Builtin.append_, run_underlying hT.und, sizeOf, typeInfo, hi, Builtin.lenOf, Builtin.firstCells, hnc, storeCells, loadCells, loadCellsFrom]
    unfold Oper.wp
    simp [execOp, ho, resolve, invoke, builtin, hs, hx, hrun, Result.andThen]
    show K _ _
    simpa using h w a c (by simpa using hown) (Below.refl _ _)
  · obtain ⟨b, off, rfl, hb, hc⟩ := hr.cell (by omega)
    refine wp_append_own _ s x T ho B E i z k bytes hT.und hi hz0 hz1 hz2 hT.zc hT.pos (.slice a n c) n (l.flatMap enc) hs hown.own ⟨b, off, none⟩ n2 c2 (m.flatMap enc) hx (by rw [flat_len hk, hr.len]) ?_ (flat_one hk m) (by unfold maxLen; omega) ?_ hbase ?_
    · intro j u hu
      obtain ⟨i', j', y, h1, h2, rfl⟩ := flat_back hk m j u hu
      rw [Addr.add_lit]
      exact hc i' y j' u h1 h2
    · have := Nat.mul_le_mul h63 hby
      omega
    · intro v' w' hown' hg _
      obtain ⟨a', c', rfl, hol⟩ := ok_of_ownsRow (enc := enc) (l := l ++ m) hown' (by simp) (by rw [List.length_append, hown.len, hr.len])
      exact h w' a' c' hol ((Below.refl B w).grown hg hbase hbl)

theorem wpList_appK {ops : Array Oper} {rest : List Oper} {o : Oper} {ac : Act} {Q : Exit → Act → World → Prop} (hT : ElK P T E k z bytes) (hk : EnK enc k) (hgd : o.guard = none) (s x : Operand)
    (ho : o.op = .call { callee := .builtin .append, args := #[s, x], argTypes := #[T, T] })
    {a2 : Option Addr} {n2 c2 : Nat} (hs : ac.eval s = .slice a n c) (hown : OK enc k E B w a n c l) (hx : ac.eval x = .slice a2 n2 c2) (hr : RK enc k w a2 n2 c2 m)
    (h63 : n + n2 ≤ 1000000000) (hby : bytes ≤ 64) (hbase : B ≤ w.heap.size)
    (h : ∀ w' a' c', OK enc k E B w' a' (n + n2) c' (l ++ m) → Below B w w' → wpList P ops Q rest (ac.put o.dst (.slice a' (n + n2) c')) w') : wpList P ops Q (o :: rest) ac w :=
  wpList_plain hgd fun _ hK => wp_appK hT hk s x ho hs hown hx hr h63 hby hbase fun w' a' c' h2 h3 => hK _ _ (h w' a' c' h2 h3)

/-- A cut of what reads as a list reads as the part. -/
theorem RK.sliced (hr : RK enc k w a n c l) (lo hi s : Nat) (hs : s = k) (h1 : lo ≤ hi) (h2 : hi ≤ n) :
    ∃ a', Go.sliced a lo hi c s = .slice a' (hi - lo) (c - lo) ∧ RK enc k w a' (hi - lo) (c - lo) ((l.take hi).drop lo) := by
  subst hs
  refine ⟨_, rfl, by simp [hr.len]; omega, by have := hr.cap; omega, fun hp => ?_⟩
  obtain ⟨b, off, rfl, hb, hc⟩ := hr.cell (by omega)
  have hne : ¬ c = lo := by have := hr.cap; omega
  rw [if_neg hne]
  refine ⟨b, off + lo * s, by simp [Addr.add_lit], hb, fun i x j v hx hv => ?_⟩
  rw [List.getElem?_drop, List.getElem?_take] at hx
  split at hx
  · have e : off + lo * s + (i * s + j) = off + ((lo + i) * s + j) := by rw [Nat.add_mul]; omega
    rw [e]; exact hc _ _ _ _ hx hv
  · cases hx

theorem run_sizeOf_k (hT : ElK P T E k z bytes) (w : World) : (sizeOf (P.elem T)).run P w = .ok k w := by
  obtain ⟨i, hi, hz0, hz1, hz2⟩ := info_parts hT.info
  rw [hT.el]
  simp [sizeOf, typeInfo, hi, hz1]

theorem wpList_cutToK {ops : Array Oper} {rest : List Oper} {o : Oper} {ac : Act} {Q : Exit → Act → World → Prop} (hT : ElK P T E k z bytes) (hgd : o.guard = none) (s hi : Operand)
    (ho : o.op = .slice T s none (some hi) none) (kh : IntKind) (H : Int) (h0 : Nat) (hs : ac.eval s = .slice a n c) (hh : ac.eval hi = .int kh H) (hH : H = (h0 : Int))
    (hr : RK enc k w a n c l) (h2 : h0 ≤ n)
    (h : ∀ a', RK enc k w a' h0 c (l.take h0) → wpList P ops Q rest (ac.put o.dst (.slice a' h0 c)) w) : wpList P ops Q (o :: rest) ac w := by
  subst hH
  refine wpList_plain hgd fun K hK => ?_
  obtain ⟨a', he, hr'⟩ := hr.sliced 0 h0 k rfl (Nat.zero_le _) h2
  have hu : P.underlying T = some (.slice (P.elem T)) := by rw [hT.und, hT.el]
  have hrun := run_slice_h (P := P) w T a n c hu kh h0 (by omega) (by have := hr.cap; omega)
  unfold Oper.wp
  simp only [Int.toNat_natCast, run_sizeOf_k hT, Result.andThen] at hrun
  simp [execOp, ho, hs, hh, run_sliceAt_slice w T _ _ _ _ hu, hrun, he, Result.andThen]
  exact hK _ _ (h a' (by simpa using hr'))

theorem wpList_cutFromK {ops : Array Oper} {rest : List Oper} {o : Oper} {ac : Act} {Q : Exit → Act → World → Prop} (hT : ElK P T E k z bytes) (hgd : o.guard = none) (s lo : Operand)
    (ho : o.op = .slice T s (some lo) none none) (kl : IntKind) (L : Int) (l0 : Nat) (hs : ac.eval s = .slice a n c) (hl : ac.eval lo = .int kl L) (hL : L = (l0 : Int))
    (hr : RK enc k w a n c l) (h2 : l0 ≤ n) (N : Nat) (hN : n - l0 = N)
    (h : ∀ a' c', RK enc k w a' N c' (l.drop l0) → wpList P ops Q rest (ac.put o.dst (.slice a' N c')) w) : wpList P ops Q (o :: rest) ac w := by
  subst hL
  subst hN
  refine wpList_plain hgd fun K hK => ?_
  obtain ⟨a', he, hr'⟩ := hr.sliced l0 n k rfl h2 (Nat.le_refl _)
  rw [← hr.len, List.take_length, hr.len] at hr'
  have hu : P.underlying T = some (.slice (P.elem T)) := by rw [hT.und, hT.el]
  have hrun := run_slice_l (P := P) w T a n c hu kl l0 (by omega) (by omega)
  unfold Oper.wp
  simp only [Int.toNat_natCast, run_sizeOf_k hT, Result.andThen] at hrun
  simp [execOp, ho, hs, hl, run_sliceAt_slice w T _ _ _ _ hu, hrun, he, Result.andThen]
  exact hK _ _ (h a' _ hr')

/-- A row of the call's own, by its cells. -/
theorem ok_of_cells (hk : EnK enc k) {g : Nat} {cur : Array Value} (hh : w.heap[g]? = some (.cells cur E (0, 0))) (hB : B ≤ g) (hm : n ≤ 1000000000) (hl : l.length = n) (hcur : cur.toList = l.flatMap enc) : OK enc k E B w (some ⟨g, 0, none⟩) n n l := by
  have hs : cur.size = n * k := by rw [← Array.length_toList, hcur, flat_len hk, hl]
  refine ⟨hl, Nat.le_refl _, by rw [flat_len hk, hl], .inr ⟨g, n, cur, rfl, hB, hh, Nat.le_refl _, by unfold maxLen; omega, hs, ?_⟩⟩
  rw [List.take_of_length_le (by rw [Array.length_toList, hs]; exact Nat.le_refl _), hcur]

theorem ok_lit (hk : EnK enc k) (E : TypeId) (B : Nat) (w : World) (l : List α) (cs : Array Value) (n : Nat) (hcs : cs.toList = l.flatMap enc) (hn : l.length = n) (hm : n ≤ 1000000000) (hB : B ≤ w.heap.size) :
    OK enc k E B (w.alloc (.cells cs E)) (some ⟨w.heap.size, 0, none⟩) n n l :=
  ok_of_cells hk (heap_alloc_new w _) hB hm hn hcs
end
end Go.Proofs.YtgpmhmdofefdcaaGreat

namespace Go.Proofs.YtgpmhmdofefdcaaGreat
open Go.RowKit
set_option linter.unusedVariables false

/-- A frame. -/
structure Fr where
  id : Nat
  ext : Bool
  rem : Bool
  dlc : Nat
  data : List UInt8
  deriving DecidableEq

/-- The cells of a frame. -/
abbrev frV (F : Fr) (a : Option Addr) (k : Nat) : Array Value := #[.int .u32 (F.id : Int), .bool F.ext, .bool F.rem, .int .u8 (F.dlc : Int), .slice a F.data.length k]
/-- A frame as it lies in a list. -/
abbrev Ff := Fr × (Option Addr × Nat)
theorem fr_ones (F : Fr) (a : Option Addr) (k : Nat) : (frV F a k).all (·.oneCell') = true := by kernel_rfl
def enF (p : Ff) : List Value := (frV p.1 p.2.1 p.2.2).toList
theorem enF_k : EnK enF 5 := ⟨fun _ => rfl, fun p v hv => (Array.all_eq_true_iff_forall_mem.1 (fr_ones p.1 p.2.1 p.2.2)) v (by simpa [enF] using hv)⟩

end Go.Proofs.YtgpmhmdofefdcaaGreat

namespace Go.Proofs.YtgpmhmdofefdcaaGreat
open Go.RowKit
set_option linter.unusedVariables false

section
variable {α : Type} {enc : α → List Value} {k : Nat} {E T : TypeId} {z : Value} {bytes : Nat} {B : Nat} {w w' : World} {P : Program} {l m : List α} {n c : Nat} {a : Option Addr}

/-- Where an append's result lies. -/
theorem app_whereK (hT : ElK P T E k z bytes) (hk : EnK enc k) {ty : TypeId} {ad : Addr} {n2 c2 : Nat} (hown : OK enc k E B w a n c l) (h0 : 0 < n2) (hlm : m.length = n2) (hnews : ∀ j v, (m.flatMap enc)[j]? = some v → w.cell? (ad.add j) = some v)
    (h63 : n + n2 ≤ 1000000000) (hby : bytes ≤ 64) {v' : Value} {w' : World}
    (hrun : (Builtin.append_ #[T, T] ty #[.slice a n c, .slice (some ad) n2 c2]).run P w = .ok v' w') : ∃ q N C, v' = .slice (some q) N C ∧ (a = some q ∨ q.block = w.heap.size) := by
  obtain ⟨i, hi, hz0, hz1, hz2⟩ := info_parts hT.info
  have hb64 : (n + n2) * bytes ≤ 140737488355328 := by
    have := Nat.mul_le_mul h63 hby
    omega
  have hlen : (m.flatMap enc).length = n2 * i.size := by rw [hz1, flat_len hk, hlm]
  rcases hown.own.2 with ⟨h', hn0⟩ | ⟨g, cap, cur, h', hB, hg, hnc, hcm, hcs, htake⟩
  · simp only [Value.slice.injEq] at h'
    obtain ⟨rfl, rfl, rfl⟩ := h'
    rw [run_append_nil (P := P) w T ty E i z hT.und hi hz0 ad n2 c2 (m.flatMap enc) hlen hnews h0 (by omega) (by rw [hz2]; have hb := hb64; simp only [Nat.zero_add] at hb; omega)] at hrun
    injection hrun with e1 e2
    exact ⟨_, _, _, e1.symm, .inr rfl⟩
  · simp only [Value.slice.injEq, true_and] at h'
    obtain ⟨rfl, rfl⟩ := h'
    by_cases hroom : n + n2 ≤ c
    · have hle : n * k + n2 * k ≤ c * k := by rw [← Nat.add_mul]; exact Nat.mul_le_mul_right k hroom
      rw [run_append_room (P := P) w T ty E i hT.und hi g n c cur hg ad n2 c2 (m.flatMap enc) hlen hnews (flat_one hk m) hroom (by
        rw [hlen, hcs, hz1]; exact hle)] at hrun
      injection hrun with e1 e2
      exact ⟨_, _, _, e1.symm, .inl rfl⟩
    · have holds : ∀ j u, (l.flatMap enc)[j]? = some u → w.cell? ((⟨g, 0, none⟩ : Addr).add j) = some u := hown.own.cells (g := g) rfl
      rw [run_append_grow (P := P) w T ty E i z hT.und hi hz0 ⟨g, 0, none⟩ n c (l.flatMap enc) (by rw [hz1, flat_len hk, hown.len]) holds ad n2 c2 (m.flatMap enc) hlen hnews (by omega) (by omega) (growslice_fits (by omega) (by rw [hz2]; exact hb64))] at hrun
      injection hrun with e1 e2
      exact ⟨_, _, _, e1.symm, .inr rfl⟩

/-- 'append(v, x...)' of at least one element: v of the call's own; no other block is turned, and the result lies in v's or in a new one. -/
theorem wp_appgK {o : Oper} {ac : Act} {K : Act → World → Prop} {Q : Exit → Act → World → Prop} (hT : ElK P T E k z bytes) (hk : EnK enc k) (s x : Operand)
    (ho : o.op = .call { callee := .builtin .append, args := #[s, x], argTypes := #[T, T] })
    {a2 : Option Addr} {n2 c2 : Nat} (hs : ac.eval s = .slice a n c) (hown : OK enc k E B w a n c l) (hx : ac.eval x = .slice a2 n2 c2) (hr : RK enc k w a2 n2 c2 m) (h0 : 0 < n2)
    (h63 : n + n2 ≤ 1000000000) (hby : bytes ≤ 64) (hbase : B ≤ w.heap.size)
    (h : ∀ w' a' c', OK enc k E B w' a' (n + n2) c' (l ++ m) → Below B w w' → (∀ q, q < w.heap.size → NB a q → w'.heap[q]? = w.heap[q]? ∧ NB a' q) → w.heap.size ≤ w'.heap.size → K (ac.put o.dst (.slice a' (n + n2) c')) w') : o.wp P ac w K Q := by
  obtain ⟨i, hi, hz0, hz1, hz2⟩ := info_parts hT.info
  have hbl : ∀ q, (Value.slice a n c).ownBlock = some q → B ≤ q := fun q hq => (hown.own.lt q hq).1
  obtain ⟨b, off, rfl, hb, hc⟩ := hr.cell h0
  have hnews : ∀ j v, (m.flatMap enc)[j]? = some v → w.cell? ((⟨b, off, none⟩ : Addr).add j) = some v := by
    intro j u hu
    obtain ⟨i', j', y, h1, h2, rfl⟩ := flat_back hk m j u hu
    rw [Addr.add_lit]
    exact hc i' y j' u h1 h2
  obtain ⟨v', w', hrun, h2, h3, h4⟩ := run_append_own (P := P) w B T o.type E i z k bytes hT.und hi hz0 hz1 hz2 hT.zc hT.pos (.slice a n c) n (l.flatMap enc) hown.own ⟨b, off, none⟩ n2 c2 (m.flatMap enc) (by rw [flat_len hk, hr.len]) hnews
    (flat_one hk m) (by unfold maxLen; omega) (by have := Nat.mul_le_mul h63 hby; omega) hbase
  obtain ⟨q, N, C, rfl, hq⟩ := app_whereK hT hk hown h0 hr.len hnews h63 hby hrun
  obtain ⟨a', c', e', hol⟩ := ok_of_ownsRow (enc := enc) (l := l ++ m) h2 (by simp) (by rw [List.length_append, hown.len, hr.len])
  simp only [Value.slice.injEq] at e'
  obtain ⟨rfl, rfl, rfl⟩ := e'
  unfold Oper.wp execOp
  simp only [ho, resolve, invoke, builtin, Sem.run_bind, Sem.run_pure, Result.andThen_ok, List.map_toArray, List.map_cons, List.map_nil, hs, hx, hrun]
  refine h w' _ _ hol ((Below.refl B w).grown h3 hbase hbl) (fun k hk hn => ⟨h3.block k hk ?_, ?_⟩) h3.size
  · intro e
    cases a with
    | none => simp [Value.ownBlock] at e
    | some p => simp [Value.ownBlock] at e; exact hn p rfl e.symm
  · intro p hp
    cases hp
    rcases hq with rfl | hq
    · exact hn _ rfl
    · omega

theorem wpList_appgK {ops : Array Oper} {rest : List Oper} {o : Oper} {ac : Act} {Q : Exit → Act → World → Prop} (hT : ElK P T E k z bytes) (hk : EnK enc k) (hgd : o.guard = none) (s x : Operand)
    (ho : o.op = .call { callee := .builtin .append, args := #[s, x], argTypes := #[T, T] })
    {a2 : Option Addr} {n2 c2 : Nat} (hs : ac.eval s = .slice a n c) (hown : OK enc k E B w a n c l) (hx : ac.eval x = .slice a2 n2 c2) (hr : RK enc k w a2 n2 c2 m) (h0 : 0 < n2)
    (h63 : n + n2 ≤ 1000000000) (hby : bytes ≤ 64) (hbase : B ≤ w.heap.size)
    (h : ∀ w' a' c', OK enc k E B w' a' (n + n2) c' (l ++ m) → Below B w w' → (∀ q, q < w.heap.size → NB a q → w'.heap[q]? = w.heap[q]? ∧ NB a' q) → w.heap.size ≤ w'.heap.size → wpList P ops Q rest (ac.put o.dst (.slice a' (n + n2) c')) w') : wpList P ops Q (o :: rest) ac w :=
  wpList_plain hgd fun _ hK => wp_appgK hT hk s x ho hs hown hx hr h0 h63 hby hbase fun w' a' c' h2 h3 h4 h5 => hK _ _ (h w' a' c' h2 h3 h4 h5)

/-- Two rows of the call's own that grow side by side. -/
structure Two (enc : α → List Value) (k : Nat) (E : TypeId) (w0 w : World) (a1 : Option Addr) (n1 c1 : Nat) (l1 : List α) (a2 : Option Addr) (n2 c2 : Nat) (l2 : List α) : Prop where
  r1 : OK enc k E w0.heap.size w a1 n1 c1 l1
  r2 : OK enc k E w0.heap.size w a2 n2 c2 l2
  dis : ∀ p q, a1 = some p → a2 = some q → p.block ≠ q.block
  bel : Below w0.heap.size w0 w

variable {w0 w2 : World} {a1 a2 a' : Option Addr} {n1 n2 c1 c2 n' c' : Nat} {l1 l2 l' : List α}

theorem Two.start (enc : α → List Value) (k : Nat) (E : TypeId) (w0 : World) : Two enc k E w0 w0 none 0 0 [] none 0 0 [] := ⟨OK.nil _ _ _ _ _, OK.nil _ _ _ _ _, (fun p q hp hq => by cases hp), Below.refl _ _⟩
theorem Two.alloc (h : Two enc k E w0 w a1 n1 c1 l1 a2 n2 c2 l2) (o : Obj) : Two enc k E w0 (w.alloc o) a1 n1 c1 l1 a2 n2 c2 l2 := ⟨h.r1.alloc o, h.r2.alloc o, h.dis, h.bel.alloc h.bel.size o⟩
theorem Two.call (h : Two enc k E w0 w a1 n1 c1 l1 a2 n2 c2 l2) (g : Below w.heap.size w w2) : Two enc k E w0 w2 a1 n1 c1 l1 a2 n2 c2 l2 := ⟨h.r1.below g, h.r2.below g, h.dis, bstep h.bel g⟩
theorem Two.swap (h : Two enc k E w0 w a1 n1 c1 l1 a2 n2 c2 l2) : Two enc k E w0 w a2 n2 c2 l2 a1 n1 c1 l1 := ⟨h.r2, h.r1, fun p q hp hq e => h.dis q p hq hp e.symm, h.bel⟩
theorem Two.sz (h : Two enc k E w0 w a1 n1 c1 l1 a2 n2 c2 l2) : w0.heap.size ≤ w.heap.size := h.bel.size
theorem Two.app (h : Two enc k E w0 w a1 n1 c1 l1 a2 n2 c2 l2) (ho : OK enc k E w0.heap.size w2 a' n' c' l') (g : Below w0.heap.size w w2) (hk : ∀ q, q < w.heap.size → NB a1 q → w2.heap[q]? = w.heap[q]? ∧ NB a' q) : Two enc k E w0 w2 a' n' c' l' a2 n2 c2 l2 := by
  have hnb : ∀ q, a2 = some q → NB a1 q.block := fun q hq p hp e => h.dis p q hp hq e
  refine ⟨ho, h.r2.kept fun b hb => ?_, fun p q hp hq => ?_, h.bel.trans g⟩
  · have hl := h.r2.ltB hb
    exact (hk b hl.1 (hnb _ hb)).1
  · have hl := h.r2.ltB hq
    exact (hk q.block hl.1 (hnb _ hq)).2 p hp
/-- A block that is newer than a row lies apart from it. -/
theorem Two.nb (h : Two enc k E w0 w a1 n1 c1 l1 a2 n2 c2 l2) {q : Nat} (hq : w.heap.size ≤ q) : NB a1 q := fun p hp e => by
  have := (h.r1.ltB hp).1
  omega
end
end Go.Proofs.YtgpmhmdofefdcaaGreat

namespace Go.Proofs.YtgpmhmdofefdcaaGreat
open Go.RowKit
set_option linter.unusedVariables false

/-- A box of five cells. -/
theorem bx5 {w : World} {g : Nat} {E : TypeId} {v0 v1 v2 v3 v4 : Value} (h : w.heap[g]? = some (.cells #[v0, v1, v2, v3, v4] E (0, 0))) :
    w.cell? ⟨g, 0, none⟩ = some v0 ∧ w.cell? ⟨g, 1, none⟩ = some v1 ∧ w.cell? ⟨g, 2, none⟩ = some v2 ∧ w.cell? ⟨g, 3, none⟩ = some v3 ∧ w.cell? ⟨g, 4, none⟩ = some v4 :=
  ⟨by rw [cell_of_row w g 0 _ _ _ h]; rfl, by rw [cell_of_row w g 1 _ _ _ h]; rfl, by rw [cell_of_row w g 2 _ _ _ h]; rfl, by rw [cell_of_row w g 3 _ _ _ h]; rfl, by rw [cell_of_row w g 4 _ _ _ h]; rfl⟩

theorem bx_thaw {w : World} {g : Nat} {E : TypeId} {vs : Array Value} (h : w.heap[g]? = some (.cells vs E (0, 0))) (i : Nat) : w.frozen? ⟨g, i, none⟩ = false := frozen_of_row w g i _ _ h

theorem one_bx {w w1 : World} {E : TypeId} {u : Array Value} (g1 : Below (w.alloc (.cells u E)).heap.size (w.alloc (.cells u E)) w1) : w1.heap[w.heap.size]? = some (.cells u E (0, 0)) ∧ Below w.heap.size w w1 ∧ w.heap.size + 1 ≤ w1.heap.size :=
  ⟨bx_below (heap_alloc_new _ _) g1, (bnew0 w _).trans (g1.mono (by simp)), by have := g1.size; rw [heap_size_alloc] at this; exact this⟩
end Go.Proofs.YtgpmhmdofefdcaaGreat

namespace Go.Proofs.YtgpmhmdofefdcaaGreat
open Go.RowKit

theorem tY : ElT Tryz.prog 24 5 (.int .u8 0) 1 := ⟨by kernel_rfl, by kernel_rfl, by kernel_rfl, by kernel_rfl, by kernel_rfl⟩
end Go.Proofs.YtgpmhmdofefdcaaGreat

namespace Go.Proofs.YtgpmhmdofefdcaaGreat
open Go.RowKit

theorem tB : ElT Tryz.prog 29 4 (.bool false) 1 := ⟨by kernel_rfl, by kernel_rfl, by kernel_rfl, by kernel_rfl, by kernel_rfl⟩
end Go.Proofs.YtgpmhmdofefdcaaGreat

namespace Go.Proofs.YtgpmhmdofefdcaaGreat
open Go.RowKit
set_option linter.unusedVariables false

/-- What is there is kept but for the block g, and nothing else happens. -/
structure Wr (g : Nat) (w w' : World) : Prop where
  os : w'.os = w.os
  tape : w'.tape = w.tape
  output : w'.output = w.output
  size : w.heap.size ≤ w'.heap.size
  block : ∀ k, k < w.heap.size → k ≠ g → w'.heap[k]? = w.heap[k]?

section
variable {g : Nat} {w w0 w1 w2 : World}

theorem sz_set (w : World) (a : Addr) (v : Value) : (w.setCell a v).heap.size = w.heap.size := by simp [World.setCell]
theorem Wr.refl (g : Nat) (w : World) : Wr g w w := ⟨rfl, rfl, rfl, Nat.le_refl _, fun _ _ _ => rfl⟩
theorem Wr.trans (h : Wr g w w1) (k : Wr g w1 w2) : Wr g w w2 :=
  ⟨k.os.trans h.os, k.tape.trans h.tape, k.output.trans h.output, Nat.le_trans h.size k.size, fun i hi hg => (k.block i (Nat.lt_of_lt_of_le hi h.size) hg).trans (h.block i hi hg)⟩
theorem Wr.call (h : Wr g w w1) (k : Below w1.heap.size w1 w2) : Wr g w w2 :=
  h.trans ⟨k.os, k.tape, k.output, k.size, fun i hi _ => k.block i hi⟩
theorem Wr.alloc (h : Wr g w w1) (o : Obj) : Wr g w (w1.alloc o) := h.call (bnew0 w1 o)
/-- A store into the block, or into one that was laid since. -/
theorem Wr.setCell (h : Wr g w w1) {p : Addr} (hp : p.block = g ∨ w.heap.size ≤ p.block) (u : Value) : Wr g w (w1.setCell p u) :=
  ⟨h.os, h.tape, h.output, by simpa [World.setCell] using h.size, fun k hk hg => by
    rw [Below.heap_setCell _ _ _ _ (by rcases hp with e | e <;> omega)]
    exact h.block k hk hg⟩
theorem Wr.setRow (h : Wr g w w1) {p : Nat} (hp : p = g ∨ w.heap.size ≤ p) (cs : Array Value) : Wr g w (w1.setRow p cs) :=
  ⟨h.os, h.tape, h.output, by simpa using h.size, fun k hk hg => by
    rw [setRow_other _ _ _ _ (by rcases hp with e | e <;> omega)]
    exact h.block k hk hg⟩
theorem Wr.drew (h : Wr g w w1) : Wr g w w1.drew := ⟨h.os, h.tape, h.output, h.size, h.block⟩
/-- Behind a method that writes a block of the call's own. -/
theorem Wr.below {B : Nat} (k : Wr g w w1) (h : Below B w0 w) (hB : B ≤ g) (hg : g < w.heap.size) : Below B w0 w1 :=
  h.trans ⟨k.os, k.tape, k.output, k.size, fun i hi => k.block i (by omega) (by omega)⟩
end

/-- A box of six cells. -/
theorem bx6 {w : World} {g : Nat} {E : TypeId} {v0 v1 v2 v3 v4 v5 : Value} (h : w.heap[g]? = some (.cells #[v0, v1, v2, v3, v4, v5] E (0, 0))) :
    w.cell? ⟨g, 0, none⟩ = some v0 ∧ w.cell? ⟨g, 1, none⟩ = some v1 ∧ w.cell? ⟨g, 2, none⟩ = some v2 ∧ w.cell? ⟨g, 3, none⟩ = some v3 ∧ w.cell? ⟨g, 4, none⟩ = some v4 ∧ w.cell? ⟨g, 5, none⟩ = some v5 :=
  ⟨by rw [cell_of_row w g 0 _ _ _ h]; rfl, by rw [cell_of_row w g 1 _ _ _ h]; rfl, by rw [cell_of_row w g 2 _ _ _ h]; rfl, by rw [cell_of_row w g 3 _ _ _ h]; rfl, by rw [cell_of_row w g 4 _ _ _ h]; rfl, by rw [cell_of_row w g 5 _ _ _ h]; rfl⟩

/-- A type whose values are rows of so many cells. -/
structure RowT (P : Program) (T : TypeId) (n : Nat) : Prop where
  und : ∃ d, P.underlying T = some d ∧ (match d with | .struct _ | .array _ _ => true | _ => false) = true
  size : (P.info? T).map (·.size) = some n

theorem rowT_of {P : Program} {T : TypeId} {n : Nat} (h : (P.underlying T).any (fun d => match d with | .struct _ | .array _ _ => true | _ => false) = true) (hs : (P.info? T).map (·.size) = some n) : RowT P T n := by
  refine ⟨?_, hs⟩
  cases hh : P.underlying T with
  | none => rw [hh] at h; simp at h
  | some d => rw [hh] at h; exact ⟨d, rfl, by simpa using h⟩

theorem rowF : RowT Tryz.prog 26 5 := rowT_of (by kernel_rfl) (by kernel_rfl)

section
variable {P : Program} {ops : Array Oper} {rest : List Oper} {o : Oper} {a : Act} {w : World} {Q : Exit → Act → World → Prop} {T : TypeId} {n : Nat}

theorem wpList_loadR (hT : RowT P T n) (hgd : o.guard = none) (x : Operand) (ho : o.op = .load T x)
    (g : Nat) (hx : a.eval x = .pointer (some ⟨g, 0, none⟩)) {t : TypeId} {cs : Array Value} {fr : Nat × Nat} (hg : w.heap[g]? = some (.cells cs t fr)) (hn : cs.size = n)
    (h : wpList P ops Q rest (a.put o.dst (.agg cs)) w) : wpList P ops Q (o :: rest) a w := by
  obtain ⟨d, hu, hd⟩ := hT.und
  exact wpList_load_row hgd T x ho g hx t cs fr d hg hu (by cases d <;> simp_all) (by rw [hT.size, hn]) h

/-- .. behind a guard. -/
theorem wpList_loadW (hT : RowT P T n) (hw : Region.wanted o (yielded ops a.tmps) = true) (x : Operand) (ho : o.op = .load T x)
    (g : Nat) (hx : a.eval x = .pointer (some ⟨g, 0, none⟩)) {t : TypeId} {cs : Array Value} {fr : Nat × Nat} (hg : w.heap[g]? = some (.cells cs t fr)) (hn : cs.size = n)
    (h : wpList P ops Q rest (a.put o.dst (.agg cs)) w) : wpList P ops Q (o :: rest) a w := by
  obtain ⟨d, hu, hd⟩ := hT.und
  exact wpList_step fun _ hK => by
    rw [if_pos hw]
    exact wp_load_row T x ho g hx t cs fr d hg hu (by cases d <;> simp_all) (by rw [hT.size, hn]) (hK _ _ h)

theorem wpList_storeR (hT : RowT P T n) (hgd : o.guard = none) (x y : Operand) (ho : o.op = .store T x y)
    (g : Nat) (cells : Array Value) (hx : a.eval x = .pointer (some ⟨g, 0, none⟩)) (hy : a.eval y = .agg cells)
    {t : TypeId} {old : Array Value} (hg : w.heap[g]? = some (.cells old t (0, 0))) (hn : cells.size = n) (hold : old.size = n) (h1 : cells.all (·.oneCell') = true)
    (h : wpList P ops Q rest (a.put o.dst undef) (w.setRow g cells)) : wpList P ops Q (o :: rest) a w :=
  wpList_store_row hgd T x y ho g cells hx hy t old hg (by rw [hT.size, hn]) (by omega) h1 h

theorem results_row (hT : RowT P T n) {fn : Func} {p : Tmp} (h : fn.results = #[.cell p T]) (tmps : Array Value) (w : World) (g : Nat) {t : TypeId} {cs : Array Value} {fr : Nat × Nat}
    (hp : tmps.getD p undef = .pointer (some ⟨g, 0, none⟩)) (hg : w.heap[g]? = some (.cells cs t fr)) (hn : cs.size = n) : (results fn tmps).run P w = .ok (.agg cs) w := by
  obtain ⟨d, hu, hd⟩ := hT.und
  exact results_cell_row h tmps w g t cs fr d hp hg hu (by cases d <;> simp_all) (by rw [hT.size, hn])
end

section
variable {P : Program} {ops : Array Oper} {o : Oper} {a : Act} {w : World} {K : Act → World → Prop} {Q : Exit → Act → World → Prop} {T U : TypeId} {n m : Nat}

/-- A row loaded, and one stored, in a region that draws its order. -/
theorem draw_loadR (hT : RowT P T n) (hgd : o.guard = none) (x : Operand) (ho : o.op = .load T x)
    (g : Nat) (hx : a.eval x = .pointer (some ⟨g, 0, none⟩)) {t : TypeId} {cs : Array Value} {fr : Nat × Nat} (hg : w.heap[g]? = some (.cells cs t fr)) (hn : cs.size = n)
    (h : K (a.put o.dst (.agg cs)) w) : if Region.wanted o (yielded ops a.tmps) = true then Oper.wp P o a w K Q else K (a.put o.dst undef) w := by
  obtain ⟨d, hu, hd⟩ := hT.und
  rw [if_pos (by simp [Region.wanted, hgd])]
  exact wp_load_row T x ho g hx t cs fr d hg hu (by cases d <;> simp_all) (by rw [hT.size, hn]) h
theorem draw_storeR (hT : RowT P T n) (hgd : o.guard = none) (x y : Operand) (ho : o.op = .store T x y)
    (g : Nat) (cells : Array Value) (hx : a.eval x = .pointer (some ⟨g, 0, none⟩)) (hy : a.eval y = .agg cells)
    {t : TypeId} {old : Array Value} (hg : w.heap[g]? = some (.cells old t (0, 0))) (hn : cells.size = n) (hold : old.size = n) (h1 : cells.all (·.oneCell') = true)
    (h : K (a.put o.dst undef) (w.setRow g cells)) : if Region.wanted o (yielded ops a.tmps) = true then Oper.wp P o a w K Q else K (a.put o.dst undef) w := by
  rw [if_pos (by simp [Region.wanted, hgd])]
  exact wp_store_row T x y ho g cells hx hy t old hg (by rw [hT.size, hn]) (by omega) h1 h

theorem results_row2 (hT : RowT P T n) (hU : RowT P U m) {fn : Func} {p q : Tmp} (h : fn.results = #[.cell p T, .cell q U]) (tmps : Array Value) (w : World) (g k : Nat) {t u : TypeId} {cs ds : Array Value} {fr fs : Nat × Nat}
    (hp : tmps.getD p undef = .pointer (some ⟨g, 0, none⟩)) (hq : tmps.getD q undef = .pointer (some ⟨k, 0, none⟩)) (hg : w.heap[g]? = some (.cells cs t fr)) (hk : w.heap[k]? = some (.cells ds u fs)) (hn : cs.size = n) (hm : ds.size = m) :
    (results fn tmps).run P w = .ok (.tuple #[.agg cs, .agg ds]) w := by
  obtain ⟨d, hu, hd⟩ := hT.und
  obtain ⟨d2, hu2, hd2⟩ := hU.und
  have hp' : tmps[p]?.getD undef = .pointer (some ⟨g, 0, none⟩) := by simpa using hp
  have hq' : tmps[q]?.getD undef = .pointer (some ⟨k, 0, none⟩) := by simpa using hq
  have e1 := run_loadVar_row (P := P) w g t T cs fr d hg hu (by cases d <;> simp_all) (by rw [hT.size, hn])
  have e2 := run_loadVar_row (P := P) w k u U ds fs d2 hk hu2 (by cases d2 <;> simp_all) (by rw [hU.size, hm])
  simp [results, h, hp', hq', asAddr, e1, e2]

theorem results_row1 (hT : RowT P T n) {fn : Func} {p q : Tmp} (h : fn.results = #[.cell p T, .tmp q]) (tmps : Array Value) (w : World) (g : Nat) {t : TypeId} {cs : Array Value} {fr : Nat × Nat} {v : Value}
    (hp : tmps.getD p undef = .pointer (some ⟨g, 0, none⟩)) (hq : tmps.getD q undef = v) (hg : w.heap[g]? = some (.cells cs t fr)) (hn : cs.size = n) :
    (results fn tmps).run P w = .ok (.tuple #[.agg cs, v]) w := by
  obtain ⟨d, hu, hd⟩ := hT.und
  have hp' : tmps[p]?.getD undef = .pointer (some ⟨g, 0, none⟩) := by simpa using hp
  have hq' : tmps[q]?.getD undef = v := by simpa using hq
  have e1 := run_loadVar_row (P := P) w g t T cs fr d hg hu (by cases d <;> simp_all) (by rw [hT.size, hn])
  simp [results, h, hp', hq', asAddr, e1]
end

section
variable {α : Type} {enc : α → List Value} {k : Nat} {E : TypeId} {B : Nat} {w w' : World} {a : Option Addr} {n c : Nat} {l : List α}

theorem flat_set (hk : EnK enc k) (l : List α) (i : Nat) (hi : i < l.length) (x : α) : (l.set i x).flatMap enc = (l.flatMap enc).take (i * k) ++ enc x ++ (l.flatMap enc).drop (i * k + k) := by
  have e : l.flatMap enc = (l.take i).flatMap enc ++ (enc l[i] ++ (l.drop (i + 1)).flatMap enc) := by
    conv => lhs; rw [← List.take_append_drop i l, List.drop_eq_getElem_cons hi]
    rw [List.flatMap_append, List.flatMap_cons]
  have h1 : ((l.take i).flatMap enc).length = i * k := by rw [flat_len hk, List.length_take, Nat.min_eq_left (by omega)]
  have h2 := hk.len l[i]
  rw [List.set_eq_take_append_cons_drop, if_pos hi, List.flatMap_append, List.flatMap_cons, e]
  rw [List.take_left' h1, ← List.append_assoc (List.flatMap enc (List.take i l)) (enc l[i]), List.drop_left' (by rw [List.length_append, h1, h2]), List.append_assoc]

theorem take_splice {β : Type} (L V : List β) (o m : Nat) (h : o + V.length ≤ m) (hm : m ≤ L.length) : (L.take o ++ V ++ L.drop (o + V.length)).take m = (L.take m).take o ++ V ++ (L.take m).drop (o + V.length) := by
  apply List.ext_getElem?
  intro j
  simp only [List.getElem?_take, List.getElem?_append, List.getElem?_drop, List.length_append, List.length_take, Nat.min_eq_left (show o ≤ L.length by omega), Nat.min_eq_left hm, Nat.min_eq_left (show o ≤ m by omega)]
  by_cases h1 : j < o
  · simp [h1, show j < m by omega, show j < o + V.length by omega]
  · by_cases h2 : j < o + V.length
    · simp [h1, h2, show j < m by omega]
    · have e : o + V.length + (j - (o + V.length)) = j := by omega
      simp [h2, e]

/-- Cells written one behind the other. -/
def wrC (cur : Array Value) : Nat → List Value → Array Value
  | _, [] => cur
  | o, v :: r => wrC (cur.setIfInBounds o v) (o + 1) r

theorem wrC_size : ∀ (vs : List Value) (cur : Array Value) (o : Nat), (wrC cur o vs).size = cur.size
  | [], _, _ => rfl
  | v :: r, cur, o => by rw [wrC, wrC_size r]; simp

theorem wrC_list : ∀ (vs : List Value) (cur : Array Value) (o : Nat), o + vs.length ≤ cur.size → (wrC cur o vs).toList = cur.toList.take o ++ vs ++ cur.toList.drop (o + vs.length)
  | [], cur, o, h => by simp [wrC]
  | v :: r, cur, o, h => by
    have ho : o < cur.size := by simp at h; omega
    rw [wrC, wrC_list r _ _ (by simp at h ⊢; omega)]
    rw [Array.toList_setIfInBounds, List.take_succ_eq_append_getElem (by simpa using ho), List.take_set_of_le (Nat.le_refl _), List.drop_set_of_lt (by omega)]
    simp [Nat.add_assoc, Nat.add_comm 1]

theorem heap_setCells_same (b : Nat) (t : TypeId) : ∀ (vs : List Value) (o : Nat) (w : World) (cur : Array Value), w.heap[b]? = some (.cells cur t (0, 0)) → (w.setCells b o vs).heap[b]? = some (.cells (wrC cur o vs) t (0, 0))
  | [], _, _, _, h => h
  | v :: r, o, w, cur, h => heap_setCells_same b t r (o + 1) _ _ (heap_setCell_same w b o _ _ v h)

theorem wr_setCells (b : Nat) : ∀ (vs : List Value) (o : Nat) (w : World), Wr b w (w.setCells b o vs)
  | [], _, w => Wr.refl b w
  | v :: r, o, w => by
    have h1 : Wr b w (w.setCell ⟨b, o, none⟩ v) := (Wr.refl b w).setCell (.inl rfl) v
    exact h1.trans (wr_setCells b r (o + 1) _)

/-- An element's cells, as a range. -/
theorem RK.range (h : RK enc k w a n c l) {i : Nat} {x : α} (hx : l[i]? = some x) : ∃ b off, a = some ⟨b, off, none⟩ ∧ b < w.heap.size ∧ w.rangeAt b (off + i * k) (enc x) := by
  have hi : i < l.length := (List.getElem?_eq_some_iff.1 hx).1
  obtain ⟨b, off, ha, hb, hc⟩ := h.cell (by rw [← h.len]; omega)
  exact ⟨b, off, ha, hb, fun j v hv => by rw [Nat.add_assoc]; exact hc i x j v hx hv⟩

theorem OK.addr (h : OK enc k E B w a n c l) (hn : 0 < n) : ∃ g, a = some ⟨g, 0, none⟩ ∧ B ≤ g ∧ g < w.heap.size := by
  rcases h.ex with ⟨_, h0, _⟩ | ⟨g, cur, h1, h2, h3, _⟩
  · omega
  · exact ⟨g, h1, h2, bx_lt h3⟩

theorem OK.range (hk : EnK enc k) {g : Nat} (h : OK enc k E B w (some ⟨g, 0, none⟩) n c l) {i : Nat} {x : α} (hx : l[i]? = some x) : w.rangeAt g (i * k) (enc x) := by
  obtain ⟨b, off, e, _, hr⟩ := (h.rk hk).range hx
  cases e
  rwa [Nat.zero_add] at hr

theorem OK.there (hk : EnK enc k) {g : Nat} (h : OK enc k E B w (some ⟨g, 0, none⟩) n c l) {i : Nat} (hi : i < n) : w.there g (i * k) k := by
  rcases h.ex with ⟨h0, _⟩ | ⟨g', cur, h1, h2, h3, h4, h5, h6⟩
  · cases h0
  · cases h1
    intro j hj
    have hb : i * k + j < cur.size := by
      have : (i + 1) * k ≤ c * k := Nat.mul_le_mul_right k (by have := h.cap; omega)
      rw [Nat.add_mul] at this
      omega
    exact ⟨by rw [cell_of_row w g _ _ _ _ h3]; simp [hb], bx_thaw h3 _⟩

/-- An element written anew. -/
theorem OK.put (hk : EnK enc k) {g : Nat} (h : OK enc k E B w (some ⟨g, 0, none⟩) n c l) {i : Nat} (hi : i < n) (x : α) : OK enc k E B (w.setCells g (i * k) (enc x)) (some ⟨g, 0, none⟩) n c (l.set i x) := by
  rcases h.ex with ⟨h0, _⟩ | ⟨g', cur, h1, h2, h3, h4, h5, h6⟩
  · cases h0
  · cases h1
    have hnk : (i + 1) * k ≤ n * k := Nat.mul_le_mul_right k (by omega)
    have hck : n * k ≤ c * k := Nat.mul_le_mul_right k h.cap
    rw [Nat.add_mul] at hnk
    have hle := hk.len x
    refine ⟨by rw [List.length_set]; exact h.len, h.cap, by rw [flat_len hk, List.length_set, h.len], .inr ⟨g, c, _, rfl, h2, heap_setCells_same g E _ _ _ _ h3, h.cap, h6, by rw [wrC_size]; exact h4, ?_⟩⟩
    rw [wrC_list _ _ _ (by rw [hle, h4]; omega), flat_set hk l i (by rw [h.len]; exact hi) x, ← h5, hle]
    have hl : cur.toList.length = c * k := by rw [Array.length_toList, h4]
    have := take_splice cur.toList (enc x) (i * k) (n * k) (by rw [hle]; omega) (by rw [hl]; exact hck)
    rw [hle] at this
    exact this
end

theorem sz_setCells (b : Nat) : ∀ (vs : List Value) (o : Nat) (w : World), (w.setCells b o vs).heap.size = w.heap.size
  | [], _, _ => rfl
  | v :: r, o, w => by rw [World.setCells, sz_setCells b r]; exact sz_set w _ v

section
variable {P : Program} {ops : Array Oper} {rest : List Oper} {o : Oper} {ac : Act} {w : World} {K : Act → World → Prop} {Q : Exit → Act → World → Prop} {T E : TypeId} {n : Nat}
variable {α : Type} {enc : α → List Value} {k B c : Nat} {l : List α}

theorem wp_loadM (hT : RowT P T n) (x : Operand) (ho : o.op = .load T x) (b off : Nat) (hx : ac.eval x = .pointer (some ⟨b, off, none⟩)) (cs : Array Value) (hr : w.rangeAt b off cs.toList) (hn : cs.size = n)
    (h : K (ac.put o.dst (.agg cs)) w) : o.wp P ac w K Q := by
  obtain ⟨d, hu, hd⟩ := hT.und
  exact wp_load_mid T x ho b off hx cs.toList d hr hu (by cases d <;> simp_all) (by rw [hT.size, Array.length_toList, hn]) (by rw [Array.toArray_toList]; exact h)

/-- A whole element is loaded, in the middle of a block. -/
theorem wpList_loadM (hT : RowT P T n) (hgd : o.guard = none) (x : Operand) (ho : o.op = .load T x) (b off : Nat) (hx : ac.eval x = .pointer (some ⟨b, off, none⟩)) (cs : Array Value) (hr : w.rangeAt b off cs.toList) (hn : cs.size = n)
    (h : wpList P ops Q rest (ac.put o.dst (.agg cs)) w) : wpList P ops Q (o :: rest) ac w :=
  wpList_plain hgd fun _ hK => wp_loadM hT x ho b off hx cs hr hn (hK _ _ h)
theorem wpList_loadMW (hT : RowT P T n) (hw : Region.wanted o (yielded ops ac.tmps) = true) (x : Operand) (ho : o.op = .load T x) (b off : Nat) (hx : ac.eval x = .pointer (some ⟨b, off, none⟩)) (cs : Array Value) (hr : w.rangeAt b off cs.toList) (hn : cs.size = n)
    (h : wpList P ops Q rest (ac.put o.dst (.agg cs)) w) : wpList P ops Q (o :: rest) ac w :=
  wpList_step fun _ hK => by
    rw [if_pos hw]
    exact wp_loadM hT x ho b off hx cs hr hn (hK _ _ h)

theorem wp_putM (hk : EnK enc k) (hT : RowT P T k) (x y : Operand) (ho : o.op = .store T x y) {g : Nat} (hown : OK enc k E B w (some ⟨g, 0, none⟩) n c l) (i : Nat) (hi : i < n) (p : α) (cells : Array Value) (hcs : cells.toList = enc p)
    (hx : ac.eval x = .pointer (some ⟨g, i * k, none⟩)) (hy : ac.eval y = .agg cells) (h1 : cells.all (·.oneCell') = true)
    (h : ∀ w', OK enc k E B w' (some ⟨g, 0, none⟩) n c (l.set i p) → Wr g w w' → w'.heap.size = w.heap.size → K (ac.put o.dst undef) w') : o.wp P ac w K Q := by
  have hs : cells.size = k := by rw [← Array.length_toList, hcs, hk.len]
  refine wp_store_mid T x y ho g (i * k) cells hx hy (by rw [hs]; exact hown.there hk hi) (by rw [hT.size, hs]) h1 ?_
  rw [hcs]
  exact h _ (hown.put hk hi p) (wr_setCells g _ _ _) (sz_setCells g _ _ _)

/-- A whole element is stored, in a row that the call owns. -/
theorem wpList_putM (hk : EnK enc k) (hT : RowT P T k) (hgd : o.guard = none) (x y : Operand) (ho : o.op = .store T x y) {g : Nat} (hown : OK enc k E B w (some ⟨g, 0, none⟩) n c l) (i : Nat) (hi : i < n) (p : α) (cells : Array Value) (hcs : cells.toList = enc p)
    (hx : ac.eval x = .pointer (some ⟨g, i * k, none⟩)) (hy : ac.eval y = .agg cells) (h1 : cells.all (·.oneCell') = true)
    (h : ∀ w', OK enc k E B w' (some ⟨g, 0, none⟩) n c (l.set i p) → Wr g w w' → w'.heap.size = w.heap.size → wpList P ops Q rest (ac.put o.dst undef) w') : wpList P ops Q (o :: rest) ac w :=
  wpList_plain hgd fun _ hK => wp_putM hk hT x y ho hown i hi p cells hcs hx hy h1 fun w' a b c => hK _ _ (h w' a b c)
theorem draw_putM (hk : EnK enc k) (hT : RowT P T k) (hgd : o.guard = none) (x y : Operand) (ho : o.op = .store T x y) {g : Nat} (hown : OK enc k E B w (some ⟨g, 0, none⟩) n c l) (i : Nat) (hi : i < n) (p : α) (cells : Array Value) (hcs : cells.toList = enc p)
    (hx : ac.eval x = .pointer (some ⟨g, i * k, none⟩)) (hy : ac.eval y = .agg cells) (h1 : cells.all (·.oneCell') = true)
    (h : ∀ w', OK enc k E B w' (some ⟨g, 0, none⟩) n c (l.set i p) → Wr g w w' → w'.heap.size = w.heap.size → K (ac.put o.dst undef) w') : if Region.wanted o (yielded ops ac.tmps) = true then Oper.wp P o ac w K Q else K (ac.put o.dst undef) w := by
  rw [if_pos (by simp [Region.wanted, hgd])]
  exact wp_putM hk hT x y ho hown i hi p cells hcs hx hy h1 h

variable {z : Value} {bytes : Nat}
theorem made_flat (hk : EnK enc k) (hp : 0 < k) (zs : Array Value) (z0 : α) (hz : zs.toList = enc z0) (n : Nat) : (madeCells zs (n * k)).toList = (List.replicate n z0).flatMap enc := by
  have hzs : zs.size = k := by rw [← Array.length_toList, hz, hk.len]
  apply List.ext_getElem?
  intro p
  by_cases hlt : p < n * k
  · have hq : p / k < n := (Nat.div_lt_iff_lt_mul hp).2 hlt
    have hm : p % k < k := Nat.mod_lt _ hp
    have he : p / k * k + p % k = p := by rw [Nat.mul_comm]; exact Nat.div_add_mod p k
    obtain ⟨v, hv⟩ : ∃ v, (enc z0)[p % k]? = some v := ⟨_, List.getElem?_eq_getElem (by rw [hk.len]; exact hm)⟩
    have h2 := flat_at hk (List.replicate n z0) (p / k) (p % k) z0 v (by simp [hq]) hv
    rw [he] at h2
    rw [h2]
    unfold madeCells
    rw [← hz] at hv
    have hv' : zs[p % zs.size]? = some v := by rw [hzs]; simpa using hv
    have : (zs[p % zs.size]!) = v := by rw [Array.getElem!_eq_getD, Array.getD_eq_getD_getElem?, hv']; rfl
    simp [hlt, this]
  · rw [List.getElem?_eq_none (by rw [Array.length_toList, size_madeCells]; omega), List.getElem?_eq_none (by rw [flat_len hk, List.length_replicate]; omega)]

theorem run_mkK {P : Program} (hT : ElK P T E k z bytes) (hk : EnK enc k) (z0 : α) (hz : z.cells.toList = enc z0) (w : World) (kl kc : IntKind) (n : Nat) (h63 : n ≤ 1000000) (hby : bytes ≤ 1000) :
    (Instr.makeSlice T (.int kl (n : Int)) (.int kc (n : Int))).run P w = .ok (.slice (some ⟨w.heap.size, 0, none⟩) n n) (w.alloc (.cells (madeCells z.cells (n * k)) E)) ∧
      OK enc k E w.heap.size (w.alloc (.cells (madeCells z.cells (n * k)) E)) (some ⟨w.heap.size, 0, none⟩) n n (List.replicate n z0) := by
  obtain ⟨i, hi, hz0, hz1, hz2⟩ := info_parts hT.info
  have hb2 : ((i.bytes * n : Nat) : Int) ≤ 281474976710656 := by
    have := Nat.mul_le_mul hby h63
    rw [hz2]; omega
  have hr := run_make (P := P) w T E i z hT.und hi hz0 kl kc n n (by omega) (Int.le_refl _) (by rw [Int.natCast_mul] at hb2; exact hb2) (by omega)
  rw [hz1] at hr
  simp only [Int.toNat_natCast] at hr
  exact ⟨hr, ok_of_cells hk (heap_alloc_new w _) (Nat.le_refl _) (by omega) (by simp) (made_flat hk hT.pos _ z0 hz n)⟩

/-- 'make([]T, n)', elements of k cells. -/
theorem wpList_mkK (hT : ElK P T E k z bytes) (hk : EnK enc k) (z0 : α) (hz : z.cells.toList = enc z0) (hgd : o.guard = none) (lo co : Operand) (ho : o.op = Op.makeSlice T lo co) (n : Nat) (L C : Int) (kl kc : IntKind)
    (hl : ac.eval lo = .int kl L) (hc : ac.eval co = .int kc C) (hL : L = (n : Int)) (hC : C = (n : Int)) (h63 : n ≤ 1000000) (hby : bytes ≤ 1000)
    (h : ∀ w', OK enc k E w.heap.size w' (some ⟨w.heap.size, 0, none⟩) n n (List.replicate n z0) → Below w.heap.size w w' → w'.heap.size = w.heap.size + 1 → wpList P ops Q rest (ac.put o.dst (.slice (some ⟨w.heap.size, 0, none⟩) n n)) w') :
    wpList P ops Q (o :: rest) ac w := by
  subst hL
  subst hC
  refine wpList_plain hgd fun K hK' => ?_
  obtain ⟨hr, hok⟩ := run_mkK hT hk z0 hz w kl kc n h63 hby
  unfold Oper.wp
  simp [execOp, ho, hl, hc, hr, Result.andThen]
  exact hK' _ _ (h _ hok ((Below.refl _ _).alloc (Nat.le_refl _) _) (by simp))
end

theorem cloneY_any (w : World) (a : Option Addr) (n c : Nat) (l : List UInt8) (h : RL bv w a n c l) (hn : n ≤ 1000000) :
    Calls Tryz.prog 70 #[.slice a n c] w fun e w' => ∃ a' c', e = .returned (.slice a' n c') ∧ OL bv 5 w.heap.size w' a' n c' l ∧ Below w.heap.size w w' := by
  have q22 : ∀ (w : World) (a : Option Addr) (n c n' c' : Nat), (binOp .eql 24 (.slice a n c) (.slice none n' c')).run Tryz.prog w = .ok (.bool a.isNone) w := fun w a n c n' c' => Lib.run_eql_slice_nil w _ _ a n c n' c' tY.und
  cases a with
  | none =>
    obtain rfl : n = 0 := by
      by_cases h0 : n = 0
      · exact h0
      · obtain ⟨b, off, e, _⟩ := h.cell (by omega); cases e
    obtain rfl : l = [] := List.eq_nil_of_length_eq_zero h.len
    go_enter Tryz.func70, Tryz.ntmps70
    go_wp2
    go_ret
    exact ⟨none, 0, rfl, OL.nil _ _ _ _, Below.refl _ _⟩
  | some ad =>
    have h1 := h.below (bnew0 w (.cells #[] 5))
    have ho := ol_lit bv 5 w.heap.size w [] #[] 0 rfl rfl (by omega) (Nat.le_refl _)
    go_enter Tryz.func70, Tryz.ntmps70
    go_wp2_with (at_builtin; refine wpList_app (f := bv) tY rfl _ _ rfl rfl ho rfl h1 (fun _ => rfl) (by omega) (by omega) (by simp) ?_; intro w10 a10 c10 hol10 hb10)
    go_ret
    rw [Nat.zero_add, List.nil_append] at hol10
    exact ⟨a10, c10, rfl, hol10, (bnew0 w _).trans hb10⟩

end Go.Proofs.YtgpmhmdofefdcaaGreat

namespace Go.Proofs.YtgpmhmdofefdcaaGreat
open Go.RowKit
set_option linter.unusedVariables false

set_option maxRecDepth 100000 in
set_option maxHeartbeats 2000000 in
theorem cloneFr_any (w : World) (id : Nat) (ext rem : Bool) (dlc : Nat) (a : Option Addr) (n c : Nat) (l : List UInt8) (h : RL bv w a n c l) (hn : n ≤ 1000000) :
    Calls Tryz.prog 52 #[.agg #[.int .u32 (id : Int), .bool ext, .bool rem, .int .u8 (dlc : Int), .slice a n c]] w fun e w' => ∃ a' c', e = .returned (.agg #[.int .u32 (id : Int), .bool ext, .bool rem, .int .u8 (dlc : Int), .slice a' n c']) ∧ OL bv 5 w.heap.size w' a' n c' l ∧ Below w.heap.size w w' := by
  have hb0 : ((w.alloc (.cells #[.int .u32 (id : Int), .bool ext, .bool rem, .int .u8 (dlc : Int), .slice a n c] 26)).alloc (.cells #[.int .u32 0, .bool false, .bool false, .int .u8 0, .slice none 0 0] 26)).heap[w.heap.size]? = some (.cells #[.int .u32 (id : Int), .bool ext, .bool rem, .int .u8 (dlc : Int), .slice a n c] 26 (0, 0)) := bx_alloc _ (heap_alloc_new w _)
  have hr0 : ((w.alloc (.cells #[.int .u32 (id : Int), .bool ext, .bool rem, .int .u8 (dlc : Int), .slice a n c] 26)).alloc (.cells #[.int .u32 0, .bool false, .bool false, .int .u8 0, .slice none 0 0] 26)).heap[w.heap.size + 1]? = some (.cells #[.int .u32 0, .bool false, .bool false, .int .u8 0, .slice none 0 0] 26 (0, 0)) := by
    have := heap_alloc_new (w.alloc (.cells #[.int .u32 (id : Int), .bool ext, .bool rem, .int .u8 (dlc : Int), .slice a n c] 26)) (.cells #[.int .u32 0, .bool false, .bool false, .int .u8 0, .slice none 0 0] 26); rwa [heap_size_alloc] at this
  have g0 : Below w.heap.size w ((w.alloc (.cells #[.int .u32 (id : Int), .bool ext, .bool rem, .int .u8 (dlc : Int), .slice a n c] 26)).alloc (.cells #[.int .u32 0, .bool false, .bool false, .int .u8 0, .slice none 0 0] 26)) := bnew (bnew0 w _) _
  have z0 : ((w.alloc (.cells #[.int .u32 (id : Int), .bool ext, .bool rem, .int .u8 (dlc : Int), .slice a n c] 26)).alloc (.cells #[.int .u32 0, .bool false, .bool false, .int .u8 0, .slice none 0 0] 26)).heap.size = w.heap.size + 2 := by simp
  have q4 := (bx5 hb0).2.2.2.2
  have h0 := h.below g0
  go_enter Tryz.func52, Tryz.ntmps52
  go_wp2_with (first
    | (go_at_call 70; refine (cloneY_any _ _ _ _ _ h0 hn).mono ?_; rintro e w1 ⟨a1, c1, rfl, o1, g1⟩
       have hb1 := bx_below hb0 g1
       have hr1 := bx_below hr0 g1
       have gg1 := bstep g0 g1
       have l1 := g1.size
       have f1 := bx_thaw hb1
       clear q4
       have q4 := (bx5 hb1).2.2.2.2
       have hb2 : (w1.setCell ⟨w.heap.size, 4, none⟩ (.slice a1 n c1)).heap[w.heap.size]? = some (.cells #[.int .u32 (id : Int), .bool ext, .bool rem, .int .u8 (dlc : Int), .slice a1 n c1] 26 (0, 0)) := heap_setCell_same w1 _ 4 _ _ _ hb1
       have hr2 : (w1.setCell ⟨w.heap.size, 4, none⟩ (.slice a1 n c1)).heap[w.heap.size + 1]? = some (.cells #[.int .u32 0, .bool false, .bool false, .int .u8 0, .slice none 0 0] 26 (0, 0)) := (Below.heap_setCell _ _ _ _ (by simp)).trans hr1
       have gg2 : Below w.heap.size w (w1.setCell ⟨w.heap.size, 4, none⟩ (.slice a1 n c1)) := gg1.setCell (Nat.le_refl _) _
       have o2 : OL bv 5 (w.heap.size + 2) (w1.setCell ⟨w.heap.size, 4, none⟩ (.slice a1 n c1)) a1 n c1 l := (o1.mono (by omega)).kept fun k hk => Below.heap_setCell _ _ _ _ (by have := (o1.ltB hk).2; dsimp only at this ⊢; omega))
    | (with_reducible refine wpList_loadR rowF rfl _ rfl _ rfl hb2 rfl ?_)
    | (with_reducible refine wpList_storeR rowF rfl _ _ rfl _ _ rfl rfl hr2 rfl rfl (by kernel_rfl) ?_))
  have o3 : OL bv 5 (w.heap.size + 2) ((w1.setCell ⟨w.heap.size, 4, none⟩ (.slice a1 n c1)).setRow (w.heap.size + 1) #[.int .u32 (id : Int), .bool ext, .bool rem, .int .u8 (dlc : Int), .slice a1 n c1]) a1 n c1 l := o2.kept fun k hk => setRow_other _ _ _ _ (by have := (o2.ltB hk).2; dsimp only at this ⊢; omega)
  exact bodyPost_ret (v := .agg #[.int .u32 (id : Int), .bool ext, .bool rem, .int .u8 (dlc : Int), .slice a1 n c1]) (results_row rowF rfl _ _ _ rfl (setRow_heap _ _ _ _ _ _ hr2) rfl) rfl ⟨a1, c1, rfl, o3.mono (by omega), below_setRow gg2 (by omega) _⟩
end Go.Proofs.YtgpmhmdofefdcaaGreat

namespace Go.Proofs.YtgpmhmdofefdcaaGreat
open Go.RowKit Go.Sort
set_option linter.unusedVariables false

/-- A function of the program's own text. -/
noncomputable def plainFn (F : FuncId) : Bool := match Tryz.prog.funcs[F]? with
  | some fn => !(fn.name == "runtime.NumGoroutine") && !fn.body.isNone
  | none => false
theorem plain_fn {F : FuncId} (h : plainFn F = true) : ∃ fn, Tryz.prog.funcs[F]? = some fn ∧ (fn.name == "runtime.NumGoroutine") = false ∧ fn.body.isNone = false := by
  unfold plainFn at h
  cases hf : Tryz.prog.funcs[F]? with
  | none => rw [hf] at h; cases h
  | some fn => rw [hf] at h; simp at h; exact ⟨fn, rfl, by simpa using h.1, by simpa using h.2⟩

theorem call_plain {F : FuncId} (h : plainFn F = true) (args : Array Value) (w : World) : (callFunc F args).run Tryz.prog w = .ok (.enter F args) w := by
  obtain ⟨fn, h1, h2, h3⟩ := plain_fn h
  unfold callFunc
  rw [Sem.run_bind]
  have hp : (Go.program).run Tryz.prog w = .ok Tryz.prog w := rfl
  rw [hp]
  have n1 : ¬ fn.name = "runtime.NumGoroutine" := fun e => by rw [e] at h2; simp at h2
  have n2 : ¬ fn.body = none := fun e => by rw [e] at h3; simp at h3
  simp [h1, n1, n2]

section
variable {ops : Array Oper} {rest : List Oper} {o : Oper} {a : Act} {C : World → Prop} {Q : Act → Prop} {T : TypeId} {n : Nat}

theorem quiet_loadR (hT : RowT Tryz.prog T n) (hgd : o.guard = none) (x : Operand) (ho : o.op = .load T x) (g : Nat) (hx : a.eval x = .pointer (some ⟨g, 0, none⟩)) {t : TypeId} {cs : Array Value} {fr : Nat × Nat}
    (hg : ∀ w, C w → w.heap[g]? = some (.cells cs t fr)) (hn : cs.size = n) (h : wpQuiet Tryz.prog ops C Q rest (a.put o.dst (.agg cs))) : wpQuiet Tryz.prog ops C Q (o :: rest) a := by
  obtain ⟨d, hu, hd⟩ := hT.und
  refine wpQuiet_step fun K hK => ?_
  rw [if_pos (by simp [Region.wanted, hgd])]
  refine ⟨.agg cs, fun w hw => ?_, hK _ h⟩
  have e := run_loadVar_row (P := Tryz.prog) w g t T cs fr d (hg w hw) hu (by cases d <;> simp_all) (by rw [hT.size, hn])
  unfold Oper.quietAt execOp
  simp only [ho, hx, Instr.loadAt, Instr.sureAddr, Sem.run_bind, Sem.run_pure, Result.andThen_ok, e]
  exact ⟨rfl, rfl⟩

theorem quiet_callF (F : FuncId) (hpl : plainFn F = true) (hgd : o.guard = none) (x : Operand) (xs : Array Operand) (ts : Array TypeId) (ho : o.op = Op.call { callee := .value x, args := xs, argTypes := ts }) (hx : a.eval x = .func (.func F) #[] #[])
    (args : Array Value) (ha : xs.map a.eval = args) (v : Value) (hc : ∀ w, C w → Calls Tryz.prog F args w fun e w'' => e = .returned v ∧ C w'') (h : wpQuiet Tryz.prog ops C Q rest (a.put o.dst v)) : wpQuiet Tryz.prog ops C Q (o :: rest) a := by
  refine wpQuiet_step fun K hK => ?_
  rw [if_pos (by simp [Region.wanted, hgd])]
  refine ⟨v, fun w hw => ?_, hK _ h⟩
  unfold Oper.quietAt
  have e : (execOp a.eval o).run Tryz.prog w = .ok (.enter F args) w := by
    subst ha
    have := call_plain hpl (xs.map a.eval) w
    simp [execOp, ho, resolve, Deferred.ofValue, hx, invoke, this]
  rw [e]
  exact ⟨rfl, hc w hw⟩

theorem quiet_assign (hgd : o.guard = none) (x : Operand) (ho : o.op = .assign x) (v : Value) (hx : a.eval x = v) (h : wpQuiet Tryz.prog ops C Q rest (a.put o.dst v)) : wpQuiet Tryz.prog ops C Q (o :: rest) a := by
  refine wpQuiet_step fun K hK => ?_
  rw [if_pos (by simp [Region.wanted, hgd])]
  refine ⟨v, fun w hw => ?_, hK _ h⟩
  unfold Oper.quietAt execOp
  simp [ho, hx, Oper.quietUpon, Sem.run_pure]
end

section
variable {ops : Array Oper} {o : Oper} {a : Act} {w : World} {K : Act → World → Prop} {Q : Exit → Act → World → Prop} {T : TypeId} {n : Nat}

/-- A function called, in a region that draws its order. -/
theorem draw_callF (F : FuncId) (hpl : plainFn F = true) (hw : Region.wanted o (yielded ops a.tmps) = true) (x : Operand) (xs : Array Operand) (ts : Array TypeId) (ho : o.op = Op.call { callee := .value x, args := xs, argTypes := ts }) (hx : a.eval x = .func (.func F) #[] #[])
    (args : Array Value) (ha : xs.map a.eval = args) (R : Ending → World → Prop) (hc : Calls Tryz.prog F args w R) (h : ∀ e w', R e w' → ∃ v, e = .returned v ∧ K (a.put o.dst v) w') :
    if Region.wanted o (yielded ops a.tmps) = true then Oper.wp Tryz.prog o a w K Q else K (a.put o.dst undef) w := by
  rw [if_pos hw]
  unfold Oper.wp
  have e : (execOp a.eval o).run Tryz.prog w = .ok (.enter F args) w := by
    subst ha
    have := call_plain hpl (xs.map a.eval) w
    simp [execOp, ho, resolve, Deferred.ofValue, hx, invoke, this]
  rw [e]
  refine hc.mono fun e w' hR => ?_
  obtain ⟨v, rfl, hk⟩ := h e w' hR
  exact hk

theorem draw_loadW (hT : RowT Tryz.prog T n) (hw : Region.wanted o (yielded ops a.tmps) = true) (x : Operand) (ho : o.op = .load T x)
    (g : Nat) (hx : a.eval x = .pointer (some ⟨g, 0, none⟩)) {t : TypeId} {cs : Array Value} {fr : Nat × Nat} (hg : w.heap[g]? = some (.cells cs t fr)) (hn : cs.size = n)
    (h : K (a.put o.dst (.agg cs)) w) : if Region.wanted o (yielded ops a.tmps) = true then Oper.wp Tryz.prog o a w K Q else K (a.put o.dst undef) w := by
  obtain ⟨d, hu, hd⟩ := hT.und
  rw [if_pos hw]
  exact wp_load_row T x ho g hx t cs fr d hg hu (by cases d <;> simp_all) (by rw [hT.size, hn]) h
end

section
variable {P : Program} {md : Region.Mode} {ops : Array Oper} {Q : Exit → Act → World → Prop} {S : World → Prop} {X : List Nat}

/-- Those of X are all through. -/
def Thru (X : List Nat) (l : Array Bool) : Prop := ∀ k ∈ X, l.getD k true = true

/-- Whatever order is picked: `S` holds behind each operation, until those of X are all through. -/
def Rest (P : Program) (md : Region.Mode) (ops : Array Oper) (Q : Exit → Act → World → Prop) (S : World → Prop) (X : List Nat) : Nat → Array Bool → Act → World → Prop
  | 0, l, a, w => Region.ready md ops l = [] ∧ Q .normal a w
  | m + 1, l, a, w => (Region.ready md ops l = [] → Q .normal a w) ∧
      ∀ i ∈ Region.ready md ops l, wpOp P ops Q i (fun a' w' => (S w' ∨ Thru X (l.setIfInBounds i true)) ∧ Rest P md ops Q S X m (l.setIfInBounds i true) a' w') a w

theorem Rest.any : ∀ (m : Nat) (l : Array Bool) (a : Act) (w : World), Rest P md ops Q S X m l a w → wpAny P md ops Q m l a w
  | 0, _, _, _, h => h
  | m + 1, _, _, _, h => ⟨h.1, fun i hi => wpOp_mono (fun a' w' h' => Rest.any m _ a' w' h'.2) (h.2 i hi)⟩

theorem thru_set {l : Array Bool} (h : Thru X l) (i : Nat) : Thru X (l.setIfInBounds i true) := fun k hk => by
  have := h k hk
  by_cases e : i = k
  · subst e
    simp only [Array.getD_eq_getD_getElem?, Array.getElem?_setIfInBounds_self] at *
    split <;> simp_all
  · rw [getD_set_ne true e]; exact this

theorem thru_of {l : Array Bool} (h : (X.all fun k => l.getD k true) = true) : Thru X l := fun k hk => List.all_eq_true.1 h k hk

/-- Once they are through it is the plain word. -/
theorem Rest.of_any : ∀ (m : Nat) (l : Array Bool) (a : Act) (w : World), Thru X l → wpAny P md ops Q m l a w → Rest P md ops Q S X m l a w
  | 0, _, _, _, _, h => h
  | m + 1, _, _, _, ht, h => ⟨h.1, fun i hi => wpOp_mono (fun a' w' h' => ⟨.inr (thru_set ht i), Rest.of_any m _ a' w' (thru_set ht i) h'⟩) (h.2 i hi)⟩

/-- One of X, not through yet, waits for i. -/
def waitsB (md : Region.Mode) (ops : Array Oper) (l : Array Bool) (X : List Nat) (i : Nat) : Bool :=
  X.any fun k => k != i && !l.getD k true && (match ops[k]? with | some o => o.after.any (fun e => Region.binds md e && e.on == i) | none => false)

theorem waitsB_spec {l : Array Bool} {i : Nat} (h : waitsB md ops l X i = true) : ∃ k o, k ∈ X ∧ k ≠ i ∧ l.getD k true = false ∧ ops[k]? = some o ∧ ∃ e ∈ o.after, Region.binds md e = true ∧ e.on = i := by
  obtain ⟨k, hk, h1⟩ := List.any_eq_true.1 h
  simp only [Bool.and_eq_true, bne_iff_ne, ne_eq, Bool.not_eq_true'] at h1
  obtain ⟨⟨h2, h3⟩, h4⟩ := h1
  cases ho : ops[k]? with
  | none => rw [ho] at h4; cases h4
  | some o =>
    rw [ho] at h4
    obtain ⟨e, he, hb⟩ := Array.any_eq_true'.1 h4
    simp only [Bool.and_eq_true, beq_iff_eq] at hb
    exact ⟨k, o, hk, h2, h3, ho, e, he, hb.1, hb.2⟩

theorem not_ready {l : Array Bool} {i : Nat} {oj : Oper} (hi : i ∈ Region.ready md ops l) (hall : ∀ e ∈ oj.after, Region.binds md e = true → l.getD e.on false = true) : ∀ e ∈ oj.after, Region.binds md e = true → e.on ≠ i := fun e he hb heq => by
  have h1 := hall e he hb
  have h0 := (mem_ready.1 hi).1
  rw [heq] at h1
  rcases Nat.lt_or_ge i l.size with h' | h'
  · simp [h'] at h0 h1; rw [h0] at h1; cases h1
  · simp [Array.getElem?_eq_none h'] at h1

/-- What yields its value in every world that meets S, and is waited for, may be taken first; and so may what is none of X and yields in every world. -/
theorem Rest.first {i : Nat} {oi : Oper} {v : Value} (hi : ops[i]? = some oi) (hsel : ∀ (j : Nat) (o : Oper) cs b, ops[j]? = some o → o.op ≠ .select cs b)
    (hQ : ∀ c a w, Q (.panic c) (a.put oi.dst v) w → Q (.panic c) a w) (pure : Bool) (hX : pure = true → i ∉ X) :
    ∀ (m : Nat) (l : Array Bool) (a : Act) (w : World),
      (∀ j oj, ops[j]? = some oj → j ≠ i → l.getD j true = false → (∀ e ∈ oj.after, Region.binds md e = true → e.on ≠ i) → oi.apart ops oj = true) →
      (pure = false → ∃ k o, k ∈ X ∧ k ≠ i ∧ l.getD k true = false ∧ ops[k]? = some o ∧ ∃ e ∈ o.after, Region.binds md e = true ∧ e.on = i) →
      i ∈ Region.ready md ops l → YieldsIf P ops (fun w => pure = true ∨ S w) oi v a → (pure = true ∨ S w) → (S w ∨ Thru X l) →
      Rest P md ops Q S X m (l.setIfInBounds i true) (a.put oi.dst v) w → Rest P md ops Q S X (m + 1) l a w := by
  intro m
  induction m with
  | zero =>
    intro l a w _ _ hr hy hS hT H
    refine ⟨fun h => (by rw [h] at hr; cases hr), fun j hj => ?_⟩
    by_cases hji : j = i
    · subst hji; exact hy.wpOp hi hS ⟨hT.imp id fun h => thru_set h j, H⟩
    · have := ready_mono hj hji
      rw [H.1] at this
      cases this
  | succ m ih =>
    intro l a w hfree hwait hr hy hS hT H
    refine ⟨fun h => (by rw [h] at hr; cases hr), fun j hj => ?_⟩
    by_cases hji : j = i
    · subst hji; exact hy.wpOp hi hS ⟨hT.imp id fun h => thru_set h j, H⟩
    · have h1 := H.2 j (ready_mono hj hji)
      obtain ⟨hjun, oj, hoj, hall⟩ := mem_ready.1 hj
      have hnot := not_ready hr hall
      have h2 := wpOp_putIf hoj (hfree j oj hoj hji hjun hnot) (fun cs b => hsel i oi cs b hi) (fun cs b => hsel j oj cs b hoj) hQ hy h1
      have hfree' : ∀ k ok, ops[k]? = some ok → k ≠ i → (l.setIfInBounds j true).getD k true = false →
          (∀ e ∈ ok.after, Region.binds md e = true → e.on ≠ i) → oi.apart ops ok = true := fun k ok hk hki hun hno => by
        refine hfree k ok hk hki ?_ hno
        by_cases hjk : j = k
        · subst hjk; exact hjun
        · rw [getD_set_ne true hjk] at hun; exact hun
      have hwait' : pure = false → ∃ k o, k ∈ X ∧ k ≠ i ∧ (l.setIfInBounds j true).getD k true = false ∧ ops[k]? = some o ∧ ∃ e ∈ o.after, Region.binds md e = true ∧ e.on = i := fun hp => by
        obtain ⟨k, o, k1, k2, k3, k4, e, he, hb, ho⟩ := hwait hp
        refine ⟨k, o, k1, k2, ?_, k4, e, he, hb, ho⟩
        have : j ≠ k := fun hjk => by
          subst hjk
          rw [hoj] at k4; cases k4
          exact hnot e he hb ho
        rw [getD_set_ne true this]; exact k3
      refine wpOp_mono (fun a' w' h3 => ?_) h2
      obtain ⟨hy', hd, hR⟩ := h3
      rw [Array.setIfInBounds_comm _ _ (Ne.symm hji)] at hR
      have key : (pure = true ∨ S w') ∧ (S w' ∨ Thru X (l.setIfInBounds j true)) := by
        rcases hd with hd | hd
        · exact ⟨.inr hd, .inl hd⟩
        · cases hp : pure with
          | true =>
            refine ⟨.inl rfl, .inr fun k hk => ?_⟩
            have hki : i ≠ k := fun e => hX hp (e ▸ hk)
            have := hd k hk
            rw [Array.setIfInBounds_comm _ _ (Ne.symm hji), getD_set_ne true hki] at this
            exact this
          | false =>
            obtain ⟨k, o, k1, k2, k3, _⟩ := hwait' hp
            have := hd k k1
            rw [Array.setIfInBounds_comm _ _ (Ne.symm hji), getD_set_ne true (Ne.symm k2), k3] at this
            cases this
      exact ⟨key.2, ih (l.setIfInBounds j true) a' w' hfree' hwait' (ready_mono hr (Ne.symm hji)) hy' key.1 key.2 hR⟩

variable {i m : Nat} {o oi : Oper} {v : Value} {l : Array Bool} {a : Act} {w : World}

/-- Take a load first. -/
theorem Rest.takeS (hi : ops[i]? = some oi) (hs : Region.noSelect ops = true) (hf : Region.free md ops l i = true) (hr : (Region.ready md ops l).contains i = true) (hw : waitsB md ops l X i = true)
    (hQ : ∀ c a w, Q (.panic c) (a.put oi.dst v) w → Q (.panic c) a w) (hS : S w) (hy : YieldsIf P ops S oi v a)
    (h : Rest P md ops Q S X m (l.setIfInBounds i true) (a.put oi.dst v) w) : Rest P md ops Q S X (m + 1) l a w :=
  Rest.first hi (Region.noSelect_spec hs) hQ false (fun h => by cases h) m l a w (Region.free_spec hi hf) (fun _ => waitsB_spec hw) (by simpa using hr)
    (hy.imp (fun ⟨k, g⟩ => ⟨k, fun w hw => g w (hw.resolve_left (by simp))⟩) id) (.inr hS) (.inl hS) h

/-- Take what hangs on no world first. -/
theorem Rest.take (hi : ops[i]? = some oi) (hs : Region.noSelect ops = true) (hf : Region.free md ops l i = true) (hr : (Region.ready md ops l).contains i = true) (hX : X.contains i = false)
    (hQ : ∀ c a w, Q (.panic c) (a.put oi.dst v) w → Q (.panic c) a w) (hS : S w ∨ Thru X l) (hy : Yields P ops oi v a)
    (h : Rest P md ops Q S X m (l.setIfInBounds i true) (a.put oi.dst v) w) : Rest P md ops Q S X (m + 1) l a w :=
  Rest.first hi (Region.noSelect_spec hs) hQ true (fun _ => by simpa using hX) m l a w (Region.free_spec hi hf) (fun h => by cases h) (by simpa using hr)
    hy.yieldsIf (.inl rfl) hS h

/-- The one that may come up now comes up. -/
theorem Rest.one (hr : Region.ready md ops l = [i]) (ho : ops[i]? = some o)
    (h : ∀ K' : Act → World → Prop, (∀ a w, (S w ∨ Thru X (l.setIfInBounds i true)) ∧ Rest P md ops Q S X m (l.setIfInBounds i true) a w → K' a w) → if Region.wanted o (yielded ops a.tmps) = true then Oper.wp P o a w K' Q else K' (a.put o.dst undef) w) :
    Rest P md ops Q S X (m + 1) l a w :=
  ⟨fun h0 => (by rw [hr] at h0; cases h0), fun j hj => by
    rw [hr] at hj
    have hji : j = i := by simpa using hj
    subst hji
    exact wpOp_step ho h⟩

theorem Rest.begin {id : Nat} (hm : P.follows .mixedOrders = true) (h : Rest P .any ops Q S X ops.size (Array.replicate ops.size false) a w.drew) : (Code.region id ops true).wp P Q a w :=
  wp_region_any hm (Rest.any _ _ _ _ h)

/-- A row that stands in every world that meets S. -/
theorem yields_loadR {T : TypeId} {n : Nat} (hT : RowT P T n) (hw : Region.wanted o (yielded ops a.tmps) = true) (x : Operand) (ho : o.op = .load T x) (g : Nat) (hx : a.eval x = .pointer (some ⟨g, 0, none⟩)) (cs : Array Value) (hn : cs.size = n)
    (hS : ∀ w, S w → ∃ t fr, w.heap[g]? = some (.cells cs t fr)) : YieldsIf P ops S o (.agg cs) a := by
  obtain ⟨d, hu, hd⟩ := hT.und
  refine .inl ⟨hw, fun w h => ?_⟩
  obtain ⟨t, fr, hg⟩ := hS w h
  have e := run_loadVar_row (P := P) w g t T cs fr d hg hu (by cases d <;> simp_all) (by rw [hT.size, hn])
  unfold execOp
  simp only [ho, hx, Instr.loadAt, Instr.sureAddr, Sem.run_bind, Sem.run_pure, Result.andThen_ok, e]
end
end Go.Proofs.YtgpmhmdofefdcaaGreat

namespace Go.Proofs.YtgpmhmdofefdcaaGreat

/-- The lowest m bits of n, the highest one first. -/
def ofL (n : Nat) : Nat → List Bool
  | 0 => []
  | m + 1 => n.testBit m :: ofL n m

/-- The number whose bits these are. -/
def numL (l : List Bool) : Nat := l.foldl (fun n b => 2 * n + b.toNat) 0

/-- The bits of bytes. -/
def obL (b : List UInt8) : List Bool := b.flatMap fun x => ofL x.toNat 8

/-- The bytes of bits; what is left over is ignored. -/
def byL (l : List Bool) : List UInt8 := (List.range (l.length / 8)).map fun i => UInt8.ofNat (numL ((l.drop (8 * i)).take 8))

@[simp] theorem ofL_length (n m : Nat) : (ofL n m).length = m := by
  induction m with
  | zero => rfl
  | succ m ih => simp [ofL, ih]

theorem ofL_get (n : Nat) : ∀ m i, i < m → (ofL n m)[i]? = some (n.testBit (m - 1 - i)) := by
  intro m
  induction m with
  | zero => intro i h; omega
  | succ m ih =>
    intro i h
    cases i with
    | zero => simp [ofL]
    | succ i =>
      simp only [ofL, List.getElem?_cons_succ]
      rw [ih i (by omega)]
      congr 2
      omega

theorem numL_foldl (l : List Bool) : ∀ n, l.foldl (fun n b => 2 * n + b.toNat) n = n * 2 ^ l.length + numL l := by
  induction l with
  | nil => intro n; simp [numL]
  | cons b l ih =>
    intro n
    simp only [List.foldl_cons, List.length_cons, numL]
    rw [ih, ih (2 * 0 + b.toNat), Nat.pow_succ]
    simp only [Nat.mul_zero, Nat.zero_add, Nat.add_mul]
    rw [← Nat.add_assoc, Nat.mul_assoc, Nat.mul_comm 2, Nat.mul_assoc, Nat.mul_comm n]

theorem numL_cons (b : Bool) (l : List Bool) : numL (b :: l) = b.toNat * 2 ^ l.length + numL l := by
  have := numL_foldl l (2 * 0 + b.toNat)
  simpa [numL] using this

theorem numL_append (l m : List Bool) : numL (l ++ m) = numL l * 2 ^ m.length + numL m := by
  have := numL_foldl m (numL l)
  simpa [numL, List.foldl_append] using this

theorem numL_snoc (l : List Bool) (b : Bool) : numL (l ++ [b]) = 2 * numL l + b.toNat := by
  rw [numL_append]; simp [numL]; omega

theorem numL_lt (l : List Bool) : numL l < 2 ^ l.length := by
  induction l with
  | nil => simp [numL]
  | cons b l ih =>
    rw [numL_cons, List.length_cons, Nat.pow_succ]
    cases b <;> simp <;> omega

theorem testBit_split (n m : Nat) : n % 2 ^ (m + 1) = (n.testBit m).toNat * 2 ^ m + n % 2 ^ m := by
  rw [Nat.testBit_eq_decide_div_mod_eq, Nat.pow_succ, Nat.mod_mul]
  rcases Nat.mod_two_eq_zero_or_one (n / 2 ^ m) with h | h <;> simp [h] <;> omega

theorem numL_ofL (n m : Nat) : numL (ofL n m) = n % 2 ^ m := by
  induction m with
  | zero => simp [ofL, numL]; omega
  | succ m ih => rw [ofL, numL_cons, ih, ofL_length, testBit_split]

theorem ofL_mod (n m k : Nat) (h : m ≤ k) : ofL (n % 2 ^ k) m = ofL n m := by
  induction m with
  | zero => rfl
  | succ m ih => rw [ofL, ofL, ih (by omega), Nat.testBit_mod_two_pow]; simp; omega

theorem ofL_add (n i j : Nat) : ofL n (i + j) = ofL (n / 2 ^ j) i ++ ofL n j := by
  induction i with
  | zero => simp [ofL]
  | succ i ih =>
    rw [show i + 1 + j = i + j + 1 from by omega, ofL, ofL, ih, Nat.testBit_div_two_pow, Nat.add_comm i j]
    rfl

theorem ofL_snoc (n m : Nat) : ofL n (m + 1) = ofL (n / 2) m ++ [decide (n % 2 = 1)] := by
  have := ofL_add n m 1
  rw [this]
  simp [ofL, Nat.testBit_zero]

theorem ofL_numL (l : List Bool) : ofL (numL l) l.length = l := by
  induction l with
  | nil => rfl
  | cons b l ih =>
    have hlt := numL_lt l
    have h1 : (numL (b :: l)).testBit l.length = b := by
      rw [Nat.testBit_eq_decide_div_mod_eq, numL_cons, Nat.mul_comm, Nat.mul_add_div (Nat.two_pow_pos _), Nat.div_eq_of_lt hlt]
      cases b <;> simp
    have h2 : ofL (numL (b :: l)) l.length = l := by
      rw [← ofL_mod _ _ _ (Nat.le_refl _), numL_cons, Nat.mul_comm, Nat.mul_add_mod, Nat.mod_eq_of_lt hlt, ih]
    rw [List.length_cons, ofL, h1, h2]

theorem obL_append (a b : List UInt8) : obL (a ++ b) = obL a ++ obL b := by simp [obL]

theorem obL_cons (x : UInt8) (b : List UInt8) : obL (x :: b) = ofL x.toNat 8 ++ obL b := by simp [obL]

theorem obL_length (b : List UInt8) : (obL b).length = 8 * b.length := by
  induction b with
  | nil => rfl
  | cons x b ih => rw [obL_cons, List.length_append, ofL_length, ih, List.length_cons]; omega

theorem byL_get (l : List Bool) (i : Nat) (h : i < l.length / 8) : (byL l)[i]? = some (UInt8.ofNat (numL ((l.drop (8 * i)).take 8))) := by
  simp [byL, h]

theorem byL_length (l : List Bool) : (byL l).length = l.length / 8 := by simp [byL]

theorem obL_chunk (b : List UInt8) (i : Nat) (x : UInt8) (h : b[i]? = some x) : ((obL b).drop (8 * i)).take 8 = ofL x.toNat 8 := by
  induction b generalizing i with
  | nil => simp at h
  | cons y b ih =>
    cases i with
    | zero =>
      simp only [List.getElem?_cons_zero, Option.some.injEq] at h
      subst h
      rw [obL_cons, Nat.mul_zero, List.drop_zero, List.take_left' (by simp)]
    | succ i =>
      rw [obL_cons, List.drop_append, ofL_length, List.drop_eq_nil_of_le (by simp; omega), List.nil_append]
      have := ih i (by simpa using h)
      rwa [show 8 * (i + 1) - 8 = 8 * i from by omega]

theorem byL_obL (b : List UInt8) (m : List Bool) (hm : m.length < 8) : byL (obL b ++ m) = b := by
  apply List.ext_getElem?
  intro i
  have hl : (obL b ++ m).length / 8 = b.length := by rw [List.length_append, obL_length]; omega
  by_cases hi : i < b.length
  · rw [byL_get _ _ (by omega)]
    have hx : b[i]? = some b[i] := by simp [hi]
    rw [hx, List.drop_append_of_le_length (by rw [obL_length]; omega), List.take_append_of_le_length (by rw [List.length_drop, obL_length]; omega), obL_chunk b i _ hx, numL_ofL]
    congr 1
    have := b[i].toNat_lt
    rw [Nat.mod_eq_of_lt (by omega)]
    exact UInt8.ofNat_toNat
  · rw [List.getElem?_eq_none (by rw [byL_length]; omega), List.getElem?_eq_none (by omega)]

theorem take_snoc {α : Type} {l : List α} {k : Nat} {x : α} (h : l[k]? = some x) : l.take (k + 1) = l.take k ++ [x] := by
  rw [List.take_add_one, h]; rfl

theorem num_step {l : List Bool} {k m : Nat} {b : Bool} (h : l[k]? = some b) (hm : m = numL (l.take k) % 4294967296) : (m * 2 % 4294967296) ||| b.toNat = numL (l.take (k + 1)) % 4294967296 := by
  rw [take_snoc h, numL_snoc]
  have hh : (m * 2 % 4294967296) = 2 ^ 1 * (m % 2147483648) := by omega
  rw [hh, ← Nat.two_pow_add_eq_or_of_lt (show b.toNat < 2 ^ 1 from by cases b <;> simp)]
  cases b <;> simp <;> omega
end Go.Proofs.YtgpmhmdofefdcaaGreat

namespace Go.Proofs.YtgpmhmdofefdcaaGreat
open Go.RowKit
set_option linter.unusedVariables false


theorem same_any (w : World) (a : Option Addr) (n c : Nat) (l : List Bool) (a2 : Option Addr) (n2 c2 : Nat) (l2 : List Bool) (h : RL .bool w a n c l) (h2 : RL .bool w a2 n2 c2 l2) (hn : n ≤ 1000000) :
    Calls Tryz.prog 34 #[.slice a n c, .slice a2 n2 c2] w fun e w' => e = .returned (.bool (decide (l = l2))) ∧ w = w' := by
  by_cases hne : n = n2
  · subst hne
    have HE : Hid (∀ k, l.take k = l2.take k → n ≤ k → l = l2) := fun k hk hkn => by
      rwa [List.take_of_length_le (by rw [h.len]; omega), List.take_of_length_le (by rw [h2.len]; omega)] at hk
    go_enter Tryz.func34, Tryz.ntmps34
    go_wp2
    go_loop [14] (fun i => ∃ k : Nat, k ≤ n ∧ i = .int .i64 k ∧ l.take k = l2.take k) (fun i => n - (intOf i).toNat)
    case atStart => exact ⟨0, Nat.zero_le _, rfl, rfl⟩
    case round =>
      obtain ⟨k, hk, rfl, hall⟩ := hrel
      have HA := hid hall; clear hall
      by_cases hlt : k < n
      · obtain ⟨b, off, x, rfl, hx, hck⟩ := h.at hlt
        obtain ⟨b2, off2, x2, rfl, hx2, hck2⟩ := h2.at hlt
        have HX := hid hx; clear hx
        have HX2 := hid hx2; clear hx2
        by_cases hxx : x = x2
        · subst hxx
          go_wp2
          go_round
          case rel => exact ⟨k + 1, by omega, by go_num, by rw [take_snoc HX.out, take_snoc HX2.out, HA.out]⟩
          case measure => simp [intOf]; omega
        · have HN : Hid (¬ l = l2) := fun e => by
            have := HX.out; rw [e, HX2.out] at this; exact hxx (by simpa using this.symm)
          have hb : (x2 == x) = false := by simp; exact fun e => hxx e.symm
          have hb' : (x2 != x) = true := by simp; exact fun e => hxx e.symm
          clear hxx
          go_wp2
          go_ret
          exact ⟨ret_bool (decide_eq_false HN.out).symm, rfl⟩
      · have hl := HE.out k HA.out (by omega)
        have HL := hid hl; clear hl
        go_wp2
        go_ret
        exact ⟨ret_bool (decide_eq_true HL.out).symm, rfl⟩
  · have HN : Hid (¬ l = l2) := fun e => by
      subst e; exact hne (h.len.symm.trans h2.len)
    have hd : ((n : Int) == (n2 : Int)) = false := by simp; omega
    have hd' : ((n : Int) != (n2 : Int)) = true := by simp; omega
    go_enter Tryz.func34, Tryz.ntmps34
    go_wp2
    go_ret
    exact ⟨ret_bool (decide_eq_false HN.out).symm, rfl⟩

/-- A bit as its letter. -/
def chB (x : Bool) : UInt8 := if x then 114 else 100

end Go.Proofs.YtgpmhmdofefdcaaGreat

namespace Go.Proofs.YtgpmhmdofefdcaaGreat
open Go.RowKit
set_option linter.unusedVariables false

theorem fill_any (w : World) (g off n c x : Nat) (a : Option Addr) (cur : Array Value) (hx : x < 4294967296) (ha : 0 < n → a = some ⟨g, off, none⟩) (hg : w.heap[g]? = some (.cells cur 4 (0, 0))) (hfit : off + n ≤ cur.size) (hn : n ≤ 1000000) :
    Calls Tryz.prog 65 #[.slice a n c, .int .u32 (x : Int)] w fun e w' => e = .returned (.tuple #[]) ∧ (∃ cur', w'.heap[g]? = some (.cells cur' 4 (0, 0)) ∧ cur'.size = cur.size ∧
      (∀ j, off ≤ j → j < off + n → cur'[j]? = some (.bool (x.testBit (n - 1 - (j - off))))) ∧ ∀ j, (j < off ∨ off + n ≤ j) → cur'[j]? = cur[j]?) ∧ w.grownBy w' (some g) := by
  go_enter Tryz.func65, Tryz.ntmps65
  go_wp2
  go_loopw [11] (fun i wr => ∃ k : Nat, k ≤ n ∧ i = .int .i64 k ∧ (∃ cur', wr.heap[g]? = some (.cells cur' 4 (0, 0)) ∧ cur'.size = cur.size ∧
      (∀ j, off ≤ j → j < off + k → cur'[j]? = some (.bool (x.testBit (n - 1 - (j - off))))) ∧ ∀ j, (j < off ∨ off + k ≤ j) → cur'[j]? = cur[j]?) ∧ w.grownBy wr (some g)) (fun i _ => n - (intOf i).toNat)
  case atStart => exact ⟨0, Nat.zero_le _, rfl, ⟨cur, hg, rfl, fun j h1 h2 => by omega, fun j _ => rfl⟩, World.grownBy.refl _ _⟩
  case round =>
    obtain ⟨k, hk, rfl, ⟨cur', hg', hs', hin, hout⟩, hgr⟩ := hrel
    have HIN := hid hin; clear hin
    have HOUT := hid hout; clear hout
    have HG := hid hg'
    by_cases hlt : k < n
    · obtain rfl := ha (by omega)
      have hc : wr.cell? ⟨g, off + k, none⟩ = some cur'[off + k] := by
        rw [cell_of_row wr g (off + k) cur' _ _ hg']; simp [show off + k < cur'.size by omega]
      obtain ⟨v0, hv0⟩ : ∃ v0, v0 = cur'[off + k] := ⟨_, rfl⟩
      rw [← hv0] at hc
      clear hv0
      have hf : wr.frozen? ⟨g, off + k, none⟩ = false := frozen_of_row wr g (off + k) cur' _ hg'
      obtain ⟨y, hy⟩ : ∃ y : Nat, y = x / 2 ^ (n - 1 - k) := ⟨_, rfl⟩
      have hy1 : y < 4294967296 := by rw [hy]; exact Nat.lt_of_le_of_lt (Nat.div_le_self _ _) hx
      have hsh : Op.shift .shr .u32 (x : Int) .i64 ((n : Int) - 1 - (k : Int)) = pure (.int .u32 (y : Int)) := by
        rw [shift_shr_any _ _ _ _ (by omega), show ((n : Int) - 1 - (k : Int)).toNat = n - 1 - k from by omega, hy]
        congr 2
        by_cases hs : n - 1 - k ≤ 32
        · rw [show min (n - 1 - k) IntKind.u32.bits = n - 1 - k from Nat.min_eq_left hs]; norm_cast
        · have h2 : x / 2 ^ (n - 1 - k) = 0 := Nat.div_eq_of_lt (Nat.lt_of_lt_of_le hx (Nat.pow_le_pow_right (n := 2) (i := 32) (by decide) (by omega)))
          rw [show min (n - 1 - k) IntKind.u32.bits = 32 from Nat.min_eq_right (show 32 ≤ n - 1 - k by omega), h2]
          show (x : Int) / 2 ^ 32 = 0
          omega
      obtain ⟨bt, hbt⟩ : ∃ bt, bt = x.testBit (n - 1 - k) := ⟨_, rfl⟩
      have hb1 : (bits .and .u32 (y : Int) 1 == 1) = bt := by
        rw [show ((1 : Int)) = ((1 : Nat) : Int) from rfl, (u32_bits y 1 hy1 (by omega)).1, hbt, hy, Nat.testBit_eq_decide_div_mod_eq, Nat.and_one_is_mod, Bool.eq_iff_iff]
        simp
        norm_cast
      have HB := hid hbt; clear hbt
      clear hg' hy
      go_wp2
      go_roundw
      case rel =>
        have hset := heap_setCell_same wr g (off + k) cur' _ (.bool bt) HG.out
        refine ⟨k + 1, by omega, by go_num, ⟨_, hset, by simpa using hs', fun j h1 h2 => ?_, fun j h1 => ?_⟩, ?_⟩
        · rw [Array.getElem?_setIfInBounds]
          split
          · rename_i e; subst e; rw [if_pos (by omega), HB.out]; congr 4; omega
          · exact HIN.out j h1 (by omega)
        · rw [Array.getElem?_setIfInBounds, if_neg (by omega)]
          exact HOUT.out j (by omega)
        · exact ⟨hgr.os, hgr.tape, hgr.output, by simpa using hgr.size, fun q h1 h2 => (Below.heap_setCell _ _ _ _ (by simpa using h2)).trans (hgr.block q h1 h2)⟩
      case measure => simp [intOf]; omega
    · obtain rfl : k = n := by omega
      clear hg'
      go_wp2
      go_end0
      exact ⟨rfl, ⟨cur', HG.out, hs', HIN.out, HOUT.out⟩, hgr⟩

/-- How many bits Of gives. -/
def clampM (many : Int) : Nat := (min (max many 0) 64).toNat

theorem of_any (w : World) (x : Nat) (many : Int) (hx : x < 4294967296) (hm : -9223372036854775808 ≤ many ∧ many ≤ 9223372036854775807) :
    Calls Tryz.prog 51 #[.int .u32 (x : Int), .int .i64 many] w fun e w' => ∃ a c, e = .returned (.slice a (clampM many) c) ∧ OL .bool 4 w.heap.size w' a (clampM many) c (ofL x (clampM many)) ∧ Below w.heap.size w w' := by
  obtain ⟨m, hm0⟩ : ∃ m, m = clampM many := ⟨_, rfl⟩
  have hm64 : m ≤ 64 := by rw [hm0]; unfold clampM; omega
  have hcase : (many < 0 ∧ m = 0) ∨ (many > 64 ∧ m = 64) ∨ many = (m : Int) := by rw [hm0]; unfold clampM; omega
  rw [← hm0]
  clear hm0
  rcases hcase with ⟨h1, h2⟩ | ⟨h1, h2⟩ | h2
  all_goals
    have H2 := hid h2
    first | (have h3 : 0 ≤ many ∧ many ≤ 64 := by omega) | skip
    clear h2
    go_enter Tryz.func51, Tryz.ntmps51
    go_wp2_with (first
      | (at_make; refine wpList_mk (f := Value.bool) (n := m) tB false rfl rfl _ _ rfl _ _ _ _ rfl rfl (by have := H2.out; omega) (by have := H2.out; omega) (by omega) (by omega) ?_; intro w1 hown hb1 hs1; obtain ⟨cur, _, hg, hcs, _, _⟩ := hown.full)
      | (go_at_call 65; refine (fill_any w1 w.heap.size 0 _ _ x _ cur hx (fun _ => rfl) hg (by omega) (by omega)).mono ?_; rintro e w2 ⟨rfl, ⟨cur', hg', hs', hin, _⟩, hgr⟩))
    go_ret
    refine ⟨_, _, rfl, ol_of_cells hg' (Nat.le_refl _) (hs'.trans hcs) (by omega) (by simp) (fun j b hb => ?_), hb1.trans ((Below.refl _ _).grown hgr (by omega) (fun q hq => by simp at hq; omega))⟩
    have hj : j < (ofL x _).length := (List.getElem?_eq_some_iff.1 hb).1
    rw [ofL_length] at hj
    rw [ofL_get _ _ _ hj] at hb
    simp only [Option.some.injEq] at hb
    subst hb
    rw [hin j (by omega) (by omega)]
    simp

theorem ofBytes_any (w : World) (a : Option Addr) (n c : Nat) (l : List UInt8) (h : RL bv w a n c l) (hn : n ≤ 100000) :
    Calls Tryz.prog 46 #[.slice a n c] w fun e w' => ∃ a' c', e = .returned (.slice a' (8 * n) c') ∧ OL .bool 4 w.heap.size w' a' (8 * n) c' (obL l) ∧ Below w.heap.size w w' := by
  go_enter Tryz.func46, Tryz.ntmps46
  go_wp2_with (at_make; refine wpList_mk (f := Value.bool) (n := 8 * n) tB false rfl rfl _ _ rfl _ _ _ _ rfl rfl (by omega) (by omega) (by omega) (by omega) ?_; intro w1 hown hb1 hs1; obtain ⟨cur, _, hg, hcs, _, _⟩ := hown.full)
  go_loopw [12] (fun i wr => ∃ k : Nat, k ≤ n ∧ i = .int .i64 k ∧ (∃ cur', wr.heap[w.heap.size]? = some (.cells cur' 4 (0, 0)) ∧ cur'.size = 8 * n ∧ ∀ j, j < 8 * k → cur'[j]? = ((obL l)[j]?).map Value.bool) ∧ w1.grownBy wr (some w.heap.size)) (fun i _ => n - (intOf i).toNat)
  case atStart => exact ⟨0, Nat.zero_le _, rfl, ⟨cur, hg, hcs, fun j hj => by omega⟩, World.grownBy.refl _ _⟩
  case round =>
    obtain ⟨k, hk, rfl, ⟨cur', hg', hs', hin⟩, hgr⟩ := hrel
    by_cases hlt : k < n
    · have HIN := hid hin; clear hin
      have HG := hid hg'; clear hg'
      have hrr := h.below (hb1.trans ((Below.refl w.heap.size w1).grown hgr (by omega) (fun q hq => by simp at hq; omega)))
      obtain ⟨b, off, x, rfl, hx, hck⟩ := hrr.at hlt
      have hx8 := x.toNat_lt
      change wr.cell? ⟨b, off + k, none⟩ = some (.int .u8 (x.toNat : Int)) at hck
      clear hrr
      have HX := hid hx; clear hx
      go_wp2_with (go_at_call 65; refine (fill_any wr w.heap.size (k * 8) _ _ x.toNat _ cur' (by omega) (fun _ => rfl) HG.out (by omega) (by omega)).mono ?_; rintro e w2 ⟨rfl, hpost, hgr2⟩; have HP := hid hpost; clear hpost)
      go_roundw
      case rel =>
        obtain ⟨cur2, hg2, hs2, hin2, hout2⟩ := HP.out
        refine ⟨k + 1, by omega, by go_num, ⟨cur2, hg2, hs2.trans hs', fun j hj => ?_⟩, ⟨hgr2.os.trans hgr.os, hgr2.tape.trans hgr.tape, hgr2.output.trans hgr.output, Nat.le_trans hgr.size hgr2.size, fun q h1 h2 => (hgr2.block q (Nat.lt_of_lt_of_le h1 hgr.size) h2).trans (hgr.block q h1 h2)⟩⟩
        by_cases hj8 : j < 8 * k
        · rw [hout2 j (by omega)]; exact HIN.out j hj8
        · have hch := obL_chunk l k x HX.out
          have e1 : (obL l)[j]? = (ofL x.toNat 8)[j - 8 * k]? := by
            rw [← hch, List.getElem?_take, if_pos (by omega), List.getElem?_drop]; congr 1; omega
          rw [hin2 j (by omega) (by omega), e1, ofL_get _ _ _ (by omega)]
          simp only [Option.map_some]
          congr 3
          omega
      case measure => simp [intOf]; omega
    · obtain rfl : k = n := by omega
      have HIN := hid hin; clear hin
      have HG := hid hg'; clear hg'
      go_wp2
      go_ret
      refine ⟨_, _, rfl, ol_of_cells HG.out (Nat.le_refl _) hs' (by omega) (by rw [obL_length, h.len]) (fun j b hb => ?_), hb1.trans ((Below.refl _ _).grown hgr (by omega) (fun q hq => by simp at hq; omega))⟩
      have hj : j < (obL l).length := (List.getElem?_eq_some_iff.1 hb).1
      rw [obL_length, h.len] at hj
      rw [HIN.out j hj, hb]; rfl
end Go.Proofs.YtgpmhmdofefdcaaGreat
