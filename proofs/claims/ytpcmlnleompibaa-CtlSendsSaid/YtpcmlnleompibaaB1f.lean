/-
  More words for all seats: boxes (structs in memory) that lie beside a slice that is appended to: an append turns no block but the slice's own one, and what it lays is new.
  A box of five cells, and one box behind a call: for every seat.
  Slices of bytes: for every seat.
  Plain mathematics of layer 1: the bits of numbers and bytes as lists. Nothing of the program is spoken of here.
  Contracts of the statements' own helpers on bits (Same, Anew, Text): each returns what a plain function on lists says.
  Contracts of bits.Of and bits.OfBytes (layer 1): each returns what a plain function on lists says.
-/
import Derived.Test.YtpcmlnleompibaaBase
import Derived.BigQuiet
import Derived.Test.YtpcmlnleompibaaRows
namespace Go.Proofs.Ytpcmlnleompibaa
open Go.RowKit

/-- The slice at this address does not lie in block k. -/
def NB (a : Option Addr) (k : Nat) : Prop := ∀ q, a = some q → q.block ≠ k

theorem NB.nil (k : Nat) : NB none k := fun q h => by cases h
theorem NB.at {g k : Nat} (h : g ≠ k) : NB (some ⟨g, 0, none⟩) k := fun q hq => by cases hq; exact h
theorem NB.block {g k o : Nat} (h : NB (some ⟨g, o, none⟩) k) : g ≠ k := h _ rfl

/-- A box of two cells: what each holds, and that neither is frozen. -/
theorem bx {w : World} {g : Nat} {E : TypeId} {v0 v1 : Value} (h : w.heap[g]? = some (.cells #[v0, v1] E (0, 0))) :
    w.cell? ⟨g, 0, none⟩ = some v0 ∧ w.cell? ⟨g, 1, none⟩ = some v1 ∧ w.frozen? ⟨g, 0, none⟩ = false ∧ w.frozen? ⟨g, 1, none⟩ = false :=
  ⟨by rw [cell_of_row w g 0 _ _ _ h]; rfl, by rw [cell_of_row w g 1 _ _ _ h]; rfl, frozen_of_row w g 0 _ _ h, frozen_of_row w g 1 _ _ h⟩

theorem heap_size_alloc (w : World) (o : Obj) : (w.alloc o).heap.size = w.heap.size + 1 := by simp

theorem bx_lt {w : World} {g : Nat} {o : Obj} (h : w.heap[g]? = some o) : g < w.heap.size := (Array.getElem?_eq_some_iff.1 h).1

theorem bx_below {w w' : World} {g : Nat} {o : Obj} (h : w.heap[g]? = some o) (hb : Below w.heap.size w w') : w'.heap[g]? = some o := by
  rw [hb.block g (bx_lt h)]; exact h

theorem bx_alloc {w : World} {g : Nat} {o : Obj} (p : Obj) (h : w.heap[g]? = some o) : (w.alloc p).heap[g]? = some o := by
  rw [Below.heap_alloc w p g (bx_lt h)]; exact h

/-- Two boxes that were laid one behind the other, behind a call. -/
theorem two_bx {w w1 : World} {E F : TypeId} {u v : Array Value} (g1 : Below ((w.alloc (.cells u E)).alloc (.cells v F)).heap.size ((w.alloc (.cells u E)).alloc (.cells v F)) w1) :
    w1.heap[w.heap.size]? = some (.cells u E (0, 0)) ∧ w1.heap[w.heap.size + 1]? = some (.cells v F (0, 0)) ∧ Below w.heap.size w w1 := by
  refine ⟨bx_below (bx_alloc _ (heap_alloc_new _ _)) g1, ?_, (bnew (bnew0 w _) _).trans (g1.mono (by simp; omega))⟩
  have := bx_below (heap_alloc_new (w.alloc (.cells u E)) (.cells v F)) g1
  simpa using this

/-- Both cells of a box, stored. -/
theorem bx_set {w : World} {g : Nat} {E : TypeId} {v0 v1 : Value} (u0 u1 : Value) (h : w.heap[g]? = some (.cells #[v0, v1] E (0, 0))) :
    ((w.setCell ⟨g, 0, none⟩ u0).setCell ⟨g, 1, none⟩ u1).heap[g]? = some (.cells #[u0, u1] E (0, 0)) := by
  have h1 := heap_setCell_same w g 0 _ _ u0 h
  exact heap_setCell_same _ g 1 _ _ u1 h1

theorem set_other {w : World} {g k : Nat} (u0 u1 : Value) (h : k ≠ g) : ((w.setCell ⟨g, 0, none⟩ u0).setCell ⟨g, 1, none⟩ u1).heap[k]? = w.heap[k]? := by
  rw [heap_setCell_other _ _ _ _ h, heap_setCell_other _ _ _ _ h]

section
variable {α : Type} {f : α → Value} {E T : TypeId} {z : Value} {bytes : Nat} {B : Nat} {w w' : World} {P : Program} {l m : List α} {n c : Nat} {a : Option Addr}

/-- A row lies in one block. -/
theorem OL.kept (h : OL f E B w a n c l) (hk : ∀ g, a = some ⟨g, 0, none⟩ → w'.heap[g]? = w.heap[g]?) : OL f E B w' a n c l := by
  refine ⟨h.len, h.cap, h.own.1, ?_⟩
  rcases h.own.2 with hn | ⟨g, cap, cur, hv, hB, hg, rest⟩
  · exact .inl hn
  · refine .inr ⟨g, cap, cur, hv, hB, ?_, rest⟩
    simp only [Value.slice.injEq] at hv
    rw [hk g hv.1]; exact hg

theorem OL.drewN (h : OL f E B w a n c l) (q : Nat) : OL f E B (w.drewN q) a n c l := h.kept fun g _ => by simp

/-- A store into another block leaves a row. -/
theorem OL.box (h : OL f E B w a n c l) {g : Nat} (hn : NB a g) (u0 u1 : Value) : OL f E B ((w.setCell ⟨g, 0, none⟩ u0).setCell ⟨g, 1, none⟩ u1) a n c l :=
  h.kept fun k hk => set_other u0 u1 (by subst hk; exact hn.block)

theorem OL.ltB (h : OL f E B w a n c l) {q : Addr} (hq : a = some q) : q.block < w.heap.size ∧ B ≤ q.block := by
  rcases h.ex with ⟨h0, _⟩ | ⟨g, cur, hg, hBg, hh, _⟩
  · rw [h0] at hq; cases hq
  · rw [hg] at hq; cases hq; exact ⟨bx_lt hh, hBg⟩

/-- Where an append's result lies. -/
theorem app_where (hT : ElT P T E z bytes) {ty : TypeId} {ad : Addr} {n2 c2 : Nat} (hown : OL f E B w a n c l) (h0 : 0 < n2) (hlm : m.length = n2) (hnews : ∀ j v, (m.map f)[j]? = some v → w.cell? (ad.add j) = some v)
    (h1 : ∀ u, (f u).oneCell' = true) (h63 : n + n2 ≤ 1000000000) (hby : bytes ≤ 64) {v' : Value} {w' : World}
    (hrun : (Builtin.append_ #[T, T] ty #[.slice a n c, .slice (some ad) n2 c2]).run P w = .ok v' w') : ∃ q N C, v' = .slice (some q) N C ∧ (a = some q ∨ q.block = w.heap.size) := by
  obtain ⟨i, hi, hz0, hz1, hz2⟩ := info_parts hT.info
  have hb64 : (n + n2) * bytes ≤ 140737488355328 := by
    have := Nat.mul_le_mul h63 hby
    omega
  have hlen : (m.map f).length = n2 * i.size := by rw [hz1]; simp [hlm]
  rcases hown.own.2 with ⟨h', hn0⟩ | ⟨g, cap, cur, h', hB, hg, hnc, hcm, hcs, htake⟩
  · simp only [Value.slice.injEq] at h'
    obtain ⟨rfl, rfl, rfl⟩ := h'
    rw [run_append_nil (P := P) w T ty E i z hT.und hi hz0 ad n2 c2 (m.map f) hlen hnews h0 (by omega) (by rw [hz2]; have hb := hb64; simp only [Nat.zero_add] at hb; omega)] at hrun
    injection hrun with e1 e2
    exact ⟨_, _, _, e1.symm, .inr rfl⟩
  · simp only [Value.slice.injEq, true_and] at h'
    obtain ⟨rfl, rfl⟩ := h'
    by_cases hroom : n + n2 ≤ c
    · rw [run_append_room (P := P) w T ty E i hT.und hi g n c cur hg ad n2 c2 (m.map f) hlen hnews (fun u hu => by obtain ⟨y, _, rfl⟩ := List.mem_map.1 hu; exact h1 y) hroom (by
        rw [hlen, hcs, hz1]; omega)] at hrun
      injection hrun with e1 e2
      exact ⟨_, _, _, e1.symm, .inl rfl⟩
    · have holds : ∀ j u, (l.map f)[j]? = some u → w.cell? ((⟨g, 0, none⟩ : Addr).add j) = some u := hown.own.cells (g := g) rfl
      rw [run_append_grow (P := P) w T ty E i z hT.und hi hz0 ⟨g, 0, none⟩ n c (l.map f) (by rw [hz1]; simp [hown.len]) holds ad n2 c2 (m.map f) hlen hnews (by omega) (by omega) (growslice_fits (by omega) (by rw [hz2]; exact hb64))] at hrun
      injection hrun with e1 e2
      exact ⟨_, _, _, e1.symm, .inr rfl⟩

/-- 'append(v, x...)' of at least one element: v of the call's own; no other block is turned, and the result lies in v's or in a new one. -/
theorem wp_appg {o : Oper} {ac : Act} {K : Act → World → Prop} {Q : Exit → Act → World → Prop} (hT : ElT P T E z bytes) (s x : Operand)
    (ho : o.op = .call { callee := .builtin .append, args := #[s, x], argTypes := #[T, T] })
    {a2 : Option Addr} {n2 c2 : Nat} (hs : ac.eval s = .slice a n c) (hown : OL f E B w a n c l) (hx : ac.eval x = .slice a2 n2 c2) (hr : RL f w a2 n2 c2 m) (h0 : 0 < n2)
    (h1 : ∀ u, (f u).oneCell' = true) (h63 : n + n2 ≤ 1000000000) (hby : bytes ≤ 64) (hbase : B ≤ w.heap.size)
    (h : ∀ w' a' c', OL f E B w' a' (n + n2) c' (l ++ m) → Below B w w' → (∀ k, k < w.heap.size → NB a k → w'.heap[k]? = w.heap[k]? ∧ NB a' k) → w.heap.size ≤ w'.heap.size → K (ac.put o.dst (.slice a' (n + n2) c')) w') : o.wp P ac w K Q := by
  obtain ⟨i, hi, hz0, hz1, hz2⟩ := info_parts hT.info
  have hbl : ∀ k, (Value.slice a n c).ownBlock = some k → B ≤ k := fun k hk => (hown.own.lt k hk).1
  obtain ⟨b, off, rfl, hb, hc⟩ := hr.cell h0
  have hnews : ∀ j v, (m.map f)[j]? = some v → w.cell? ((⟨b, off, none⟩ : Addr).add j) = some v := by
    intro j u hu
    rw [List.getElem?_map] at hu
    cases hj : m[j]? with
    | none => rw [hj] at hu; cases hu
    | some y =>
      rw [hj] at hu
      simp only [Option.map_some, Option.some.injEq] at hu
      subst hu
      rw [Addr.add_lit]
      exact hc j y hj
  obtain ⟨v', w', hrun, h2, h3, h4⟩ := run_append_own (P := P) w B T o.type E i z 1 bytes hT.und hi hz0 hz1 hz2 hT.zc (by decide) (.slice a n c) n (l.map f) hown.own ⟨b, off, none⟩ n2 c2 (m.map f) (by simp [hr.len]) hnews
    (fun u hu => by obtain ⟨y, _, rfl⟩ := List.mem_map.1 hu; exact h1 y) (by unfold maxLen; omega) (by have := Nat.mul_le_mul h63 hby; omega) hbase
  obtain ⟨q, N, C, rfl, hq⟩ := app_where hT hown h0 hr.len hnews h1 h63 hby hrun
  obtain ⟨a', c', e', hol⟩ := of_ownsRow (f := f) (l := l ++ m) h2 (by simp)
  simp only [Value.slice.injEq] at e'
  obtain ⟨rfl, rfl, rfl⟩ := e'
  unfold Oper.wp execOp
  simp only [ho, resolve, invoke, builtin, Sem.run_bind, Sem.run_pure, Result.andThen_ok, List.map_toArray, List.map_cons, List.map_nil, hs, hx, hrun]
  refine h w' _ _ hol ((Below.refl B w).grown h3 hbase hbl) (fun k hk hn => ⟨h3.block k hk ?_, ?_⟩) h3.size
  · intro e
    cases a with
    | none => simp [Value.ownBlock] at e
    | some p => simp [Value.ownBlock] at e; exact hn p rfl e.symm
  · intro p hp
    cases hp
    rcases hq with rfl | hq
    · exact hn _ rfl
    · omega

theorem wpList_appg {ops : Array Oper} {rest : List Oper} {o : Oper} {ac : Act} {Q : Exit → Act → World → Prop} (hT : ElT P T E z bytes) (hgd : o.guard = none) (s x : Operand)
    (ho : o.op = .call { callee := .builtin .append, args := #[s, x], argTypes := #[T, T] })
    {a2 : Option Addr} {n2 c2 : Nat} (hs : ac.eval s = .slice a n c) (hown : OL f E B w a n c l) (hx : ac.eval x = .slice a2 n2 c2) (hr : RL f w a2 n2 c2 m) (h0 : 0 < n2)
    (h1 : ∀ u, (f u).oneCell' = true) (h63 : n + n2 ≤ 1000000000) (hby : bytes ≤ 64) (hbase : B ≤ w.heap.size)
    (h : ∀ w' a' c', OL f E B w' a' (n + n2) c' (l ++ m) → Below B w w' → (∀ k, k < w.heap.size → NB a k → w'.heap[k]? = w.heap[k]? ∧ NB a' k) → w.heap.size ≤ w'.heap.size → wpList P ops Q rest (ac.put o.dst (.slice a' (n + n2) c')) w') : wpList P ops Q (o :: rest) ac w :=
  wpList_plain hgd fun _ hK => wp_appg hT s x ho hs hown hx hr h0 h1 h63 hby hbase fun w' a' c' h2 h3 h4 h5 => hK _ _ (h w' a' c' h2 h3 h4 h5)

/-- One element of a row that the call owns, stored anew. -/
theorem OL.set {g i : Nat} (h : OL f E B w (some ⟨g, 0, none⟩) n c l) (x : α) : OL f E B (w.setCell ⟨g, i, none⟩ (f x)) (some ⟨g, 0, none⟩) n c (l.set i x) := by
  refine ⟨by rw [List.length_set]; exact h.len, h.cap, by rw [List.length_map, List.length_set, Nat.mul_one]; exact h.len, ?_⟩
  rcases h.own.2 with ⟨h', _⟩ | ⟨g', cap', cur', h', hB, hg', hnc, hcm, hcs, htake⟩
  · simp at h'
  · simp only [Value.slice.injEq, Option.some.injEq, Addr.mk.injEq, and_true, true_and] at h'
    obtain ⟨rfl, rfl⟩ := h'
    refine .inr ⟨g, c, cur'.setIfInBounds i (f x), rfl, hB, heap_setCell_same w g i cur' _ (f x) hg', hnc, hcm, by simpa using hcs, ?_⟩
    rw [Array.toList_setIfInBounds, List.take_set, htake, List.map_set]

theorem OL.cellAt {g i : Nat} {x : α} (h : OL f E B w (some ⟨g, 0, none⟩) n c l) (hx : l[i]? = some x) : w.cell? ⟨g, i, none⟩ = some (f x) ∧ w.frozen? ⟨g, i, none⟩ = false := by
  have hi : i < n := by rw [← h.len]; exact (List.getElem?_eq_some_iff.1 hx).1
  obtain ⟨b, off, e, _, hc⟩ := h.rl.cell (by omega)
  cases e
  refine ⟨by have := hc i x hx; rwa [Nat.zero_add] at this, ?_⟩
  rcases h.ex with ⟨h0, _⟩ | ⟨g', cur, hg, hBg, hh, hcs⟩
  · cases h0
  simp only [Option.some.injEq, Addr.mk.injEq, and_true] at hg
  subst hg
  exact frozen_of_row w _ i cur _ hh

/-- 'append(v, x...)' behind a guard that lets it by. -/
theorem wpList_appW {ops : Array Oper} {rest : List Oper} {o : Oper} {ac : Act} {Q : Exit → Act → World → Prop} (hT : ElT P T E z bytes) (hw : Region.wanted o (yielded ops ac.tmps) = true) (s x : Operand)
    (ho : o.op = .call { callee := .builtin .append, args := #[s, x], argTypes := #[T, T] })
    {a2 : Option Addr} {n2 c2 : Nat} (hs : ac.eval s = .slice a n c) (hown : OL f E B w a n c l) (hx : ac.eval x = .slice a2 n2 c2) (hr : RL f w a2 n2 c2 m)
    (h1 : ∀ u, (f u).oneCell' = true) (h63 : n + n2 ≤ 1000000000) (hby : bytes ≤ 64) (hbase : B ≤ w.heap.size)
    (h : ∀ w' a' c', OL f E B w' a' (n + n2) c' (l ++ m) → Below B w w' → wpList P ops Q rest (ac.put o.dst (.slice a' (n + n2) c')) w') : wpList P ops Q (o :: rest) ac w :=
  wpList_step fun _ hK => by
    rw [if_pos hw]
    exact wp_app hT s x ho hs hown hx hr h1 h63 hby hbase fun w' a' c' h2 h3 => hK _ _ (h w' a' c' h2 h3)

/-- 'make([]T, 0, n)': an empty row with room for n, of the call's own. -/
theorem wpList_mk0 {ops : Array Oper} {rest : List Oper} {o : Oper} {ac : Act} {Q : Exit → Act → World → Prop} (hT : ElT P T E z bytes)
    (hgd : o.guard = none) (lo co : Operand) (ho : o.op = Op.makeSlice T lo co) (C : Int) (kl kc : IntKind) (hl : ac.eval lo = .int kl 0) (hc : ac.eval co = .int kc C) (hC : C = (n : Int))
    (h63 : n ≤ 1000000000) (hby : bytes ≤ 64)
    (h : ∀ w', OL f E w.heap.size w' (some ⟨w.heap.size, 0, none⟩) 0 n [] → Below w.heap.size w w' → w'.heap.size = w.heap.size + 1 → wpList P ops Q rest (ac.put o.dst (.slice (some ⟨w.heap.size, 0, none⟩) 0 n)) w') :
    wpList P ops Q (o :: rest) ac w := by
  obtain ⟨i, hi, hz0, hz1, hz2⟩ := info_parts hT.info
  subst hC
  refine wpList_plain hgd fun K hK' => ?_
  have hb2 : ((i.bytes * n : Nat) : Int) ≤ 281474976710656 := by
    have := Nat.mul_le_mul hby h63
    rw [hz2]; omega
  have hr := run_make (P := P) w T E i z hT.und hi hz0 kl kc 0 n (by omega) (by omega) (by rw [Int.natCast_mul] at hb2; exact hb2) (by omega)
  unfold Oper.wp
  simp [execOp, ho, hl, hc, hr, Result.andThen]
  have ho := World.ownsRow_made (base := w.heap.size) (e := E) (size := 1) w (madeCells z.cells (n * i.size)) n (Nat.le_refl _) (by unfold maxLen; omega) (by rw [size_madeCells, hz1])
  have hk := h (w.alloc (.cells (madeCells z.cells (n * i.size)) E)) ⟨rfl, Nat.zero_le _, ho⟩ ((Below.refl _ _).alloc (Nat.le_refl _) _) (by simp)
  exact hK' _ _ hk
end
end Go.Proofs.Ytpcmlnleompibaa

namespace Go.Proofs.Ytpcmlnleompibaa
open Go.RowKit
set_option linter.unusedVariables false

/-- A box of five cells. -/
theorem bx5 {w : World} {g : Nat} {E : TypeId} {v0 v1 v2 v3 v4 : Value} (h : w.heap[g]? = some (.cells #[v0, v1, v2, v3, v4] E (0, 0))) :
    w.cell? ⟨g, 0, none⟩ = some v0 ∧ w.cell? ⟨g, 1, none⟩ = some v1 ∧ w.cell? ⟨g, 2, none⟩ = some v2 ∧ w.cell? ⟨g, 3, none⟩ = some v3 ∧ w.cell? ⟨g, 4, none⟩ = some v4 :=
  ⟨by rw [cell_of_row w g 0 _ _ _ h]; rfl, by rw [cell_of_row w g 1 _ _ _ h]; rfl, by rw [cell_of_row w g 2 _ _ _ h]; rfl, by rw [cell_of_row w g 3 _ _ _ h]; rfl, by rw [cell_of_row w g 4 _ _ _ h]; rfl⟩

theorem bx_thaw {w : World} {g : Nat} {E : TypeId} {vs : Array Value} (h : w.heap[g]? = some (.cells vs E (0, 0))) (i : Nat) : w.frozen? ⟨g, i, none⟩ = false := frozen_of_row w g i _ _ h

theorem one_bx {w w1 : World} {E : TypeId} {u : Array Value} (g1 : Below (w.alloc (.cells u E)).heap.size (w.alloc (.cells u E)) w1) : w1.heap[w.heap.size]? = some (.cells u E (0, 0)) ∧ Below w.heap.size w w1 ∧ w.heap.size + 1 ≤ w1.heap.size :=
  ⟨bx_below (heap_alloc_new _ _) g1, (bnew0 w _).trans (g1.mono (by simp)), by have := g1.size; rw [heap_size_alloc] at this; exact this⟩
end Go.Proofs.Ytpcmlnleompibaa

namespace Go.Proofs.Ytpcmlnleompibaa
open Go.RowKit

theorem tY : ElT Try.prog 23 5 (.int .u8 0) 1 := ⟨by kernel_rfl, by kernel_rfl, by kernel_rfl, by kernel_rfl, by kernel_rfl⟩
end Go.Proofs.Ytpcmlnleompibaa

namespace Go.Proofs.Ytpcmlnleompibaa

/-- The lowest m bits of n, the highest one first. -/
def ofL (n : Nat) : Nat → List Bool
  | 0 => []
  | m + 1 => n.testBit m :: ofL n m

/-- The number whose bits these are. -/
def numL (l : List Bool) : Nat := l.foldl (fun n b => 2 * n + b.toNat) 0

/-- The bits of bytes. -/
def obL (b : List UInt8) : List Bool := b.flatMap fun x => ofL x.toNat 8

/-- The bytes of bits; what is left over is ignored. -/
def byL (l : List Bool) : List UInt8 := (List.range (l.length / 8)).map fun i => UInt8.ofNat (numL ((l.drop (8 * i)).take 8))

@[simp] theorem ofL_length (n m : Nat) : (ofL n m).length = m := by
  induction m with
  | zero => rfl
  | succ m ih => simp [ofL, ih]

theorem ofL_get (n : Nat) : ∀ m i, i < m → (ofL n m)[i]? = some (n.testBit (m - 1 - i)) := by
  intro m
  induction m with
  | zero => intro i h; omega
  | succ m ih =>
    intro i h
    cases i with
    | zero => simp [ofL]
    | succ i =>
      simp only [ofL, List.getElem?_cons_succ]
      rw [ih i (by omega)]
      congr 2
      omega

theorem numL_foldl (l : List Bool) : ∀ n, l.foldl (fun n b => 2 * n + b.toNat) n = n * 2 ^ l.length + numL l := by
  induction l with
  | nil => intro n; simp [numL]
  | cons b l ih =>
    intro n
    simp only [List.foldl_cons, List.length_cons, numL]
    rw [ih, ih (2 * 0 + b.toNat), Nat.pow_succ]
    simp only [Nat.mul_zero, Nat.zero_add, Nat.add_mul]
    rw [← Nat.add_assoc, Nat.mul_assoc, Nat.mul_comm 2, Nat.mul_assoc, Nat.mul_comm n]

theorem numL_cons (b : Bool) (l : List Bool) : numL (b :: l) = b.toNat * 2 ^ l.length + numL l := by
  have := numL_foldl l (2 * 0 + b.toNat)
  simpa [numL] using this

theorem numL_append (l m : List Bool) : numL (l ++ m) = numL l * 2 ^ m.length + numL m := by
  have := numL_foldl m (numL l)
  simpa [numL, List.foldl_append] using this

theorem numL_snoc (l : List Bool) (b : Bool) : numL (l ++ [b]) = 2 * numL l + b.toNat := by
  rw [numL_append]; simp [numL]; omega

theorem numL_lt (l : List Bool) : numL l < 2 ^ l.length := by
  induction l with
  | nil => simp [numL]
  | cons b l ih =>
    rw [numL_cons, List.length_cons, Nat.pow_succ]
    cases b <;> simp <;> omega

theorem testBit_split (n m : Nat) : n % 2 ^ (m + 1) = (n.testBit m).toNat * 2 ^ m + n % 2 ^ m := by
  rw [Nat.testBit_eq_decide_div_mod_eq, Nat.pow_succ, Nat.mod_mul]
  rcases Nat.mod_two_eq_zero_or_one (n / 2 ^ m) with h | h <;> simp [h] <;> omega

theorem numL_ofL (n m : Nat) : numL (ofL n m) = n % 2 ^ m := by
  induction m with
  | zero => simp [ofL, numL]; omega
  | succ m ih => rw [ofL, numL_cons, ih, ofL_length, testBit_split]

theorem ofL_mod (n m k : Nat) (h : m ≤ k) : ofL (n % 2 ^ k) m = ofL n m := by
  induction m with
  | zero => rfl
  | succ m ih => rw [ofL, ofL, ih (by omega), Nat.testBit_mod_two_pow]; simp; omega

theorem ofL_add (n i j : Nat) : ofL n (i + j) = ofL (n / 2 ^ j) i ++ ofL n j := by
  induction i with
  | zero => simp [ofL]
  | succ i ih =>
    rw [show i + 1 + j = i + j + 1 from by omega, ofL, ofL, ih, Nat.testBit_div_two_pow, Nat.add_comm i j]
    rfl

theorem ofL_snoc (n m : Nat) : ofL n (m + 1) = ofL (n / 2) m ++ [decide (n % 2 = 1)] := by
  have := ofL_add n m 1
  rw [this]
  simp [ofL, Nat.testBit_zero]

theorem ofL_numL (l : List Bool) : ofL (numL l) l.length = l := by
  induction l with
  | nil => rfl
  | cons b l ih =>
    have hlt := numL_lt l
    have h1 : (numL (b :: l)).testBit l.length = b := by
      rw [Nat.testBit_eq_decide_div_mod_eq, numL_cons, Nat.mul_comm, Nat.mul_add_div (Nat.two_pow_pos _), Nat.div_eq_of_lt hlt]
      cases b <;> simp
    have h2 : ofL (numL (b :: l)) l.length = l := by
      rw [← ofL_mod _ _ _ (Nat.le_refl _), numL_cons, Nat.mul_comm, Nat.mul_add_mod, Nat.mod_eq_of_lt hlt, ih]
    rw [List.length_cons, ofL, h1, h2]

theorem obL_append (a b : List UInt8) : obL (a ++ b) = obL a ++ obL b := by simp [obL]

theorem obL_cons (x : UInt8) (b : List UInt8) : obL (x :: b) = ofL x.toNat 8 ++ obL b := by simp [obL]

theorem obL_length (b : List UInt8) : (obL b).length = 8 * b.length := by
  induction b with
  | nil => rfl
  | cons x b ih => rw [obL_cons, List.length_append, ofL_length, ih, List.length_cons]; omega

theorem byL_get (l : List Bool) (i : Nat) (h : i < l.length / 8) : (byL l)[i]? = some (UInt8.ofNat (numL ((l.drop (8 * i)).take 8))) := by
  simp [byL, h]

theorem byL_length (l : List Bool) : (byL l).length = l.length / 8 := by simp [byL]

theorem obL_chunk (b : List UInt8) (i : Nat) (x : UInt8) (h : b[i]? = some x) : ((obL b).drop (8 * i)).take 8 = ofL x.toNat 8 := by
  induction b generalizing i with
  | nil => simp at h
  | cons y b ih =>
    cases i with
    | zero =>
      simp only [List.getElem?_cons_zero, Option.some.injEq] at h
      subst h
      rw [obL_cons, Nat.mul_zero, List.drop_zero, List.take_left' (by simp)]
    | succ i =>
      rw [obL_cons, List.drop_append, ofL_length, List.drop_eq_nil_of_le (by simp; omega), List.nil_append]
      have := ih i (by simpa using h)
      rwa [show 8 * (i + 1) - 8 = 8 * i from by omega]

theorem byL_obL (b : List UInt8) (m : List Bool) (hm : m.length < 8) : byL (obL b ++ m) = b := by
  apply List.ext_getElem?
  intro i
  have hl : (obL b ++ m).length / 8 = b.length := by rw [List.length_append, obL_length]; omega
  by_cases hi : i < b.length
  · rw [byL_get _ _ (by omega)]
    have hx : b[i]? = some b[i] := by simp [hi]
    rw [hx, List.drop_append_of_le_length (by rw [obL_length]; omega), List.take_append_of_le_length (by rw [List.length_drop, obL_length]; omega), obL_chunk b i _ hx, numL_ofL]
    congr 1
    have := b[i].toNat_lt
    rw [Nat.mod_eq_of_lt (by omega)]
    exact UInt8.ofNat_toNat
  · rw [List.getElem?_eq_none (by rw [byL_length]; omega), List.getElem?_eq_none (by omega)]

theorem take_snoc {α : Type} {l : List α} {k : Nat} {x : α} (h : l[k]? = some x) : l.take (k + 1) = l.take k ++ [x] := by
  rw [List.take_add_one, h]; rfl

theorem num_step {l : List Bool} {k m : Nat} {b : Bool} (h : l[k]? = some b) (hm : m = numL (l.take k) % 4294967296) : (m * 2 % 4294967296) ||| b.toNat = numL (l.take (k + 1)) % 4294967296 := by
  rw [take_snoc h, numL_snoc]
  have hh : (m * 2 % 4294967296) = 2 ^ 1 * (m % 2147483648) := by omega
  rw [hh, ← Nat.two_pow_add_eq_or_of_lt (show b.toNat < 2 ^ 1 from by cases b <;> simp)]
  cases b <;> simp <;> omega
end Go.Proofs.Ytpcmlnleompibaa

namespace Go.Proofs.Ytpcmlnleompibaa
open Go.RowKit
set_option linter.unusedVariables false

theorem tB : ElT Try.prog 26 4 (.bool false) 1 := ⟨by kernel_rfl, by kernel_rfl, by kernel_rfl, by kernel_rfl, by kernel_rfl⟩

/-- A bit as its letter. -/
def chB (x : Bool) : UInt8 := if x then 114 else 100

end Go.Proofs.Ytpcmlnleompibaa

namespace Go.Proofs.Ytpcmlnleompibaa
open Go.RowKit
set_option linter.unusedVariables false

theorem fill_any (w : World) (g off n c x : Nat) (a : Option Addr) (cur : Array Value) (hx : x < 4294967296) (ha : 0 < n → a = some ⟨g, off, none⟩) (hg : w.heap[g]? = some (.cells cur 4 (0, 0))) (hfit : off + n ≤ cur.size) (hn : n ≤ 1000000) :
    Calls Try.prog 73 #[.slice a n c, .int .u32 (x : Int)] w fun e w' => e = .returned (.tuple #[]) ∧ (∃ cur', w'.heap[g]? = some (.cells cur' 4 (0, 0)) ∧ cur'.size = cur.size ∧
      (∀ j, off ≤ j → j < off + n → cur'[j]? = some (.bool (x.testBit (n - 1 - (j - off))))) ∧ ∀ j, (j < off ∨ off + n ≤ j) → cur'[j]? = cur[j]?) ∧ w.grownBy w' (some g) := by
  go_enter Try.func73, Try.ntmps73
  go_wp2
  go_loopw [11] (fun i wr => ∃ k : Nat, k ≤ n ∧ i = .int .i64 k ∧ (∃ cur', wr.heap[g]? = some (.cells cur' 4 (0, 0)) ∧ cur'.size = cur.size ∧
      (∀ j, off ≤ j → j < off + k → cur'[j]? = some (.bool (x.testBit (n - 1 - (j - off))))) ∧ ∀ j, (j < off ∨ off + k ≤ j) → cur'[j]? = cur[j]?) ∧ w.grownBy wr (some g)) (fun i _ => n - (intOf i).toNat)
  case atStart => exact ⟨0, Nat.zero_le _, rfl, ⟨cur, hg, rfl, fun j h1 h2 => by omega, fun j _ => rfl⟩, World.grownBy.refl _ _⟩
  case round =>
    obtain ⟨k, hk, rfl, ⟨cur', hg', hs', hin, hout⟩, hgr⟩ := hrel
    have HIN := hid hin; clear hin
    have HOUT := hid hout; clear hout
    have HG := hid hg'
    by_cases hlt : k < n
    · obtain rfl := ha (by omega)
      have hc : wr.cell? ⟨g, off + k, none⟩ = some cur'[off + k] := by
        rw [cell_of_row wr g (off + k) cur' _ _ hg']; simp [show off + k < cur'.size by omega]
      obtain ⟨v0, hv0⟩ : ∃ v0, v0 = cur'[off + k] := ⟨_, rfl⟩
      rw [← hv0] at hc
      clear hv0
      have hf : wr.frozen? ⟨g, off + k, none⟩ = false := frozen_of_row wr g (off + k) cur' _ hg'
      obtain ⟨y, hy⟩ : ∃ y : Nat, y = x / 2 ^ (n - 1 - k) := ⟨_, rfl⟩
      have hy1 : y < 4294967296 := by rw [hy]; exact Nat.lt_of_le_of_lt (Nat.div_le_self _ _) hx
      have hsh : Op.shift .shr .u32 (x : Int) .i64 ((n : Int) - 1 - (k : Int)) = pure (.int .u32 (y : Int)) := by
        rw [shift_shr_any _ _ _ _ (by omega), show ((n : Int) - 1 - (k : Int)).toNat = n - 1 - k from by omega, hy]
        congr 2
        by_cases hs : n - 1 - k ≤ 32
        · rw [show min (n - 1 - k) IntKind.u32.bits = n - 1 - k from Nat.min_eq_left hs]; norm_cast
        · have h2 : x / 2 ^ (n - 1 - k) = 0 := Nat.div_eq_of_lt (Nat.lt_of_lt_of_le hx (Nat.pow_le_pow_right (n := 2) (i := 32) (by decide) (by omega)))
          rw [show min (n - 1 - k) IntKind.u32.bits = 32 from Nat.min_eq_right (show 32 ≤ n - 1 - k by omega), h2]
          show (x : Int) / 2 ^ 32 = 0
          omega
      obtain ⟨bt, hbt⟩ : ∃ bt, bt = x.testBit (n - 1 - k) := ⟨_, rfl⟩
      have hb1 : (bits .and .u32 (y : Int) 1 == 1) = bt := by
        rw [show ((1 : Int)) = ((1 : Nat) : Int) from rfl, (u32_bits y 1 hy1 (by omega)).1, hbt, hy, Nat.testBit_eq_decide_div_mod_eq, Nat.and_one_is_mod, Bool.eq_iff_iff]
        simp
        norm_cast
      have HB := hid hbt; clear hbt
      clear hg' hy
      go_wp2
      go_roundw
      case rel =>
        have hset := heap_setCell_same wr g (off + k) cur' _ (.bool bt) HG.out
        refine ⟨k + 1, by omega, by go_num, ⟨_, hset, by simpa using hs', fun j h1 h2 => ?_, fun j h1 => ?_⟩, ?_⟩
        · rw [Array.getElem?_setIfInBounds]
          split
          · rename_i e; subst e; rw [if_pos (by omega), HB.out]; congr 4; omega
          · exact HIN.out j h1 (by omega)
        · rw [Array.getElem?_setIfInBounds, if_neg (by omega)]
          exact HOUT.out j (by omega)
        · exact ⟨hgr.os, hgr.tape, hgr.output, by simpa using hgr.size, fun q h1 h2 => (Below.heap_setCell _ _ _ _ (by simpa using h2)).trans (hgr.block q h1 h2)⟩
      case measure => simp [intOf]; omega
    · obtain rfl : k = n := by omega
      clear hg'
      go_wp2
      go_end0
      exact ⟨rfl, ⟨cur', HG.out, hs', HIN.out, HOUT.out⟩, hgr⟩

/-- How many bits Of gives. -/
def clampM (many : Int) : Nat := (min (max many 0) 64).toNat

theorem of_any (w : World) (x : Nat) (many : Int) (hx : x < 4294967296) (hm : -9223372036854775808 ≤ many ∧ many ≤ 9223372036854775807) :
    Calls Try.prog 68 #[.int .u32 (x : Int), .int .i64 many] w fun e w' => ∃ a c, e = .returned (.slice a (clampM many) c) ∧ OL .bool 4 w.heap.size w' a (clampM many) c (ofL x (clampM many)) ∧ Below w.heap.size w w' := by
  obtain ⟨m, hm0⟩ : ∃ m, m = clampM many := ⟨_, rfl⟩
  have hm64 : m ≤ 64 := by rw [hm0]; unfold clampM; omega
  have hcase : (many < 0 ∧ m = 0) ∨ (many > 64 ∧ m = 64) ∨ many = (m : Int) := by rw [hm0]; unfold clampM; omega
  rw [← hm0]
  clear hm0
  rcases hcase with ⟨h1, h2⟩ | ⟨h1, h2⟩ | h2
  all_goals
    have H2 := hid h2
    first | (have h3 : 0 ≤ many ∧ many ≤ 64 := by omega) | skip
    clear h2
    go_enter Try.func68, Try.ntmps68
    go_wp2_with (first
      | (at_make; refine wpList_mk (f := Value.bool) (n := m) tB false rfl rfl _ _ rfl _ _ _ _ rfl rfl (by have := H2.out; omega) (by have := H2.out; omega) (by omega) (by omega) ?_; intro w1 hown hb1 hs1; obtain ⟨cur, _, hg, hcs, _, _⟩ := hown.full)
      | (go_at_call 73; refine (fill_any w1 w.heap.size 0 _ _ x _ cur hx (fun _ => rfl) hg (by omega) (by omega)).mono ?_; rintro e w2 ⟨rfl, ⟨cur', hg', hs', hin, _⟩, hgr⟩))
    go_ret
    refine ⟨_, _, rfl, ol_of_cells hg' (Nat.le_refl _) (hs'.trans hcs) (by omega) (by simp) (fun j b hb => ?_), hb1.trans ((Below.refl _ _).grown hgr (by omega) (fun q hq => by simp at hq; omega))⟩
    have hj : j < (ofL x _).length := (List.getElem?_eq_some_iff.1 hb).1
    rw [ofL_length] at hj
    rw [ofL_get _ _ _ hj] at hb
    simp only [Option.some.injEq] at hb
    subst hb
    rw [hin j (by omega) (by omega)]
    simp

theorem ofBytes_any (w : World) (a : Option Addr) (n c : Nat) (l : List UInt8) (h : RL bv w a n c l) (hn : n ≤ 100000) :
    Calls Try.prog 52 #[.slice a n c] w fun e w' => ∃ a' c', e = .returned (.slice a' (8 * n) c') ∧ OL .bool 4 w.heap.size w' a' (8 * n) c' (obL l) ∧ Below w.heap.size w w' := by
  go_enter Try.func52, Try.ntmps52
  go_wp2_with (at_make; refine wpList_mk (f := Value.bool) (n := 8 * n) tB false rfl rfl _ _ rfl _ _ _ _ rfl rfl (by omega) (by omega) (by omega) (by omega) ?_; intro w1 hown hb1 hs1; obtain ⟨cur, _, hg, hcs, _, _⟩ := hown.full)
  go_loopw [12] (fun i wr => ∃ k : Nat, k ≤ n ∧ i = .int .i64 k ∧ (∃ cur', wr.heap[w.heap.size]? = some (.cells cur' 4 (0, 0)) ∧ cur'.size = 8 * n ∧ ∀ j, j < 8 * k → cur'[j]? = ((obL l)[j]?).map Value.bool) ∧ w1.grownBy wr (some w.heap.size)) (fun i _ => n - (intOf i).toNat)
  case atStart => exact ⟨0, Nat.zero_le _, rfl, ⟨cur, hg, hcs, fun j hj => by omega⟩, World.grownBy.refl _ _⟩
  case round =>
    obtain ⟨k, hk, rfl, ⟨cur', hg', hs', hin⟩, hgr⟩ := hrel
    by_cases hlt : k < n
    · have HIN := hid hin; clear hin
      have HG := hid hg'; clear hg'
      have hrr := h.below (hb1.trans ((Below.refl w.heap.size w1).grown hgr (by omega) (fun q hq => by simp at hq; omega)))
      obtain ⟨b, off, x, rfl, hx, hck⟩ := hrr.at hlt
      have hx8 := x.toNat_lt
      change wr.cell? ⟨b, off + k, none⟩ = some (.int .u8 (x.toNat : Int)) at hck
      clear hrr
      have HX := hid hx; clear hx
      go_wp2_with (go_at_call 73; refine (fill_any wr w.heap.size (k * 8) _ _ x.toNat _ cur' (by omega) (fun _ => rfl) HG.out (by omega) (by omega)).mono ?_; rintro e w2 ⟨rfl, hpost, hgr2⟩; have HP := hid hpost; clear hpost)
      go_roundw
      case rel =>
        obtain ⟨cur2, hg2, hs2, hin2, hout2⟩ := HP.out
        refine ⟨k + 1, by omega, by go_num, ⟨cur2, hg2, hs2.trans hs', fun j hj => ?_⟩, ⟨hgr2.os.trans hgr.os, hgr2.tape.trans hgr.tape, hgr2.output.trans hgr.output, Nat.le_trans hgr.size hgr2.size, fun q h1 h2 => (hgr2.block q (Nat.lt_of_lt_of_le h1 hgr.size) h2).trans (hgr.block q h1 h2)⟩⟩
        by_cases hj8 : j < 8 * k
        · rw [hout2 j (by omega)]; exact HIN.out j hj8
        · have hch := obL_chunk l k x HX.out
          have e1 : (obL l)[j]? = (ofL x.toNat 8)[j - 8 * k]? := by
            rw [← hch, List.getElem?_take, if_pos (by omega), List.getElem?_drop]; congr 1; omega
          rw [hin2 j (by omega) (by omega), e1, ofL_get _ _ _ (by omega)]
          simp only [Option.map_some]
          congr 3
          omega
      case measure => simp [intOf]; omega
    · obtain rfl : k = n := by omega
      have HIN := hid hin; clear hin
      have HG := hid hg'; clear hg'
      go_wp2
      go_ret
      refine ⟨_, _, rfl, ol_of_cells HG.out (Nat.le_refl _) hs' (by omega) (by rw [obL_length, h.len]) (fun j b hb => ?_), hb1.trans ((Below.refl _ _).grown hgr (by omega) (fun q hq => by simp at hq; omega))⟩
      have hj : j < (obL l).length := (List.getElem?_eq_some_iff.1 hb).1
      rw [obL_length, h.len] at hj
      rw [HIN.out j hj, hb]; rfl
end Go.Proofs.Ytpcmlnleompibaa
