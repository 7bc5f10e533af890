/-
  Texts of this place, put together: Base, BaseK, Fv, M16, Open, Base2, Box5, Ty, Rw, Open10, Ch, Rst, LdM, TyB, M1, Low, B1n, B3b, B4, B4b, B4c, B4i, B16, B16b, B16c. What stands here is used by the statement; conditions: none of their own.
-/
import Derived.Deep.Light
import Derived.BigGuard
import Derived.Laws.BitsAllLaws
import Derived.Test.YtihafoeimpjdaaaRows
import Derived.WalkKit
import Derived.ProofKit
import Derived.OpenShut
import Derived.Laws.AppendOwnNone
import Derived.Laws.CopyOwn
import Derived.Deep.Grids
import Derived.Deep.DeepAppendRoom
import Derived.Deep.LoopGhost
import Derived.Deep.RegionHeld3
import Derived.Deep.RegionWith
import Derived.Deep.Cut
import Derived.BigQuiet
import Derived.Laws.Tables
import Derived.Laws.Rows
import Derived.Laws.EntriesVeiled
import Derived.Lib.SliceRun
import Derived.Deep.MidRow
import Derived.Lib.SmallJoins
import Derived.Deep.SlicePairs
import Derived.OrdersHeld
import Derived.Deep.Quiet
import Derived.Lib.QuietBelow
import Derived.RangeFuncNested
import Derived.RangeFuncBound
import Derived.RangeFuncCalls
import Derived.RangeFuncLeaves
import Derived.Shelf.Abstract
import Derived.Shelf.RegionOpen
import Derived.OwnWalkIn
import Derived.TacticsInMore
import Derived.LoopNIn
import Derived.LoopIn
import Derived.WalkSmall
import Derived.StillTailTactics
namespace Go.Proofs.Ytihafoeimpjdaaa
open Go.RowKit

theorem hid {p : Prop} (h : p) : Hid p := h
theorem ret_bool {a b : Bool} (h : a = b) : Ending.returned (.bool a) = .returned (.bool b) := by rw [h]
theorem bstep {w w' w'' : World} (h : Below w.heap.size w w') (h2 : Below w'.heap.size w' w'') : Below w.heap.size w w'' := h.trans (h2.mono h.size)
theorem bnew {w w' : World} (h : Below w.heap.size w w') (o : Obj) : Below w.heap.size w (w'.alloc o) := h.alloc h.size o
theorem bnew0 (w : World) (o : Obj) : Below w.heap.size w (w.alloc o) := (Below.refl _ _).alloc (Nat.le_refl _) o

/-- What is known of an element type and of the slices of it: one closed fact per type. -/
structure ElT (P : Program) (T E : TypeId) (z : Value) (bytes : Nat) : Prop where
  und : P.underlying T = some (.slice E)
  el : P.elem T = E
  size : P.cellsOf E = 1
  info : (P.info? E).map (fun i => (i.zero, i.size, i.bytes)) = some (some z, 1, bytes)
  zc : z.cells.size = 1

/-- '.slice a n c' reads, at w, as the list l of elements that f writes. -/
structure RL {α : Type} (f : α → Value) (w : World) (a : Option Addr) (n c : Nat) (l : List α) : Prop where
  len : l.length = n
  cap : n ≤ c
  cell : 0 < n → ∃ b off, a = some ⟨b, off, none⟩ ∧ b < w.heap.size ∧ ∀ i x, l[i]? = some x → w.cell? ⟨b, off + i, none⟩ = some (f x)

/-- '.slice a n c' is a row of the call's own, from block B on, that reads as l. -/
def OL {α : Type} (f : α → Value) (E : TypeId) (B : Nat) (w : World) (a : Option Addr) (n c : Nat) (l : List α) : Prop :=
  l.length = n ∧ n ≤ c ∧ w.ownsRow B E 1 (.slice a n c) n (l.map f)

section
variable {α : Type} {f : α → Value} {E : TypeId} {B : Nat} {w w' : World} {a : Option Addr} {n c : Nat} {l : List α}

theorem RL.at (h : RL f w a n c l) {k : Nat} (hk : k < n) :
    ∃ b off x, a = some ⟨b, off, none⟩ ∧ l[k]? = some x ∧ w.cell? ⟨b, off + k, none⟩ = some (f x) := by
  obtain ⟨b, off, ha, hb, hc⟩ := h.cell (by omega)
  have hl : k < l.length := by rw [h.len]; exact hk
  exact ⟨b, off, l[k], ha, by simp [hl], hc k _ (by simp [hl])⟩

theorem RL.nil (f : α → Value) (w : World) (a : Option Addr) (c : Nat) : RL f w a 0 c [] := ⟨rfl, Nat.zero_le _, fun h => absurd h (by omega)⟩

/-- What reads below B reads on. -/
theorem RL.below (h : RL f w a n c l) (hb : Below w.heap.size w w') : RL f w' a n c l :=
  ⟨h.len, h.cap, fun hn => by
    obtain ⟨b, off, ha, hlt, hc⟩ := h.cell hn
    exact ⟨b, off, ha, Nat.lt_of_lt_of_le hlt hb.size, fun i x hx => (hb.cell (p := ⟨b, off + i, none⟩) hlt).trans (hc i x hx)⟩⟩

theorem RL.drew (h : RL f w a n c l) : RL f w.drew a n c l := ⟨h.len, h.cap, h.cell⟩

theorem OL.drew (h : OL f E B w a n c l) : OL f E B w.drew a n c l := h

theorem OL.len (h : OL f E B w a n c l) : l.length = n := h.1
theorem OL.cap (h : OL f E B w a n c l) : n ≤ c := h.2.1
theorem OL.own (h : OL f E B w a n c l) : w.ownsRow B E 1 (.slice a n c) n (l.map f) := h.2.2

theorem OL.rl (h : OL f E B w a n c l) : RL f w a n c l := by
  refine ⟨h.len, h.cap, fun hn => ?_⟩
  have ho := h.own
  rcases ho.2 with ⟨h', h0⟩ | ⟨g, cap, cur, h', hb, hg, hnc, hcm, hcs, htake⟩
  · omega
  · simp only [Value.slice.injEq, true_and] at h'
    obtain ⟨rfl, rfl⟩ := h'
    refine ⟨g, 0, rfl, (Array.getElem?_eq_some_iff.1 hg).1, fun i x hx => ?_⟩
    have hi : i < l.length := (List.getElem?_eq_some_iff.1 hx).1
    rw [Nat.zero_add, ho.cellAt i (by rw [Nat.mul_one, ← h.len]; exact hi), List.getElem?_map, hx]
    rfl

theorem OL.mono {B' : Nat} (h : OL f E B w a n c l) (hB : B' ≤ B) : OL f E B' w a n c l := by
  refine ⟨h.len, h.cap, h.own.1, ?_⟩
  rcases h.own.2 with hn | ⟨g, cap, cur, hv, hb, rest⟩
  · exact .inl hn
  · exact .inr ⟨g, cap, cur, hv, Nat.le_trans hB hb, rest⟩

/-- What the call owns is still owned behind whatever leaves all blocks of now as they are. -/
theorem OL.below (h : OL f E B w a n c l) (hb : Below w.heap.size w w') : OL f E B w' a n c l := by
  refine ⟨h.len, h.cap, h.own.1, ?_⟩
  rcases h.own.2 with hn | ⟨g, cap, cur, hv, hB, hg, rest⟩
  · exact .inl hn
  · exact .inr ⟨g, cap, cur, hv, hB, by rw [hb.block g (Array.getElem?_eq_some_iff.1 hg).1]; exact hg, rest⟩

theorem OL.alloc (h : OL f E B w a n c l) (o : Obj) : OL f E B (w.alloc o) a n c l := ⟨h.len, h.cap, h.own.alloc o⟩

theorem OL.nil (f : α → Value) (E : TypeId) (B : Nat) (w : World) : OL f E B w none 0 0 [] := ⟨rfl, Nat.le_refl _, World.ownsRow_nil _ _ _ _⟩

/-- The address of what is owned: nil, or the head of a block. -/
theorem OL.ex (h : OL f E B w a n c l) : (a = none ∧ n = 0 ∧ c = 0 ∧ l = []) ∨ ∃ g cur, a = some ⟨g, 0, none⟩ ∧ B ≤ g ∧ w.heap[g]? = some (.cells cur E (0, 0)) ∧ cur.size = c := by
  rcases h.own.2 with ⟨h', h0⟩ | ⟨g, cap, cur, h', hb, hg, hnc, hcm, hcs, htake⟩
  · simp only [Value.slice.injEq] at h'
    obtain ⟨rfl, _, rfl⟩ := h'
    subst h0
    exact .inl ⟨rfl, rfl, rfl, List.eq_nil_of_length_eq_zero h.len⟩
  · simp only [Value.slice.injEq, true_and] at h'
    obtain ⟨rfl, rfl⟩ := h'
    exact .inr ⟨g, cur, rfl, hb, hg, by simpa using hcs⟩

theorem of_ownsRow {v : Value} {xs : List Value} (h : w.ownsRow B E 1 v n xs) (hx : xs = l.map f) : ∃ a c, v = .slice a n c ∧ OL f E B w a n c l := by
  subst hx
  have hl : l.length = n := by simpa using h.1
  rcases h.2 with ⟨rfl, h0⟩ | ⟨g, cap, cur, rfl, hb, hg, hnc, hcm, hcs, htake⟩
  · subst h0
    exact ⟨none, 0, rfl, hl, Nat.le_refl _, h⟩
  · exact ⟨some ⟨g, 0, none⟩, cap, rfl, hl, hnc, h⟩
end

section
variable {α : Type} {f : α → Value} {E T : TypeId} {z : Value} {bytes : Nat} {B : Nat} {w : World} {P : Program} {l m : List α} {n c : Nat} {a : Option Addr}

/-- 'append(v, x...)', v of the call's own, x whatever reads as a list. -/
theorem wp_app {o : Oper} {ac : Act} {K : Act → World → Prop} {Q : Exit → Act → World → Prop} (hT : ElT P T E z bytes) (s x : Operand)
    (ho : o.op = .call { callee := .builtin .append, args := #[s, x], argTypes := #[T, T] })
    {a2 : Option Addr} {n2 c2 : Nat} (hs : ac.eval s = .slice a n c) (hown : OL f E B w a n c l) (hx : ac.eval x = .slice a2 n2 c2) (hr : RL f w a2 n2 c2 m)
    (h1 : ∀ u, (f u).oneCell' = true) (h63 : n + n2 ≤ 1000000000) (hby : bytes ≤ 64) (hbase : B ≤ w.heap.size)
    (h : ∀ w' a' c', OL f E B w' a' (n + n2) c' (l ++ m) → Below B w w' → K (ac.put o.dst (.slice a' (n + n2) c')) w') : o.wp P ac w K Q := by
  obtain ⟨i, hi, hz0, hz1, hz2⟩ := info_parts hT.info
  have hbl : ∀ k, (Value.slice a n c).ownBlock = some k → B ≤ k := fun k hk => (hown.own.lt k hk).1
  by_cases h0 : n2 = 0
  · subst h0
    have hm : m = [] := List.eq_nil_of_length_eq_zero hr.len
    subst hm
    have hrun : (Builtin.append_ #[T, T] o.type #[.slice a n c, .slice a2 0 c2]).run P w = .ok (.slice a n c) w := by
      rcases hown.own.2 with ⟨h', h0⟩ | ⟨g, cap, cur, h', _, _, hnc, _⟩
      · simp only [Value.slice.injEq] at h'
        obtain ⟨rfl, rfl, rfl⟩ := h'
        cases a2 <;> simp [Builtin.append_, run_underlying hT.und, sizeOf, typeInfo, hi, Builtin.lenOf, Builtin.firstCells, loadCells, loadCellsFrom]
      · simp only [Value.slice.injEq, true_and] at h'
        obtain ⟨rfl, rfl⟩ := h'
        cases a2 <;> simp [Builtin.append_, run_underlying hT.und, sizeOf, typeInfo, hi, Builtin.lenOf, Builtin.firstCells, hnc, storeCells, loadCells, loadCellsFrom]
    unfold Oper.wp
    simp [execOp, ho, resolve, invoke, builtin, hs, hx, hrun, Result.andThen]
    show K _ _
    simpa using h w a c (by simpa using hown) (Below.refl _ _)
  · obtain ⟨b, off, rfl, hb, hc⟩ := hr.cell (by omega)
    refine wp_append_own _ s x T ho B E i z 1 bytes hT.und hi hz0 hz1 hz2 hT.zc (by decide) (.slice a n c) n (l.map f) hs hown.own ⟨b, off, none⟩ n2 c2 (m.map f) hx (by simp [hr.len]) ?_ ?_ (by unfold maxLen; omega) ?_ hbase ?_
    · intro j u hu
      rw [List.getElem?_map] at hu
      cases hj : m[j]? with
      | none => rw [hj] at hu; cases hu
      | some y =>
        rw [hj] at hu
        simp only [Option.map_some, Option.some.injEq] at hu
        subst hu
        rw [Addr.add_lit]
        exact hc j y hj
    · intro u hu
      obtain ⟨y, _, rfl⟩ := List.mem_map.1 hu
      exact h1 y
    · have := Nat.mul_le_mul h63 hby
      omega
    · intro v' w' hown' hg _
      obtain ⟨a', c', rfl, hol⟩ := of_ownsRow (f := f) (l := l ++ m) hown' (by simp)
      exact h w' a' c' hol ((Below.refl B w).grown hg hbase hbl)

theorem wpList_app {ops : Array Oper} {rest : List Oper} {o : Oper} {ac : Act} {Q : Exit → Act → World → Prop} (hT : ElT P T E z bytes) (hgd : o.guard = none) (s x : Operand)
    (ho : o.op = .call { callee := .builtin .append, args := #[s, x], argTypes := #[T, T] })
    {a2 : Option Addr} {n2 c2 : Nat} (hs : ac.eval s = .slice a n c) (hown : OL f E B w a n c l) (hx : ac.eval x = .slice a2 n2 c2) (hr : RL f w a2 n2 c2 m)
    (h1 : ∀ u, (f u).oneCell' = true) (h63 : n + n2 ≤ 1000000000) (hby : bytes ≤ 64) (hbase : B ≤ w.heap.size)
    (h : ∀ w' a' c', OL f E B w' a' (n + n2) c' (l ++ m) → Below B w w' → wpList P ops Q rest (ac.put o.dst (.slice a' (n + n2) c')) w') : wpList P ops Q (o :: rest) ac w :=
  wpList_plain hgd fun _ hK => wp_app hT s x ho hs hown hx hr h1 h63 hby hbase fun w' a' c' h2 h3 => hK _ _ (h w' a' c' h2 h3)

/-- 'make([]T, n)': n zero elements, all of the call's own. -/
theorem wpList_mk {ops : Array Oper} {rest : List Oper} {o : Oper} {ac : Act} {Q : Exit → Act → World → Prop} (hT : ElT P T E z bytes) (z0 : α) (hz : z.cells = #[f z0])
    (hgd : o.guard = none) (lo co : Operand) (ho : o.op = Op.makeSlice T lo co) (L C : Int) (kl kc : IntKind) (hl : ac.eval lo = .int kl L) (hc : ac.eval co = .int kc C) (hL : L = (n : Int)) (hC : C = (n : Int))
    (h63 : n ≤ 1000000000) (hby : bytes ≤ 64)
    (h : ∀ w', OL f E w.heap.size w' (some ⟨w.heap.size, 0, none⟩) n n (List.replicate n z0) → Below w.heap.size w w' → w'.heap.size = w.heap.size + 1 → wpList P ops Q rest (ac.put o.dst (.slice (some ⟨w.heap.size, 0, none⟩) n n)) w') :
    wpList P ops Q (o :: rest) ac w := by
  obtain ⟨i, hi, hz0, hz1, hz2⟩ := info_parts hT.info
  subst hL
  subst hC
  refine wpList_plain hgd fun K hK' => ?_
  have hb2 : ((i.bytes * n : Nat) : Int) ≤ 281474976710656 := by
    have := Nat.mul_le_mul hby h63
    rw [hz2]; omega
  have hr := run_make (P := P) w T E i z hT.und hi hz0 kl kc n n (by omega) (Int.le_refl _) (by rw [Int.natCast_mul] at hb2; exact hb2) (by omega)
  unfold Oper.wp
  simp [execOp, ho, hl, hc, hr, Result.andThen]
  have hcz : (madeCells z.cells (n * i.size)).toList = (List.replicate n z0).map f := by rw [hz, toList_madeCells_one]; simp [hz1]
  have ho := World.ownsRow_lit (base := w.heap.size) (e := E) (size := 1) w (madeCells z.cells (n * i.size)) n (Nat.le_refl _) (by unfold maxLen; omega) (by rw [size_madeCells, hz1])
  have hk := h (w.alloc (.cells (madeCells z.cells (n * i.size)) E)) ⟨by simp, Nat.le_refl _, by rw [← hcz]; exact ho⟩ ((Below.refl _ _).alloc (Nat.le_refl _) _) (by simp)
  exact hK' _ _ hk

/-- A cut of what reads as a list reads as the part. -/
theorem RL.sliced (hr : RL f w a n c l) (lo hi s : Nat) (hs : s = 1) (h1 : lo ≤ hi) (h2 : hi ≤ n) :
    ∃ a', Go.sliced a lo hi c s = .slice a' (hi - lo) (c - lo) ∧ RL f w a' (hi - lo) (c - lo) ((l.take hi).drop lo) := by
  subst hs
  refine ⟨_, rfl, by simp [hr.len]; omega, by have := hr.cap; omega, fun hp => ?_⟩
  obtain ⟨b, off, rfl, hb, hc⟩ := hr.cell (by omega)
  have hne : ¬ c = lo := by have := hr.cap; omega
  rw [if_neg hne]
  refine ⟨b, off + lo, by simp [Addr.add_lit], hb, fun i x hx => ?_⟩
  rw [List.getElem?_drop, List.getElem?_take] at hx
  split at hx
  · rw [Nat.add_assoc]; exact hc _ _ hx
  · cases hx

theorem cur_of {cur : Array Value} {E : TypeId} {g : Nat} {c : Nat} (h : OL f E B w (some ⟨g, 0, none⟩) c c l) (hg : w.heap[g]? = some (.cells cur E (0, 0))) (hs : cur.size = c) : cur.toList = l.map f := by
  rcases h.own.2 with ⟨h', _⟩ | ⟨g', cap', cur', h', _, hg', _, _, hcs, htake⟩
  · simp at h'
  · simp only [Value.slice.injEq, Option.some.injEq, Addr.mk.injEq, and_true, true_and] at h'
    obtain ⟨rfl, rfl⟩ := h'
    rw [hg] at hg'
    simp only [Option.some.injEq, Obj.cells.injEq, and_true] at hg'
    subst hg'
    rw [← htake, List.take_of_length_le (by simp [hs])]

/-- 'copy(v, x)', v a full row of the call's own as long as x. -/
theorem wpList_cp {ops : Array Oper} {rest : List Oper} {o : Oper} {ac : Act} {Q : Exit → Act → World → Prop} (hT : ElT P T E z bytes) (hgd : o.guard = none) (d s : Operand)
    (ho : o.op = .call { callee := .builtin .copy, args := #[d, s], argTypes := #[T, T] }) {g : Nat} {a2 : Option Addr} {c2 : Nat}
    (hd : ac.eval d = .slice (some ⟨g, 0, none⟩) n n) (hs : ac.eval s = .slice a2 n c2) (hown : OL f E B w (some ⟨g, 0, none⟩) n n l) (hr : RL f w a2 n c2 m) (h1 : ∀ u, (f u).oneCell' = true)
    (h : ∀ w', OL f E B w' (some ⟨g, 0, none⟩) n n m → Below B w w' → wpList P ops Q rest (ac.put o.dst (goInt n)) w') : wpList P ops Q (o :: rest) ac w := by
  obtain ⟨i, hi, hz0, hz1, hz2⟩ := info_parts hT.info
  have hsz : (P.info? E).map (·.size) = some 1 := by simp [hi, hz1]
  rcases hown.ex with ⟨h0, _⟩ | ⟨g', cur, hg, hBg, hh, hcs⟩
  · cases h0
  simp only [Option.some.injEq, Addr.mk.injEq, and_true] at hg
  subst hg
  by_cases h0 : n = 0
  · subst h0
    refine wpList_copy_nothing hgd d s T T ho E hT.und hsz _ _ 0 0 0 c2 hd hs (by simp) ?_
    have hm : m = [] := List.eq_nil_of_length_eq_zero hr.len
    have hl : l = [] := List.eq_nil_of_length_eq_zero hown.len
    subst hm; subst hl
    exact h w hown (Below.refl _ _)
  · obtain ⟨b, off, rfl, hb, hc⟩ := hr.cell (by omega)
    have hmn : (m.map f).length = n := by simp [hr.len]
    refine wpList_copy_own hgd d s T T ho E hT.und hsz g 0 n n ⟨b, off, none⟩ n c2 hd hs cur E hh (m.map f) (by rw [hmn]; exact (Nat.min_self n).symm) ?_ (by omega) ?_ ?_
    · intro j u hu
      rw [List.getElem?_map] at hu
      cases hj : m[j]? with
      | none => rw [hj] at hu; cases hu
      | some y =>
        rw [hj] at hu
        simp only [Option.map_some, Option.some.injEq] at hu
        subst hu
        rw [Addr.add_lit]
        exact hc j y hj
    · intro u hu
      obtain ⟨y, _, rfl⟩ := List.mem_map.1 hu
      exact h1 y
    · have e : cur.toList.take 0 ++ (m.map f ++ cur.toList.drop (0 + (m.map f).length)) = m.map f := by
        rw [List.drop_eq_nil_of_le (by simp [hcs, hr.len])]; simp
      rw [e, hmn]
      refine h _ ⟨hr.len, Nat.le_refl _, by simp [hr.len], .inr ⟨g, n, (m.map f).toArray, rfl, hBg, setRow_heap w g cur _ E _ hh, Nat.le_refl _, ?_, by simp [hr.len], by rw [List.take_of_length_le (by simp [hr.len])]⟩⟩ (below_setRow (Below.refl _ _) hBg _)
      rcases hown.own.2 with ⟨h', _⟩ | ⟨_, _, _, h', _, _, _, hm, _⟩
      · simp at h'
      · simp only [Value.slice.injEq, true_and] at h'
        obtain ⟨_, rfl⟩ := h'
        exact hm
end

theorem ol_of_cells {α : Type} {f : α → Value} {E : TypeId} {B : Nat} {w : World} {g n : Nat} {cur : Array Value} {l : List α} (hh : w.heap[g]? = some (.cells cur E (0, 0))) (hB : B ≤ g) (hs : cur.size = n) (hm : n ≤ 1000000000) (hl : l.length = n)
    (hc : ∀ (j : Nat) (x : α), l[j]? = some x → cur[j]? = some (f x)) : OL f E B w (some ⟨g, 0, none⟩) n n l := by
  refine ⟨hl, Nat.le_refl _, by simp [hl], .inr ⟨g, n, cur, rfl, hB, hh, Nat.le_refl _, by unfold maxLen; omega, by simpa using hs, ?_⟩⟩
  rw [List.take_of_length_le (by simp [hs])]
  apply List.ext_getElem?
  intro j
  rw [Array.getElem?_toList, List.getElem?_map]
  by_cases hj : j < n
  · obtain ⟨x, hx⟩ : ∃ x, l[j]? = some x := ⟨l[j]'(by omega), by simp [hl, hj]⟩
    rw [hc j _ hx, hx]; rfl
  · rw [List.getElem?_eq_none (show l.length ≤ j by omega), Array.getElem?_eq_none (by omega)]; rfl

theorem ol_lit {α : Type} (f : α → Value) (E : TypeId) (B : Nat) (w : World) (l : List α) (cs : Array Value) (n : Nat) (hcs : cs = (l.map f).toArray) (hn : l.length = n) (hm : n ≤ 1000000000) (hB : B ≤ w.heap.size) :
    OL f E B (w.alloc (.cells cs E)) (some ⟨w.heap.size, 0, none⟩) n n l := by
  subst hcs
  exact ol_of_cells (heap_alloc_new w _) hB (by simp [hn]) hm hn (fun j x hx => by simp [hx])

/-- What is owned, in the block's own words. -/
theorem OL.full {α : Type} {f : α → Value} {E : TypeId} {B : Nat} {w : World} {g n : Nat} {l : List α} (h : OL f E B w (some ⟨g, 0, none⟩) n n l) :
    ∃ cur, B ≤ g ∧ w.heap[g]? = some (.cells cur E (0, 0)) ∧ cur.size = n ∧ n ≤ maxLen ∧ cur.toList = l.map f := by
  rcases h.ex with ⟨h0, _⟩ | ⟨g', cur, hg, hBg, hh, hcs⟩
  · cases h0
  simp only [Option.some.injEq, Addr.mk.injEq, and_true] at hg
  subst hg
  refine ⟨cur, hBg, hh, hcs, ?_, cur_of h hh hcs⟩
  rcases h.own.2 with ⟨h', _⟩ | ⟨_, _, _, h', _, _, _, hm, _⟩
  · simp at h'
  · simp only [Value.slice.injEq, true_and] at h'
    obtain ⟨_, rfl⟩ := h'
    exact hm

/-- A byte as a cell. -/
def bv (x : UInt8) : Value := .int .u8 (x.toNat : Int)

/-- 'string(b)', b whatever reads as bytes. -/
theorem run_bstr {P : Program} {T E S : TypeId} {z : Value} {bytes : Nat} {w : World} {a : Option Addr} {n c : Nat} {l : List UInt8} (hT : ElT P T E z bytes) (he : P.underlying E = some (.int .u8)) (hd : P.underlying S = some .string) (h : RL bv w a n c l) :
    (convert T S (.slice a n c)).run P w = .ok (.string ⟨l.toArray⟩) w := by
  rw [run_convert_bytes_string w T S E a n c hT.und he hd]
  by_cases h0 : n = 0
  · subst h0
    have hl : l = [] := List.eq_nil_of_length_eq_zero h.len
    subst hl
    cases a with
    | none => simp [Conv.bytesToString]; rfl
    | some ad =>
      rw [run_bytesToString w ad 0 c [] (by simp [loadCells, loadCellsFrom])]
      rfl
  · obtain ⟨b, off, rfl, hb, hc⟩ := h.cell (by omega)
    have hl : (loadCells ⟨b, off, none⟩ n).run P w = .ok ((l.map fun x => (x.toNat : Int)).map (Value.int .u8)).toArray w := by
      have := run_loadCells_list (P := P) w ⟨b, off, none⟩ ((l.map fun x => (x.toNat : Int)).map (Value.int .u8)) (fun j v hj => by
        rw [List.map_map, List.getElem?_map] at hj
        cases hx : l[j]? with
        | none => rw [hx] at hj; cases hj
        | some y =>
          rw [hx] at hj
          simp only [Option.map_some, Option.some.injEq] at hj
          subst hj
          rw [Addr.add_lit]
          exact hc j y hx)
      simpa [h.len] using this
    rw [run_bytesToString w _ n c _ hl, foldl_push_bytes]
    simp [ByteArray.empty, ByteArray.emptyWithCapacity, List.map_map, Function.comp_def]
    rfl

end Go.Proofs.Ytihafoeimpjdaaa

namespace Go.Proofs.Ytihafoeimpjdaaa
open Go.RowKit

/-- What is known of an element type of k cells and of the slices of it. -/
structure ElK (P : Program) (T E : TypeId) (k : Nat) (z : Value) (bytes : Nat) : Prop where
  und : P.underlying T = some (.slice E)
  el : P.elem T = E
  size : P.cellsOf E = k
  info : (P.info? E).map (fun i => (i.zero, i.size, i.bytes)) = some (some z, k, bytes)
  zc : z.cells.size = k
  pos : 0 < k

/-- How an element stands in memory: k cells. -/
structure EnK {α : Type} (enc : α → List Value) (k : Nat) : Prop where
  len : ∀ x, (enc x).length = k
  one : ∀ x, ∀ v ∈ enc x, v.oneCell' = true

section
variable {α : Type} {enc : α → List Value} {k : Nat}

theorem flat_len (hk : EnK enc k) (l : List α) : (l.flatMap enc).length = l.length * k := by
  induction l with
  | nil => simp
  | cons x l ih => rw [List.flatMap_cons, List.length_append, hk.len, ih, List.length_cons, Nat.add_mul]; omega

theorem flat_at (hk : EnK enc k) : ∀ (l : List α) (i j : Nat) (x : α) (v : Value), l[i]? = some x → (enc x)[j]? = some v → (l.flatMap enc)[i * k + j]? = some v
  | [], i, j, x, v, h, _ => by simp at h
  | y :: l, 0, j, x, v, h, hv => by
    simp at h
    subst h
    have hj := (List.getElem?_eq_some_iff.1 hv).1
    rw [List.flatMap_cons, Nat.zero_mul, Nat.zero_add, List.getElem?_append_left hj, hv]
  | y :: l, i + 1, j, x, v, h, hv => by
    simp at h
    rw [List.flatMap_cons, List.getElem?_append_right (by rw [hk.len, Nat.add_mul]; omega), hk.len]
    have e : (i + 1) * k + j - k = i * k + j := by rw [Nat.add_mul]; omega
    rw [e]
    exact flat_at hk l i j x v h hv

theorem flat_back (hk : EnK enc k) : ∀ (l : List α) (p : Nat) (v : Value), (l.flatMap enc)[p]? = some v → ∃ i j x, l[i]? = some x ∧ (enc x)[j]? = some v ∧ p = i * k + j
  | [], p, v, h => by simp at h
  | y :: l, p, v, h => by
    rw [List.flatMap_cons] at h
    by_cases hp : p < (enc y).length
    · rw [List.getElem?_append_left hp] at h
      exact ⟨0, p, y, rfl, h, by omega⟩
    · rw [List.getElem?_append_right (by omega)] at h
      obtain ⟨i, j, x, h1, h2, h3⟩ := flat_back hk l _ v h
      rw [hk.len] at h3 hp
      exact ⟨i + 1, j, x, by simpa using h1, h2, by rw [Nat.add_mul]; omega⟩

theorem flat_one (hk : EnK enc k) (l : List α) : ∀ v ∈ l.flatMap enc, v.oneCell' = true := fun v hv => by
  obtain ⟨x, _, hx⟩ := List.mem_flatMap.1 hv
  exact hk.one x v hx
end

/-- '.slice a n c' reads, at w, as the list l of elements of k cells. -/
structure RK {α : Type} (enc : α → List Value) (k : Nat) (w : World) (a : Option Addr) (n c : Nat) (l : List α) : Prop where
  len : l.length = n
  cap : n ≤ c
  cell : 0 < n → ∃ b off, a = some ⟨b, off, none⟩ ∧ b < w.heap.size ∧ ∀ i x j v, l[i]? = some x → (enc x)[j]? = some v → w.cell? ⟨b, off + (i * k + j), none⟩ = some v

/-- '.slice a n c' is a row of the call's own, from block B on, that reads as l. -/
def OK {α : Type} (enc : α → List Value) (k : Nat) (E : TypeId) (B : Nat) (w : World) (a : Option Addr) (n c : Nat) (l : List α) : Prop :=
  l.length = n ∧ n ≤ c ∧ w.ownsRow B E k (.slice a n c) n (l.flatMap enc)

section
variable {α : Type} {enc : α → List Value} {k : Nat} {E : TypeId} {B : Nat} {w w' : World} {a : Option Addr} {n c : Nat} {l m : List α}

theorem RK.nil (enc : α → List Value) (k : Nat) (w : World) (a : Option Addr) (c : Nat) : RK enc k w a 0 c [] := ⟨rfl, Nat.zero_le _, fun h => absurd h (by omega)⟩

theorem RK.below (h : RK enc k w a n c l) (hb : Below w.heap.size w w') : RK enc k w' a n c l :=
  ⟨h.len, h.cap, fun hn => by
    obtain ⟨b, off, ha, hlt, hc⟩ := h.cell hn
    exact ⟨b, off, ha, Nat.lt_of_lt_of_le hlt hb.size, fun i x j v hx hv => (hb.cell (p := ⟨b, _, none⟩) hlt).trans (hc i x j v hx hv)⟩⟩

theorem RK.drew (h : RK enc k w a n c l) : RK enc k w.drew a n c l := ⟨h.len, h.cap, h.cell⟩

theorem OK.len (h : OK enc k E B w a n c l) : l.length = n := h.1
theorem OK.cap (h : OK enc k E B w a n c l) : n ≤ c := h.2.1
theorem OK.own (h : OK enc k E B w a n c l) : w.ownsRow B E k (.slice a n c) n (l.flatMap enc) := h.2.2

theorem OK.rk (hk : EnK enc k) (h : OK enc k E B w a n c l) : RK enc k w a n c l := by
  refine ⟨h.len, h.cap, fun hn => ?_⟩
  have ho := h.own
  rcases ho.2 with ⟨h', h0⟩ | ⟨g, cap, cur, h', hb, hg, hnc, hcm, hcs, htake⟩
  · omega
  · simp only [Value.slice.injEq, true_and] at h'
    obtain ⟨rfl, rfl⟩ := h'
    refine ⟨g, 0, rfl, (Array.getElem?_eq_some_iff.1 hg).1, fun i x j v hx hv => ?_⟩
    have hi : i < l.length := (List.getElem?_eq_some_iff.1 hx).1
    have hj : j < k := by have := (List.getElem?_eq_some_iff.1 hv).1; rwa [hk.len] at this
    have hlt : i * k + j < n * k := by
      have : (i + 1) * k ≤ n * k := Nat.mul_le_mul_right k (by rw [← h.len]; exact hi)
      rw [Nat.add_mul] at this
      omega
    rw [Nat.zero_add, ho.cellAt _ hlt]
    exact flat_at hk l i j x v hx hv

theorem OK.mono {B' : Nat} (h : OK enc k E B w a n c l) (hB : B' ≤ B) : OK enc k E B' w a n c l := by
  refine ⟨h.len, h.cap, h.own.1, ?_⟩
  rcases h.own.2 with hn | ⟨g, cap, cur, hv, hb, rest⟩
  · exact .inl hn
  · exact .inr ⟨g, cap, cur, hv, Nat.le_trans hB hb, rest⟩

theorem OK.below (h : OK enc k E B w a n c l) (hb : Below w.heap.size w w') : OK enc k E B w' a n c l := by
  refine ⟨h.len, h.cap, h.own.1, ?_⟩
  rcases h.own.2 with hn | ⟨g, cap, cur, hv, hB, hg, rest⟩
  · exact .inl hn
  · exact .inr ⟨g, cap, cur, hv, hB, by rw [hb.block g (Array.getElem?_eq_some_iff.1 hg).1]; exact hg, rest⟩

theorem OK.alloc (h : OK enc k E B w a n c l) (o : Obj) : OK enc k E B (w.alloc o) a n c l := ⟨h.len, h.cap, h.own.alloc o⟩

theorem OK.nil (enc : α → List Value) (k : Nat) (E : TypeId) (B : Nat) (w : World) : OK enc k E B w none 0 0 [] := ⟨rfl, Nat.le_refl _, World.ownsRow_nil _ _ _ _⟩

/-- The address of what is owned: nil, or the head of a block. -/
theorem OK.ex (h : OK enc k E B w a n c l) : (a = none ∧ n = 0 ∧ c = 0 ∧ l = []) ∨ ∃ g cur, a = some ⟨g, 0, none⟩ ∧ B ≤ g ∧ w.heap[g]? = some (.cells cur E (0, 0)) ∧ cur.size = c * k ∧ cur.toList.take (n * k) = l.flatMap enc ∧ c ≤ maxLen := by
  rcases h.own.2 with ⟨h', h0⟩ | ⟨g, cap, cur, h', hb, hg, hnc, hcm, hcs, htake⟩
  · simp only [Value.slice.injEq] at h'
    obtain ⟨rfl, _, rfl⟩ := h'
    subst h0
    exact .inl ⟨rfl, rfl, rfl, List.eq_nil_of_length_eq_zero h.len⟩
  · simp only [Value.slice.injEq, true_and] at h'
    obtain ⟨rfl, rfl⟩ := h'
    exact .inr ⟨g, cur, rfl, hb, hg, hcs, htake, hcm⟩

theorem OK.kept (h : OK enc k E B w a n c l) (hk : ∀ g, a = some ⟨g, 0, none⟩ → w'.heap[g]? = w.heap[g]?) : OK enc k E B w' a n c l := by
  refine ⟨h.len, h.cap, h.own.1, ?_⟩
  rcases h.own.2 with hn | ⟨g, cap, cur, hv, hB, hg, rest⟩
  · exact .inl hn
  · refine .inr ⟨g, cap, cur, hv, hB, ?_, rest⟩
    simp only [Value.slice.injEq] at hv
    rw [hk g hv.1]; exact hg

theorem OK.drewN (h : OK enc k E B w a n c l) (q : Nat) : OK enc k E B (w.drewN q) a n c l := h.kept fun g _ => by simp

theorem OK.ltB (h : OK enc k E B w a n c l) {q : Addr} (hq : a = some q) : q.block < w.heap.size ∧ B ≤ q.block := by
  rcases h.ex with ⟨h0, _⟩ | ⟨g, cur, hg, hBg, hh, _⟩
  · rw [h0] at hq; cases hq
  · rw [hg] at hq; cases hq; exact ⟨(Array.getElem?_eq_some_iff.1 hh).1, hBg⟩

theorem ok_of_ownsRow {v : Value} {xs : List Value} (h : w.ownsRow B E k v n xs) (hx : xs = l.flatMap enc) (hl : l.length = n) : ∃ a c, v = .slice a n c ∧ OK enc k E B w a n c l := by
  subst hx
  rcases h.2 with ⟨rfl, h0⟩ | ⟨g, cap, cur, rfl, hb, hg, hnc, hcm, hcs, htake⟩
  · subst h0
    exact ⟨none, 0, rfl, hl, Nat.le_refl _, h⟩
  · exact ⟨some ⟨g, 0, none⟩, cap, rfl, hl, hnc, h⟩

variable {T : TypeId} {z : Value} {bytes : Nat} {P : Program}

/-- A cut of what reads as a list reads as the part. -/
theorem RK.sliced (hr : RK enc k w a n c l) (lo hi s : Nat) (hs : s = k) (h1 : lo ≤ hi) (h2 : hi ≤ n) :
    ∃ a', Go.sliced a lo hi c s = .slice a' (hi - lo) (c - lo) ∧ RK enc k w a' (hi - lo) (c - lo) ((l.take hi).drop lo) := by
  subst hs
  refine ⟨_, rfl, by simp [hr.len]; omega, by have := hr.cap; omega, fun hp => ?_⟩
  obtain ⟨b, off, rfl, hb, hc⟩ := hr.cell (by omega)
  have hne : ¬ c = lo := by have := hr.cap; omega
  rw [if_neg hne]
  refine ⟨b, off + lo * s, by simp [Addr.add_lit], hb, fun i x j v hx hv => ?_⟩
  rw [List.getElem?_drop, List.getElem?_take] at hx
  split at hx
  · have e : off + lo * s + (i * s + j) = off + ((lo + i) * s + j) := by rw [Nat.add_mul]; omega
    rw [e]; exact hc _ _ _ _ hx hv
  · cases hx

theorem run_sizeOf_k (hT : ElK P T E k z bytes) (w : World) : (sizeOf (P.elem T)).run P w = .ok k w := by
  obtain ⟨i, hi, hz0, hz1, hz2⟩ := info_parts hT.info
  rw [hT.el]
  simp [sizeOf, typeInfo, hi, hz1]

/-- A row of the call's own, by its cells. -/
theorem ok_of_cells (hk : EnK enc k) {g : Nat} {cur : Array Value} (hh : w.heap[g]? = some (.cells cur E (0, 0))) (hB : B ≤ g) (hm : n ≤ 1000000000) (hl : l.length = n) (hcur : cur.toList = l.flatMap enc) : OK enc k E B w (some ⟨g, 0, none⟩) n n l := by
  have hs : cur.size = n * k := by rw [← Array.length_toList, hcur, flat_len hk, hl]
  refine ⟨hl, Nat.le_refl _, by rw [flat_len hk, hl], .inr ⟨g, n, cur, rfl, hB, hh, Nat.le_refl _, by unfold maxLen; omega, hs, ?_⟩⟩
  rw [List.take_of_length_le (by rw [Array.length_toList, hs]; exact Nat.le_refl _), hcur]

theorem ok_lit (hk : EnK enc k) (E : TypeId) (B : Nat) (w : World) (l : List α) (cs : Array Value) (n : Nat) (hcs : cs.toList = l.flatMap enc) (hn : l.length = n) (hm : n ≤ 1000000000) (hB : B ≤ w.heap.size) :
    OK enc k E B (w.alloc (.cells cs E)) (some ⟨w.heap.size, 0, none⟩) n n l :=
  ok_of_cells hk (heap_alloc_new w _) hB hm hn hcs
end
end Go.Proofs.Ytihafoeimpjdaaa

namespace Go.Proofs.Ytihafoeimpjdaaa
open Go.RowKit
set_option linter.unusedVariables false

/-- A frame. -/
structure Fr where
  id : Nat
  ext : Bool
  rem : Bool
  dlc : Nat
  data : List UInt8
  deriving DecidableEq

/-- A frame of noughts. -/
def zeroFr : Fr := ⟨0, false, false, 0, []⟩

/-- The cells of a frame. -/
abbrev frV (F : Fr) (a : Option Addr) (k : Nat) : Array Value := #[.int .u32 (F.id : Int), .bool F.ext, .bool F.rem, .int .u8 (F.dlc : Int), .slice a F.data.length k]
/-- A frame as it lies in a list. -/
abbrev Ff := Fr × (Option Addr × Nat)
theorem fr_ones (F : Fr) (a : Option Addr) (k : Nat) : (frV F a k).all (·.oneCell') = true := by kernel_rfl
def enF (p : Ff) : List Value := (frV p.1 p.2.1 p.2.2).toList
end Go.Proofs.Ytihafoeimpjdaaa

namespace Go.Proofs.Ytihafoeimpjdaaa
open Go.RowKit
set_option linter.unusedVariables false
set_option linter.unusedSimpArgs false

/-- A node of the abstract bus. -/
structure Ln where
  has : Bool
  fr : Fr
  took : List Bool
  cr : Bool
  off : Bool
/-- The abstract bus. -/
structure Lb where
  ns : List Ln
  sil : Nat
/-- An event: its kind, its node, whose frame it takes, a frame and whether that is right. -/
structure Ev where
  what : Nat
  node : Int
  frm : Int
  fr : Fr
  ok : Bool

def n0L : Ln := ⟨false, zeroFr, [], false, false⟩
def Ln.up (x : Ln) : Bool := !x.cr && !x.off
def newL (n : Nat) : Lb := ⟨List.replicate n n0L, 0⟩
/-- Whose frame is missing where. -/
def misL (s : Lb) (i : Nat) : List Nat :=
  match s.ns[i]? with
  | none => []
  | some x => if x.has then (List.range s.ns.length).filter (fun j => decide (j ≠ i) && (match s.ns[j]? with | some y => y.up | none => false) && !(x.took[j]?.getD false)) else []
def setL (s : Lb) (i : Nat) (x : Ln) : Lb := { s with ns := s.ns.set i x }
/-- What becomes of it; none: it may not be. -/
def stL (s : Lb) (m : Ev) : Option Lb :=
  if m.node < 0 then none else
  match s.ns[m.node.toNat]? with
  | none => none
  | some x =>
    if m.what = 1 then (if x.cr = false ∧ x.has = false ∧ m.ok = true then some (setL s m.node.toNat { x with has := true, fr := m.fr, took := List.replicate s.ns.length false }) else none)
    else if m.what = 2 then (if x.cr = false ∧ x.has = true then some (setL s m.node.toNat { x with has := false, fr := zeroFr, took := [] }) else none)
    else if m.what = 3 then some (setL s m.node.toNat { x with cr := true })
    else if m.what = 4 then
      (if m.frm < 0 then none else
       match s.ns[m.frm.toNat]? with
       | none => none
       | some y => if x.up = true ∧ m.frm ≠ m.node ∧ y.has = true then some (setL s m.frm.toNat { y with took := y.took.set m.node.toNat true }) else none)
    else if m.what = 5 then (if x.up = true ∧ x.has = true then some { setL s m.node.toNat { x with has := false, fr := zeroFr, took := [] } with sil := s.sil + (if misL s m.node.toNat = [] then 0 else 1) } else none)
    else if m.what = 6 then (if x.up = true then some (setL s m.node.toNat { x with off := true }) else none)
    else if m.what = 7 then (if x.cr = false ∧ x.off = true then some (setL s m.node.toNat { x with off := false }) else none)
    else none
/-- Events one by one: the bus behind those that were made, their number, whether all were. -/
def ruL : Lb → List Ev → Lb × Nat × Bool
  | s, [] => (s, 0, true)
  | s, m :: l => match stL s m with
    | none => (s, 0, false)
    | some t => ((ruL t l).1, (ruL t l).2.1 + 1, (ruL t l).2.2)

theorem stL_len {s t : Lb} {m : Ev} (h : stL s m = some t) : t.ns.length = s.ns.length := by
  unfold stL at h
  repeat' split at h
  all_goals first
    | (cases h; done)
    | (have h := Option.some.inj h; subst h; simp [setL])

theorem ruL_none {s : Lb} {m : Ev} (l : List Ev) (h : stL s m = none) : ruL s (m :: l) = (s, 0, false) := by
  unfold ruL; rw [h]
theorem ruL_some {s t : Lb} {m : Ev} (l : List Ev) (h : stL s m = some t) : ruL s (m :: l) = ((ruL t l).1, (ruL t l).2.1 + 1, (ruL t l).2.2) := by
  rw [ruL, h]
/-- In two parts it comes to the same. -/
theorem ruL_append : ∀ (l r : List Ev) (s : Lb), ruL s (l ++ r) = (if (ruL s l).2.2 = true then ((ruL (ruL s l).1 r).1, (ruL s l).2.1 + (ruL (ruL s l).1 r).2.1, (ruL (ruL s l).1 r).2.2) else ruL s l) := by
  intro l
  induction l with
  | nil => intro r s; simp [ruL]
  | cons m l ih =>
    intro r s
    rw [List.cons_append]
    rcases Option.eq_none_or_eq_some (stL s m) with h | ⟨t, h⟩
    · rw [ruL_none _ h, ruL_none _ h]; rfl
    · rw [ruL_some _ h, ruL_some _ h, ih r t]
      by_cases hk : (ruL t l).2.2 = true
      · rw [if_pos hk, if_pos hk]
        simp only [Prod.mk.injEq, true_and, and_true]
        omega
      · rw [if_neg hk, if_neg hk]
theorem ruL_all : ∀ (l : List Ev) (s : Lb), (ruL s l).2.2 = true → (ruL s l).2.1 = l.length := by
  intro l
  induction l with
  | nil => intro s _; rfl
  | cons m l ih =>
    intro s h
    rcases Option.eq_none_or_eq_some (stL s m) with e | ⟨t, e⟩
    · rw [ruL_none _ e] at h; cases h
    · rw [ruL_some _ e] at h ⊢
      show (ruL t l).2.1 + 1 = _
      rw [ih t h, List.length_cons]

theorem set_get {s : Lb} {i : Nat} {x y : Ln} (h : s.ns[i]? = some x) : (setL s i y).ns[i]? = some y := by
  unfold setL
  exact List.getElem?_set_self (List.getElem?_eq_some_iff.1 h).1
theorem set_twice (s : Lb) (i : Nat) (x y : Ln) : setL (setL s i x) i y = setL s i y := by
  unfold setL
  simp [List.set_set]
/-- One thing twice: a take or a crash changes nothing more; all else may not be again. -/
theorem stL_twice {s a : Lb} {m : Ev} (h : stL s m = some a) : (m.what = 3 ∨ m.what = 4 → stL a m = some a) ∧ (¬ (m.what = 3 ∨ m.what = 4) → stL a m = none) := by
  unfold stL at h
  split at h
  · cases h
  · rename_i h0
    split at h
    · cases h
    · rename_i x hx
      split at h
      · rename_i h1
        refine ⟨fun k => by omega, fun _ => ?_⟩
        split at h
        · have h := Option.some.inj h
          subst h
          unfold stL
          rw [if_neg h0, set_get hx]
          simp [h1]
        · cases h
      · rename_i h1
        split at h
        · rename_i h2
          refine ⟨fun k => by omega, fun _ => ?_⟩
          split at h
          · have h := Option.some.inj h
            subst h
            unfold stL
            rw [if_neg h0, set_get hx]
            simp [h2]
          · cases h
        · rename_i h2
          split at h
          · rename_i h3
            refine ⟨fun _ => ?_, fun k => by omega⟩
            have h := Option.some.inj h
            subst h
            unfold stL
            rw [if_neg h0, set_get hx]
            simp [h3, set_twice]
          · rename_i h3
            split at h
            · rename_i h4
              refine ⟨fun _ => ?_, fun k => by omega⟩
              split at h
              · cases h
              · rename_i hf
                split at h
                · cases h
                · rename_i y hy
                  split at h
                  · rename_i hc
                    have h := Option.some.inj h
                    subst h
                    have hne : m.frm.toNat ≠ m.node.toNat := fun e => hc.2.1 (by omega)
                    have e1 : (setL s m.frm.toNat { y with took := y.took.set m.node.toNat true }).ns[m.node.toNat]? = some x := by
                      unfold setL
                      rw [List.getElem?_set_ne hne]; exact hx
                    unfold stL
                    rw [if_neg h0, e1, set_get hy]
                    simp [h4, hf, hc, set_twice]
                  · cases h
            · rename_i h4
              split at h
              · rename_i h5
                refine ⟨fun k => by omega, fun _ => ?_⟩
                split at h
                · have h := Option.some.inj h
                  subst h
                  unfold stL
                  rw [if_neg h0]
                  have e1 := set_get (y := { x with has := false, fr := zeroFr, took := [] }) hx
                  dsimp only
                  rw [e1]
                  simp [h5]
                · cases h
              · rename_i h5
                split at h
                · rename_i h6
                  refine ⟨fun k => by omega, fun _ => ?_⟩
                  split at h
                  · have h := Option.some.inj h
                    subst h
                    unfold stL
                    rw [if_neg h0, set_get hx]
                    simp [h6, Ln.up]
                  · cases h
                · rename_i h6
                  split at h
                  · rename_i h7
                    refine ⟨fun k => by omega, fun _ => ?_⟩
                    split at h
                    · have h := Option.some.inj h
                      subst h
                      unfold stL
                      rw [if_neg h0, set_get hx]
                      simp [h7]
                    · cases h
                  · cases h

/-- What an event was, by its kind. -/
inductive StC (s : Lb) (m : Ev) (x : Ln) (t : Lb) : Prop
  | give : m.what = 1 → x.cr = false → x.has = false → m.ok = true → t = setL s m.node.toNat { x with has := true, fr := m.fr, took := List.replicate s.ns.length false } → StC s m x t
  | drop : m.what = 2 → x.cr = false → x.has = true → t = setL s m.node.toNat { x with has := false, fr := zeroFr, took := [] } → StC s m x t
  | crash : m.what = 3 → t = setL s m.node.toNat { x with cr := true } → StC s m x t
  | take (y : Ln) : m.what = 4 → 0 ≤ m.frm → s.ns[m.frm.toNat]? = some y → x.up = true → m.frm ≠ m.node → y.has = true → t = setL s m.frm.toNat { y with took := y.took.set m.node.toNat true } → StC s m x t
  | sent : m.what = 5 → x.up = true → x.has = true → t = { setL s m.node.toNat { x with has := false, fr := zeroFr, took := [] } with sil := s.sil + (if misL s m.node.toNat = [] then 0 else 1) } → StC s m x t
  | goes : m.what = 6 → x.up = true → t = setL s m.node.toNat { x with off := true } → StC s m x t
  | back : m.what = 7 → x.cr = false → x.off = true → t = setL s m.node.toNat { x with off := false } → StC s m x t

theorem stL_cases {s t : Lb} {m : Ev} (h : stL s m = some t) : 0 ≤ m.node ∧ ∃ x, s.ns[m.node.toNat]? = some x ∧ StC s m x t := by
  unfold stL at h
  split at h
  · cases h
  · rename_i h0
    refine ⟨by omega, ?_⟩
    split at h
    · cases h
    · rename_i x hx
      refine ⟨x, hx, ?_⟩
      split at h
      · rename_i h1
        split at h
        · rename_i hc
          exact .give h1 hc.1 hc.2.1 hc.2.2 (Option.some.inj h).symm
        · cases h
      · split at h
        · rename_i h2
          split at h
          · rename_i hc
            exact .drop h2 hc.1 hc.2 (Option.some.inj h).symm
          · cases h
        · split at h
          · rename_i h3
            exact .crash h3 (Option.some.inj h).symm
          · split at h
            · rename_i h4
              split at h
              · cases h
              · rename_i hf
                split at h
                · cases h
                · rename_i y hy
                  split at h
                  · rename_i hc
                    exact .take y h4 (by omega) hy hc.1 hc.2.1 hc.2.2 (Option.some.inj h).symm
                  · cases h
            · split at h
              · rename_i h5
                split at h
                · rename_i hc
                  exact .sent h5 hc.1 hc.2 (Option.some.inj h).symm
                · cases h
              · split at h
                · rename_i h6
                  split at h
                  · rename_i hc
                    exact .goes h6 hc (Option.some.inj h).symm
                  · cases h
                · split at h
                  · rename_i h7
                    split at h
                    · rename_i hc
                      exact .back h7 hc.1 hc.2 (Option.some.inj h).symm
                    · cases h
                  · cases h

/-- Who has a frame: those that were given one more than they lost. -/
structure OnL (s : Lb) (gv gn : Nat → Nat) : Prop where
  has : ∀ (j : Nat) (x : Ln), s.ns[j]? = some x → gv j = gn j + (if x.has = true then 1 else 0)
theorem OnL.start (n : Nat) : OnL (newL n) (fun _ => 0) (fun _ => 0) := ⟨fun j x h => by
  unfold newL at h
  rw [List.getElem?_replicate] at h
  split at h
  · cases h; rfl
  · cases h⟩
theorem set_at {s : Lb} {i j : Nat} {y z : Ln} (h : (setL s i y).ns[j]? = some z) : (j = i ∧ z = y) ∨ (j ≠ i ∧ s.ns[j]? = some z) := by
  unfold setL at h
  rw [List.getElem?_set] at h
  split at h
  · rename_i e
    split at h
    · exact .inl ⟨e.symm, (Option.some.inj h).symm⟩
    · cases h
  · rename_i e
    exact .inr ⟨fun k => e k.symm, h⟩
/-- One event more: what was given, and what is gone. -/
theorem OnL.step {s t : Lb} {m : Ev} {gv gn : Nat → Nat} (o : OnL s gv gn) (h : stL s m = some t) :
    OnL t (fun j => if m.what = 1 ∧ j = m.node.toNat then gv j + 1 else gv j) (fun j => if (m.what = 5 ∨ m.what = 2) ∧ j = m.node.toNat then gn j + 1 else gn j)
      ∧ (m.what = 4 → m.frm ≠ m.node ∧ 0 ≤ m.frm ∧ gv m.frm.toNat = gn m.frm.toNat + 1)
      ∧ t.sil = s.sil + (if m.what = 5 ∧ misL s m.node.toNat ≠ [] then 1 else 0) := by
  obtain ⟨h0, x, hx, hc⟩ := stL_cases h
  have ox := o.has _ _ hx
  have other : ∀ (y : Ln), t.ns = (setL s m.node.toNat y).ns → ((m.what = 1 ∧ y.has = true ∧ x.has = false) ∨ ((m.what = 5 ∨ m.what = 2) ∧ y.has = false ∧ x.has = true) ∨ (m.what ≠ 1 ∧ m.what ≠ 2 ∧ m.what ≠ 5 ∧ y.has = x.has)) →
      OnL t (fun j => if m.what = 1 ∧ j = m.node.toNat then gv j + 1 else gv j) (fun j => if (m.what = 5 ∨ m.what = 2) ∧ j = m.node.toNat then gn j + 1 else gn j) := fun y e k => ⟨fun j z hz => by
    rw [e] at hz
    rcases set_at hz with ⟨rfl, rfl⟩ | ⟨hj, hz⟩
    · rcases k with ⟨k1, k2, k3⟩ | ⟨k1, k2, k3⟩ | ⟨k1, k2, k3, k4⟩
      · rw [k3] at ox
        simp only [k1, k2]
        simp at ox ⊢; omega
      · rw [k3] at ox
        have : m.what ≠ 1 := by omega
        simp only [this, k1, k2]
        simp at ox ⊢; omega
      · rw [k4]
        have : ¬ (m.what = 5 ∨ m.what = 2) := by omega
        simp only [k1, this]
        simpa using ox
    · have := o.has _ _ hz
      simp only [hj, and_false, if_false]
      exact this⟩
  cases hc with
  | give h1 h2 h3 h4 e =>
    subst e
    exact ⟨other _ rfl (.inl ⟨h1, rfl, h3⟩), fun k => by omega, by rw [if_neg (by omega)]; rfl⟩
  | drop h1 h2 h3 e =>
    subst e
    exact ⟨other _ rfl (.inr (.inl ⟨.inr h1, rfl, h3⟩)), fun k => by omega, by rw [if_neg (by omega)]; rfl⟩
  | crash h1 e =>
    subst e
    exact ⟨other _ rfl (.inr (.inr ⟨by omega, by omega, by omega, rfl⟩)), fun k => by omega, by rw [if_neg (by omega)]; rfl⟩
  | take y h1 h2 h3 h4 h5 h6 e =>
    subst e
    refine ⟨⟨fun j z hz => ?_⟩, fun _ => ⟨h5, h2, by have := o.has _ _ h3; rw [if_pos h6] at this; exact this⟩, by rw [if_neg (by omega)]; rfl⟩
    have e1 : ¬ (m.what = 1 ∧ j = m.node.toNat) := by omega
    have e2 : ¬ ((m.what = 5 ∨ m.what = 2) ∧ j = m.node.toNat) := by omega
    rw [if_neg e1, if_neg e2]
    rcases set_at hz with ⟨rfl, rfl⟩ | ⟨hj, hz⟩
    · exact o.has _ y h3
    · exact o.has _ _ hz
  | sent h1 h2 h3 e =>
    subst e
    refine ⟨other _ rfl (.inr (.inl ⟨.inl h1, rfl, h3⟩)), fun k => by omega, ?_⟩
    show s.sil + _ = _
    by_cases hm : misL s m.node.toNat = []
    · rw [if_pos hm, if_neg (fun k => k.2 hm)]
    · rw [if_neg hm, if_pos ⟨h1, hm⟩]
  | goes h1 h2 e =>
    subst e
    exact ⟨other _ rfl (.inr (.inr ⟨by omega, by omega, by omega, rfl⟩)), fun k => by omega, by rw [if_neg (by omega)]; rfl⟩
  | back h1 h2 h3 e =>
    subst e
    exact ⟨other _ rfl (.inr (.inr ⟨by omega, by omega, by omega, rfl⟩)), fun k => by omega, by rw [if_neg (by omega)]; rfl⟩
end Go.Proofs.Ytihafoeimpjdaaa

namespace Go.Proofs.Ytihafoeimpjdaaa
open Go.RowKit Go.ChangeShapes Go.WideShapes Go.ChangeAt

theorem own : ownKnob Try.prog.godebug = none := by kernel_rfl
theorem laidOut : laidOutB Try.prog = true := by kernel_rfl

section
variable {H : Type} {enc : TypeId × Value → H} {P : Program} {W W' : World}

/-- All arguments read behind the call as they did ahead of it, if nothing below the heap's old size has turned. -/
theorem trodAll_below (hl : laidOutB P = true) : ∀ (ts : List TypeId), (∀ t ∈ ts, P.readableRec t = true ∧ t < P.types.size) → ∀ (vs : List Value) (ds : List (DataW H)) (ps : List MemPlace),
    DataW.TrodAll enc P W 0 (fun _ => true) true ts vs ds ps → Below W.heap.size W W' → (∀ x ∈ ps, x.block < W.heap.size) → DataW.TrodAll enc P W' 0 (fun b => decide (b < W.heap.size)) true ts vs ds ps := by
  intro ts
  induction ts with
  | nil =>
    intro _ vs ds ps h _ _
    obtain ⟨rfl, rfl, rfl⟩ := trodAll_nil h
    exact trodAll_mk0
  | cons t ts ih =>
    intro hr vs ds ps h hb hlt
    obtain ⟨v, vs', d, ds', p, q, rfl, rfl, rfl, h0, h1⟩ := trodAll_cons h
    exact trodAll_cons_mk (Below.trod hl (hr t (by simp)).1 (hr t (by simp)).2 h0 hb (fun x hx => hlt x (by simp [hx]))) (ih (fun t' ht' => hr t' (by simp [ht'])) _ _ _ h1 hb (fun x hx => hlt x (by simp [hx])))

/-- What a law's row asks: it returned true, and nothing that was there has turned. -/
theorem law_post {f : Func} {s : ChangeSpec} {b : TypeId} {args : Array Value} {ds gs : List (DataW H)} {before : List MemPlace} (hl : laidOutB P = true) (hv : s.vars = []) (hres : f.resultTypes = #[b]) (hb : P.underlying b = some .bool)
    (hts : ∀ t ∈ f.params.toList, P.readableRec t = true ∧ t < P.types.size) (hW : DataW.Whole enc P f.params.toList s.vars false W args.toList ds gs before)
    (hfn : s.fn H (ds ++ gs) = { results := [.lit (.bool true)], args := ds }) (hbel : Below W.heap.size W W') : s.post enc P f false true false false W args (.bool true) W' := by
  have hW' := hW
  obtain ⟨p, q, hA, hV, rfl, _, _⟩ := hW
  rw [hv] at hV
  obtain ⟨rfl, rfl⟩ := trodVars_none hV
  have hlt : ∀ x ∈ p, x.block < W.heap.size := fun x hx => hW'.lt x (by simp [hx])
  refine ⟨ds, [], p ++ [], [], p, [], hW', ?_, ?_, ?_, hbel.frame _, fun h => by cases h⟩
  · rw [hfn, hres]
    exact trodAll_cons_mk (shut_bool hb true) trodAll_mk0
  · rw [hfn]
    exact trodAll_below hl _ hts _ _ _ hA hbel hlt
  · rw [hfn, hv]
    exact rfl

end
end Go.Proofs.Ytihafoeimpjdaaa

namespace Go.Proofs.Ytihafoeimpjdaaa
open Go.RowKit

/-- The slice at this address does not lie in block k. -/
def NB (a : Option Addr) (k : Nat) : Prop := ∀ q, a = some q → q.block ≠ k

theorem NB.nil (k : Nat) : NB none k := fun q h => by cases h
theorem NB.at {g k : Nat} (h : g ≠ k) : NB (some ⟨g, 0, none⟩) k := fun q hq => by cases hq; exact h
theorem NB.block {g k o : Nat} (h : NB (some ⟨g, o, none⟩) k) : g ≠ k := h _ rfl

/-- A box of two cells: what each holds, and that neither is frozen. -/
theorem bx {w : World} {g : Nat} {E : TypeId} {v0 v1 : Value} (h : w.heap[g]? = some (.cells #[v0, v1] E (0, 0))) :
    w.cell? ⟨g, 0, none⟩ = some v0 ∧ w.cell? ⟨g, 1, none⟩ = some v1 ∧ w.frozen? ⟨g, 0, none⟩ = false ∧ w.frozen? ⟨g, 1, none⟩ = false :=
  ⟨by rw [cell_of_row w g 0 _ _ _ h]; rfl, by rw [cell_of_row w g 1 _ _ _ h]; rfl, frozen_of_row w g 0 _ _ h, frozen_of_row w g 1 _ _ h⟩

theorem heap_size_alloc (w : World) (o : Obj) : (w.alloc o).heap.size = w.heap.size + 1 := by simp

theorem bx_lt {w : World} {g : Nat} {o : Obj} (h : w.heap[g]? = some o) : g < w.heap.size := (Array.getElem?_eq_some_iff.1 h).1

theorem bx_below {w w' : World} {g : Nat} {o : Obj} (h : w.heap[g]? = some o) (hb : Below w.heap.size w w') : w'.heap[g]? = some o := by
  rw [hb.block g (bx_lt h)]; exact h

theorem bx_alloc {w : World} {g : Nat} {o : Obj} (p : Obj) (h : w.heap[g]? = some o) : (w.alloc p).heap[g]? = some o := by
  rw [Below.heap_alloc w p g (bx_lt h)]; exact h

theorem set_other {w : World} {g k : Nat} (u0 u1 : Value) (h : k ≠ g) : ((w.setCell ⟨g, 0, none⟩ u0).setCell ⟨g, 1, none⟩ u1).heap[k]? = w.heap[k]? := by
  rw [heap_setCell_other _ _ _ _ h, heap_setCell_other _ _ _ _ h]

section
variable {α : Type} {f : α → Value} {E T : TypeId} {z : Value} {bytes : Nat} {B : Nat} {w w' : World} {P : Program} {l m : List α} {n c : Nat} {a : Option Addr}

/-- A row lies in one block. -/
theorem OL.kept (h : OL f E B w a n c l) (hk : ∀ g, a = some ⟨g, 0, none⟩ → w'.heap[g]? = w.heap[g]?) : OL f E B w' a n c l := by
  refine ⟨h.len, h.cap, h.own.1, ?_⟩
  rcases h.own.2 with hn | ⟨g, cap, cur, hv, hB, hg, rest⟩
  · exact .inl hn
  · refine .inr ⟨g, cap, cur, hv, hB, ?_, rest⟩
    simp only [Value.slice.injEq] at hv
    rw [hk g hv.1]; exact hg

theorem OL.drewN (h : OL f E B w a n c l) (q : Nat) : OL f E B (w.drewN q) a n c l := h.kept fun g _ => by simp

/-- A store into another block leaves a row. -/
theorem OL.box (h : OL f E B w a n c l) {g : Nat} (hn : NB a g) (u0 u1 : Value) : OL f E B ((w.setCell ⟨g, 0, none⟩ u0).setCell ⟨g, 1, none⟩ u1) a n c l :=
  h.kept fun k hk => set_other u0 u1 (by subst hk; exact hn.block)

theorem OL.ltB (h : OL f E B w a n c l) {q : Addr} (hq : a = some q) : q.block < w.heap.size ∧ B ≤ q.block := by
  rcases h.ex with ⟨h0, _⟩ | ⟨g, cur, hg, hBg, hh, _⟩
  · rw [h0] at hq; cases hq
  · rw [hg] at hq; cases hq; exact ⟨bx_lt hh, hBg⟩

/-- One element of a row that the call owns, stored anew. -/
theorem OL.set {g i : Nat} (h : OL f E B w (some ⟨g, 0, none⟩) n c l) (x : α) : OL f E B (w.setCell ⟨g, i, none⟩ (f x)) (some ⟨g, 0, none⟩) n c (l.set i x) := by
  refine ⟨by rw [List.length_set]; exact h.len, h.cap, by rw [List.length_map, List.length_set, Nat.mul_one]; exact h.len, ?_⟩
  rcases h.own.2 with ⟨h', _⟩ | ⟨g', cap', cur', h', hB, hg', hnc, hcm, hcs, htake⟩
  · simp at h'
  · simp only [Value.slice.injEq, Option.some.injEq, Addr.mk.injEq, and_true, true_and] at h'
    obtain ⟨rfl, rfl⟩ := h'
    refine .inr ⟨g, c, cur'.setIfInBounds i (f x), rfl, hB, heap_setCell_same w g i cur' _ (f x) hg', hnc, hcm, by simpa using hcs, ?_⟩
    rw [Array.toList_setIfInBounds, List.take_set, htake, List.map_set]

theorem OL.cellAt {g i : Nat} {x : α} (h : OL f E B w (some ⟨g, 0, none⟩) n c l) (hx : l[i]? = some x) : w.cell? ⟨g, i, none⟩ = some (f x) ∧ w.frozen? ⟨g, i, none⟩ = false := by
  have hi : i < n := by rw [← h.len]; exact (List.getElem?_eq_some_iff.1 hx).1
  obtain ⟨b, off, e, _, hc⟩ := h.rl.cell (by omega)
  cases e
  refine ⟨by have := hc i x hx; rwa [Nat.zero_add] at this, ?_⟩
  rcases h.ex with ⟨h0, _⟩ | ⟨g', cur, hg, hBg, hh, hcs⟩
  · cases h0
  simp only [Option.some.injEq, Addr.mk.injEq, and_true] at hg
  subst hg
  exact frozen_of_row w _ i cur _ hh

end
end Go.Proofs.Ytihafoeimpjdaaa

namespace Go.Proofs.Ytihafoeimpjdaaa
open Go.RowKit
set_option linter.unusedVariables false

/-- A box of five cells. -/
theorem bx5 {w : World} {g : Nat} {E : TypeId} {v0 v1 v2 v3 v4 : Value} (h : w.heap[g]? = some (.cells #[v0, v1, v2, v3, v4] E (0, 0))) :
    w.cell? ⟨g, 0, none⟩ = some v0 ∧ w.cell? ⟨g, 1, none⟩ = some v1 ∧ w.cell? ⟨g, 2, none⟩ = some v2 ∧ w.cell? ⟨g, 3, none⟩ = some v3 ∧ w.cell? ⟨g, 4, none⟩ = some v4 :=
  ⟨by rw [cell_of_row w g 0 _ _ _ h]; rfl, by rw [cell_of_row w g 1 _ _ _ h]; rfl, by rw [cell_of_row w g 2 _ _ _ h]; rfl, by rw [cell_of_row w g 3 _ _ _ h]; rfl, by rw [cell_of_row w g 4 _ _ _ h]; rfl⟩

theorem bx_thaw {w : World} {g : Nat} {E : TypeId} {vs : Array Value} (h : w.heap[g]? = some (.cells vs E (0, 0))) (i : Nat) : w.frozen? ⟨g, i, none⟩ = false := frozen_of_row w g i _ _ h

end Go.Proofs.Ytihafoeimpjdaaa

namespace Go.Proofs.Ytihafoeimpjdaaa
open Go.RowKit

theorem tY : ElT Try.prog 32 5 (.int .u8 0) 1 := ⟨by kernel_rfl, by kernel_rfl, by kernel_rfl, by kernel_rfl, by kernel_rfl⟩
end Go.Proofs.Ytihafoeimpjdaaa

namespace Go.Proofs.Ytihafoeimpjdaaa
open Go.RowKit
set_option linter.unusedVariables false

/-- What is there is kept but for the block g, and nothing else happens. -/
structure Wr (g : Nat) (w w' : World) : Prop where
  os : w'.os = w.os
  tape : w'.tape = w.tape
  output : w'.output = w.output
  size : w.heap.size ≤ w'.heap.size
  block : ∀ k, k < w.heap.size → k ≠ g → w'.heap[k]? = w.heap[k]?

section
variable {g : Nat} {w w0 w1 w2 : World}

theorem sz_set (w : World) (a : Addr) (v : Value) : (w.setCell a v).heap.size = w.heap.size := by simp [World.setCell]
theorem Wr.refl (g : Nat) (w : World) : Wr g w w := ⟨rfl, rfl, rfl, Nat.le_refl _, fun _ _ _ => rfl⟩
theorem Wr.trans (h : Wr g w w1) (k : Wr g w1 w2) : Wr g w w2 :=
  ⟨k.os.trans h.os, k.tape.trans h.tape, k.output.trans h.output, Nat.le_trans h.size k.size, fun i hi hg => (k.block i (Nat.lt_of_lt_of_le hi h.size) hg).trans (h.block i hi hg)⟩
theorem Wr.call (h : Wr g w w1) (k : Below w1.heap.size w1 w2) : Wr g w w2 :=
  h.trans ⟨k.os, k.tape, k.output, k.size, fun i hi _ => k.block i hi⟩
theorem Wr.alloc (h : Wr g w w1) (o : Obj) : Wr g w (w1.alloc o) := h.call (bnew0 w1 o)
/-- A store into the block, or into one that was laid since. -/
theorem Wr.setCell (h : Wr g w w1) {p : Addr} (hp : p.block = g ∨ w.heap.size ≤ p.block) (u : Value) : Wr g w (w1.setCell p u) :=
  ⟨h.os, h.tape, h.output, by simpa [World.setCell] using h.size, fun k hk hg => by
    rw [Below.heap_setCell _ _ _ _ (by rcases hp with e | e <;> omega)]
    exact h.block k hk hg⟩
theorem Wr.setRow (h : Wr g w w1) {p : Nat} (hp : p = g ∨ w.heap.size ≤ p) (cs : Array Value) : Wr g w (w1.setRow p cs) :=
  ⟨h.os, h.tape, h.output, by simpa using h.size, fun k hk hg => by
    rw [setRow_other _ _ _ _ (by rcases hp with e | e <;> omega)]
    exact h.block k hk hg⟩
theorem Wr.drew (h : Wr g w w1) : Wr g w w1.drew := ⟨h.os, h.tape, h.output, h.size, h.block⟩
/-- Behind a method that writes a block of the call's own. -/
theorem Wr.below {B : Nat} (k : Wr g w w1) (h : Below B w0 w) (hB : B ≤ g) (hg : g < w.heap.size) : Below B w0 w1 :=
  h.trans ⟨k.os, k.tape, k.output, k.size, fun i hi => k.block i (by omega) (by omega)⟩
end

/-- A box of six cells. -/
theorem bx6 {w : World} {g : Nat} {E : TypeId} {v0 v1 v2 v3 v4 v5 : Value} (h : w.heap[g]? = some (.cells #[v0, v1, v2, v3, v4, v5] E (0, 0))) :
    w.cell? ⟨g, 0, none⟩ = some v0 ∧ w.cell? ⟨g, 1, none⟩ = some v1 ∧ w.cell? ⟨g, 2, none⟩ = some v2 ∧ w.cell? ⟨g, 3, none⟩ = some v3 ∧ w.cell? ⟨g, 4, none⟩ = some v4 ∧ w.cell? ⟨g, 5, none⟩ = some v5 :=
  ⟨by rw [cell_of_row w g 0 _ _ _ h]; rfl, by rw [cell_of_row w g 1 _ _ _ h]; rfl, by rw [cell_of_row w g 2 _ _ _ h]; rfl, by rw [cell_of_row w g 3 _ _ _ h]; rfl, by rw [cell_of_row w g 4 _ _ _ h]; rfl, by rw [cell_of_row w g 5 _ _ _ h]; rfl⟩

/-- A type whose values are rows of so many cells. -/
structure RowT (P : Program) (T : TypeId) (n : Nat) : Prop where
  und : ∃ d, P.underlying T = some d ∧ (match d with | .struct _ | .array _ _ => true | _ => false) = true
  size : (P.info? T).map (·.size) = some n

theorem rowT_of {P : Program} {T : TypeId} {n : Nat} (h : (P.underlying T).any (fun d => match d with | .struct _ | .array _ _ => true | _ => false) = true) (hs : (P.info? T).map (·.size) = some n) : RowT P T n := by
  refine ⟨?_, hs⟩
  cases hh : P.underlying T with
  | none => rw [hh] at h; simp at h
  | some d => rw [hh] at h; exact ⟨d, rfl, by simpa using h⟩

theorem rowF : RowT Try.prog 34 5 := rowT_of (by kernel_rfl) (by kernel_rfl)

section
variable {P : Program} {ops : Array Oper} {rest : List Oper} {o : Oper} {a : Act} {w : World} {Q : Exit → Act → World → Prop} {T : TypeId} {n : Nat}

theorem wpList_loadR (hT : RowT P T n) (hgd : o.guard = none) (x : Operand) (ho : o.op = .load T x)
    (g : Nat) (hx : a.eval x = .pointer (some ⟨g, 0, none⟩)) {t : TypeId} {cs : Array Value} {fr : Nat × Nat} (hg : w.heap[g]? = some (.cells cs t fr)) (hn : cs.size = n)
    (h : wpList P ops Q rest (a.put o.dst (.agg cs)) w) : wpList P ops Q (o :: rest) a w := by
  obtain ⟨d, hu, hd⟩ := hT.und
  exact wpList_load_row hgd T x ho g hx t cs fr d hg hu (by cases d <;> simp_all) (by rw [hT.size, hn]) h

/-- .. behind a guard. -/
theorem wpList_loadW (hT : RowT P T n) (hw : Region.wanted o (yielded ops a.tmps) = true) (x : Operand) (ho : o.op = .load T x)
    (g : Nat) (hx : a.eval x = .pointer (some ⟨g, 0, none⟩)) {t : TypeId} {cs : Array Value} {fr : Nat × Nat} (hg : w.heap[g]? = some (.cells cs t fr)) (hn : cs.size = n)
    (h : wpList P ops Q rest (a.put o.dst (.agg cs)) w) : wpList P ops Q (o :: rest) a w := by
  obtain ⟨d, hu, hd⟩ := hT.und
  exact wpList_step fun _ hK => by
    rw [if_pos hw]
    exact wp_load_row T x ho g hx t cs fr d hg hu (by cases d <;> simp_all) (by rw [hT.size, hn]) (hK _ _ h)

theorem wpList_storeR (hT : RowT P T n) (hgd : o.guard = none) (x y : Operand) (ho : o.op = .store T x y)
    (g : Nat) (cells : Array Value) (hx : a.eval x = .pointer (some ⟨g, 0, none⟩)) (hy : a.eval y = .agg cells)
    {t : TypeId} {old : Array Value} (hg : w.heap[g]? = some (.cells old t (0, 0))) (hn : cells.size = n) (hold : old.size = n) (h1 : cells.all (·.oneCell') = true)
    (h : wpList P ops Q rest (a.put o.dst undef) (w.setRow g cells)) : wpList P ops Q (o :: rest) a w :=
  wpList_store_row hgd T x y ho g cells hx hy t old hg (by rw [hT.size, hn]) (by omega) h1 h

theorem results_row (hT : RowT P T n) {fn : Func} {p : Tmp} (h : fn.results = #[.cell p T]) (tmps : Array Value) (w : World) (g : Nat) {t : TypeId} {cs : Array Value} {fr : Nat × Nat}
    (hp : tmps.getD p undef = .pointer (some ⟨g, 0, none⟩)) (hg : w.heap[g]? = some (.cells cs t fr)) (hn : cs.size = n) : (results fn tmps).run P w = .ok (.agg cs) w := by
  obtain ⟨d, hu, hd⟩ := hT.und
  exact results_cell_row h tmps w g t cs fr d hp hg hu (by cases d <;> simp_all) (by rw [hT.size, hn])
end

section
variable {P : Program} {ops : Array Oper} {o : Oper} {a : Act} {w : World} {K : Act → World → Prop} {Q : Exit → Act → World → Prop} {T U : TypeId} {n m : Nat}

theorem draw_storeR (hT : RowT P T n) (hgd : o.guard = none) (x y : Operand) (ho : o.op = .store T x y)
    (g : Nat) (cells : Array Value) (hx : a.eval x = .pointer (some ⟨g, 0, none⟩)) (hy : a.eval y = .agg cells)
    {t : TypeId} {old : Array Value} (hg : w.heap[g]? = some (.cells old t (0, 0))) (hn : cells.size = n) (hold : old.size = n) (h1 : cells.all (·.oneCell') = true)
    (h : K (a.put o.dst undef) (w.setRow g cells)) : if Region.wanted o (yielded ops a.tmps) = true then Oper.wp P o a w K Q else K (a.put o.dst undef) w := by
  rw [if_pos (by simp [Region.wanted, hgd])]
  exact wp_store_row T x y ho g cells hx hy t old hg (by rw [hT.size, hn]) (by omega) h1 h

theorem results_row1 (hT : RowT P T n) {fn : Func} {p q : Tmp} (h : fn.results = #[.cell p T, .tmp q]) (tmps : Array Value) (w : World) (g : Nat) {t : TypeId} {cs : Array Value} {fr : Nat × Nat} {v : Value}
    (hp : tmps.getD p undef = .pointer (some ⟨g, 0, none⟩)) (hq : tmps.getD q undef = v) (hg : w.heap[g]? = some (.cells cs t fr)) (hn : cs.size = n) :
    (results fn tmps).run P w = .ok (.tuple #[.agg cs, v]) w := by
  obtain ⟨d, hu, hd⟩ := hT.und
  have hp' : tmps[p]?.getD undef = .pointer (some ⟨g, 0, none⟩) := by simpa using hp
  have hq' : tmps[q]?.getD undef = v := by simpa using hq
  have e1 := run_loadVar_row (P := P) w g t T cs fr d hg hu (by cases d <;> simp_all) (by rw [hT.size, hn])
  simp [results, h, hp', hq', asAddr, e1]
end

section
variable {α : Type} {enc : α → List Value} {k : Nat} {E : TypeId} {B : Nat} {w w' : World} {a : Option Addr} {n c : Nat} {l : List α}

theorem flat_set (hk : EnK enc k) (l : List α) (i : Nat) (hi : i < l.length) (x : α) : (l.set i x).flatMap enc = (l.flatMap enc).take (i * k) ++ enc x ++ (l.flatMap enc).drop (i * k + k) := by
  have e : l.flatMap enc = (l.take i).flatMap enc ++ (enc l[i] ++ (l.drop (i + 1)).flatMap enc) := by
    conv => lhs; rw [← List.take_append_drop i l, List.drop_eq_getElem_cons hi]
    rw [List.flatMap_append, List.flatMap_cons]
  have h1 : ((l.take i).flatMap enc).length = i * k := by rw [flat_len hk, List.length_take, Nat.min_eq_left (by omega)]
  have h2 := hk.len l[i]
  rw [List.set_eq_take_append_cons_drop, if_pos hi, List.flatMap_append, List.flatMap_cons, e]
  rw [List.take_left' h1, ← List.append_assoc (List.flatMap enc (List.take i l)) (enc l[i]), List.drop_left' (by rw [List.length_append, h1, h2]), List.append_assoc]

theorem take_splice {β : Type} (L V : List β) (o m : Nat) (h : o + V.length ≤ m) (hm : m ≤ L.length) : (L.take o ++ V ++ L.drop (o + V.length)).take m = (L.take m).take o ++ V ++ (L.take m).drop (o + V.length) := by
  apply List.ext_getElem?
  intro j
  simp only [List.getElem?_take, List.getElem?_append, List.getElem?_drop, List.length_append, List.length_take, Nat.min_eq_left (show o ≤ L.length by omega), Nat.min_eq_left hm, Nat.min_eq_left (show o ≤ m by omega)]
  by_cases h1 : j < o
  · simp [h1, show j < m by omega, show j < o + V.length by omega]
  · by_cases h2 : j < o + V.length
    · simp [h1, h2, show j < m by omega]
    · have e : o + V.length + (j - (o + V.length)) = j := by omega
      simp [h2, e]

/-- Cells written one behind the other. -/
def wrC (cur : Array Value) : Nat → List Value → Array Value
  | _, [] => cur
  | o, v :: r => wrC (cur.setIfInBounds o v) (o + 1) r

theorem wrC_size : ∀ (vs : List Value) (cur : Array Value) (o : Nat), (wrC cur o vs).size = cur.size
  | [], _, _ => rfl
  | v :: r, cur, o => by rw [wrC, wrC_size r]; simp

theorem wrC_list : ∀ (vs : List Value) (cur : Array Value) (o : Nat), o + vs.length ≤ cur.size → (wrC cur o vs).toList = cur.toList.take o ++ vs ++ cur.toList.drop (o + vs.length)
  | [], cur, o, h => by simp [wrC]
  | v :: r, cur, o, h => by
    have ho : o < cur.size := by simp at h; omega
    rw [wrC, wrC_list r _ _ (by simp at h ⊢; omega)]
    rw [Array.toList_setIfInBounds, List.take_succ_eq_append_getElem (by simpa using ho), List.take_set_of_le (Nat.le_refl _), List.drop_set_of_lt (by omega)]
    simp [Nat.add_assoc, Nat.add_comm 1]

theorem heap_setCells_same (b : Nat) (t : TypeId) : ∀ (vs : List Value) (o : Nat) (w : World) (cur : Array Value), w.heap[b]? = some (.cells cur t (0, 0)) → (w.setCells b o vs).heap[b]? = some (.cells (wrC cur o vs) t (0, 0))
  | [], _, _, _, h => h
  | v :: r, o, w, cur, h => heap_setCells_same b t r (o + 1) _ _ (heap_setCell_same w b o _ _ v h)

theorem wr_setCells (b : Nat) : ∀ (vs : List Value) (o : Nat) (w : World), Wr b w (w.setCells b o vs)
  | [], _, w => Wr.refl b w
  | v :: r, o, w => by
    have h1 : Wr b w (w.setCell ⟨b, o, none⟩ v) := (Wr.refl b w).setCell (.inl rfl) v
    exact h1.trans (wr_setCells b r (o + 1) _)

/-- An element's cells, as a range. -/
theorem RK.range (h : RK enc k w a n c l) {i : Nat} {x : α} (hx : l[i]? = some x) : ∃ b off, a = some ⟨b, off, none⟩ ∧ b < w.heap.size ∧ w.rangeAt b (off + i * k) (enc x) := by
  have hi : i < l.length := (List.getElem?_eq_some_iff.1 hx).1
  obtain ⟨b, off, ha, hb, hc⟩ := h.cell (by rw [← h.len]; omega)
  exact ⟨b, off, ha, hb, fun j v hv => by rw [Nat.add_assoc]; exact hc i x j v hx hv⟩

theorem OK.addr (h : OK enc k E B w a n c l) (hn : 0 < n) : ∃ g, a = some ⟨g, 0, none⟩ ∧ B ≤ g ∧ g < w.heap.size := by
  rcases h.ex with ⟨_, h0, _⟩ | ⟨g, cur, h1, h2, h3, _⟩
  · omega
  · exact ⟨g, h1, h2, bx_lt h3⟩

theorem OK.range (hk : EnK enc k) {g : Nat} (h : OK enc k E B w (some ⟨g, 0, none⟩) n c l) {i : Nat} {x : α} (hx : l[i]? = some x) : w.rangeAt g (i * k) (enc x) := by
  obtain ⟨b, off, e, _, hr⟩ := (h.rk hk).range hx
  cases e
  rwa [Nat.zero_add] at hr

theorem OK.there (hk : EnK enc k) {g : Nat} (h : OK enc k E B w (some ⟨g, 0, none⟩) n c l) {i : Nat} (hi : i < n) : w.there g (i * k) k := by
  rcases h.ex with ⟨h0, _⟩ | ⟨g', cur, h1, h2, h3, h4, h5, h6⟩
  · cases h0
  · cases h1
    intro j hj
    have hb : i * k + j < cur.size := by
      have : (i + 1) * k ≤ c * k := Nat.mul_le_mul_right k (by have := h.cap; omega)
      rw [Nat.add_mul] at this
      omega
    exact ⟨by rw [cell_of_row w g _ _ _ _ h3]; simp [hb], bx_thaw h3 _⟩

/-- An element written anew. -/
theorem OK.put (hk : EnK enc k) {g : Nat} (h : OK enc k E B w (some ⟨g, 0, none⟩) n c l) {i : Nat} (hi : i < n) (x : α) : OK enc k E B (w.setCells g (i * k) (enc x)) (some ⟨g, 0, none⟩) n c (l.set i x) := by
  rcases h.ex with ⟨h0, _⟩ | ⟨g', cur, h1, h2, h3, h4, h5, h6⟩
  · cases h0
  · cases h1
    have hnk : (i + 1) * k ≤ n * k := Nat.mul_le_mul_right k (by omega)
    have hck : n * k ≤ c * k := Nat.mul_le_mul_right k h.cap
    rw [Nat.add_mul] at hnk
    have hle := hk.len x
    refine ⟨by rw [List.length_set]; exact h.len, h.cap, by rw [flat_len hk, List.length_set, h.len], .inr ⟨g, c, _, rfl, h2, heap_setCells_same g E _ _ _ _ h3, h.cap, h6, by rw [wrC_size]; exact h4, ?_⟩⟩
    rw [wrC_list _ _ _ (by rw [hle, h4]; omega), flat_set hk l i (by rw [h.len]; exact hi) x, ← h5, hle]
    have hl : cur.toList.length = c * k := by rw [Array.length_toList, h4]
    have := take_splice cur.toList (enc x) (i * k) (n * k) (by rw [hle]; omega) (by rw [hl]; exact hck)
    rw [hle] at this
    exact this
end

/-- One cell of an element written anew. -/
theorem OK.setAt {α : Type} {enc : α → List Value} {k B n c g i j : Nat} {E : TypeId} {w : World} {l : List α} (hk : EnK enc k) (h : OK enc k E B w (some ⟨g, 0, none⟩) n c l) {p : α} (hp : l[i]? = some p) (hj : j < k) (v : Value) (x : α) (hx : enc x = (enc p).set j v) :
    OK enc k E B (w.setCell ⟨g, i * k + j, none⟩ v) (some ⟨g, 0, none⟩) n c (l.set i x) := by
  obtain ⟨hi, hpe⟩ := List.getElem?_eq_some_iff.1 hp
  rcases h.ex with ⟨h0, _⟩ | ⟨g', cur, h1, h2, h3, h4, h5, h6⟩
  · cases h0
  · cases h1
    refine ⟨by rw [List.length_set]; exact h.len, h.cap, by rw [flat_len hk, List.length_set, h.len], .inr ⟨g, c, _, rfl, h2, heap_setCell_same w g (i * k + j) _ _ _ h3, h.cap, h6, by rw [Array.size_setIfInBounds]; exact h4, ?_⟩⟩
    rw [Array.toList_setIfInBounds, List.take_set, h5]
    have e0 : l.set i p = l := by rw [← hpe]; exact List.set_getElem_self hi
    have e1 := flat_set hk l i hi p
    rw [e0] at e1
    have e2 := flat_set hk l i hi x
    have l1 := flat_len hk l
    have hik : (i + 1) * k ≤ l.length * k := Nat.mul_le_mul_right k hi
    rw [Nat.add_mul] at hik
    rw [e2, hx]
    generalize l.flatMap enc = F at *
    have lt : (List.take (i * k) F).length = i * k := by rw [List.length_take, l1]; omega
    calc F.set (i * k + j) v = (List.take (i * k) F ++ enc p ++ List.drop (i * k + k) F).set (i * k + j) v := by rw [← e1]
      _ = _ := by rw [List.append_assoc, List.set_append_right _ _ (by omega), lt, Nat.add_sub_cancel_left, List.set_append_left _ _ (by rw [hk.len]; exact hj), List.append_assoc]

section
variable {P : Program} {ops : Array Oper} {rest : List Oper} {o : Oper} {ac : Act} {w : World} {K : Act → World → Prop} {Q : Exit → Act → World → Prop} {T E : TypeId} {n : Nat}
variable {α : Type} {enc : α → List Value} {k B c : Nat} {l : List α}

theorem wp_loadM (hT : RowT P T n) (x : Operand) (ho : o.op = .load T x) (b off : Nat) (hx : ac.eval x = .pointer (some ⟨b, off, none⟩)) (cs : Array Value) (hr : w.rangeAt b off cs.toList) (hn : cs.size = n)
    (h : K (ac.put o.dst (.agg cs)) w) : o.wp P ac w K Q := by
  obtain ⟨d, hu, hd⟩ := hT.und
  exact wp_load_mid T x ho b off hx cs.toList d hr hu (by cases d <;> simp_all) (by rw [hT.size, Array.length_toList, hn]) (by rw [Array.toArray_toList]; exact h)

/-- A whole element is loaded, in the middle of a block. -/
theorem wpList_loadM (hT : RowT P T n) (hgd : o.guard = none) (x : Operand) (ho : o.op = .load T x) (b off : Nat) (hx : ac.eval x = .pointer (some ⟨b, off, none⟩)) (cs : Array Value) (hr : w.rangeAt b off cs.toList) (hn : cs.size = n)
    (h : wpList P ops Q rest (ac.put o.dst (.agg cs)) w) : wpList P ops Q (o :: rest) ac w :=
  wpList_plain hgd fun _ hK => wp_loadM hT x ho b off hx cs hr hn (hK _ _ h)
theorem wpList_loadMW (hT : RowT P T n) (hw : Region.wanted o (yielded ops ac.tmps) = true) (x : Operand) (ho : o.op = .load T x) (b off : Nat) (hx : ac.eval x = .pointer (some ⟨b, off, none⟩)) (cs : Array Value) (hr : w.rangeAt b off cs.toList) (hn : cs.size = n)
    (h : wpList P ops Q rest (ac.put o.dst (.agg cs)) w) : wpList P ops Q (o :: rest) ac w :=
  wpList_step fun _ hK => by
    rw [if_pos hw]
    exact wp_loadM hT x ho b off hx cs hr hn (hK _ _ h)

variable {z : Value} {bytes : Nat}
theorem made_flat (hk : EnK enc k) (hp : 0 < k) (zs : Array Value) (z0 : α) (hz : zs.toList = enc z0) (n : Nat) : (madeCells zs (n * k)).toList = (List.replicate n z0).flatMap enc := by
  have hzs : zs.size = k := by rw [← Array.length_toList, hz, hk.len]
  apply List.ext_getElem?
  intro p
  by_cases hlt : p < n * k
  · have hq : p / k < n := (Nat.div_lt_iff_lt_mul hp).2 hlt
    have hm : p % k < k := Nat.mod_lt _ hp
    have he : p / k * k + p % k = p := by rw [Nat.mul_comm]; exact Nat.div_add_mod p k
    obtain ⟨v, hv⟩ : ∃ v, (enc z0)[p % k]? = some v := ⟨_, List.getElem?_eq_getElem (by rw [hk.len]; exact hm)⟩
    have h2 := flat_at hk (List.replicate n z0) (p / k) (p % k) z0 v (by simp [hq]) hv
    rw [he] at h2
    rw [h2]
    unfold madeCells
    rw [← hz] at hv
    have hv' : zs[p % zs.size]? = some v := by rw [hzs]; simpa using hv
    have : (zs[p % zs.size]!) = v := by rw [Array.getElem!_eq_getD, Array.getD_eq_getD_getElem?, hv']; rfl
    simp [hlt, this]
  · rw [List.getElem?_eq_none (by rw [Array.length_toList, size_madeCells]; omega), List.getElem?_eq_none (by rw [flat_len hk, List.length_replicate]; omega)]

theorem run_mkK {P : Program} (hT : ElK P T E k z bytes) (hk : EnK enc k) (z0 : α) (hz : z.cells.toList = enc z0) (w : World) (kl kc : IntKind) (n : Nat) (h63 : n ≤ 1000000) (hby : bytes ≤ 1000) :
    (Instr.makeSlice T (.int kl (n : Int)) (.int kc (n : Int))).run P w = .ok (.slice (some ⟨w.heap.size, 0, none⟩) n n) (w.alloc (.cells (madeCells z.cells (n * k)) E)) ∧
      OK enc k E w.heap.size (w.alloc (.cells (madeCells z.cells (n * k)) E)) (some ⟨w.heap.size, 0, none⟩) n n (List.replicate n z0) := by
  obtain ⟨i, hi, hz0, hz1, hz2⟩ := info_parts hT.info
  have hb2 : ((i.bytes * n : Nat) : Int) ≤ 281474976710656 := by
    have := Nat.mul_le_mul hby h63
    rw [hz2]; omega
  have hr := run_make (P := P) w T E i z hT.und hi hz0 kl kc n n (by omega) (Int.le_refl _) (by rw [Int.natCast_mul] at hb2; exact hb2) (by omega)
  rw [hz1] at hr
  simp only [Int.toNat_natCast] at hr
  exact ⟨hr, ok_of_cells hk (heap_alloc_new w _) (Nat.le_refl _) (by omega) (by simp) (made_flat hk hT.pos _ z0 hz n)⟩

/-- 'make([]T, n)', elements of k cells. -/
theorem wpList_mkK (hT : ElK P T E k z bytes) (hk : EnK enc k) (z0 : α) (hz : z.cells.toList = enc z0) (hgd : o.guard = none) (lo co : Operand) (ho : o.op = Op.makeSlice T lo co) (n : Nat) (L C : Int) (kl kc : IntKind)
    (hl : ac.eval lo = .int kl L) (hc : ac.eval co = .int kc C) (hL : L = (n : Int)) (hC : C = (n : Int)) (h63 : n ≤ 1000000) (hby : bytes ≤ 1000)
    (h : ∀ w', OK enc k E w.heap.size w' (some ⟨w.heap.size, 0, none⟩) n n (List.replicate n z0) → Below w.heap.size w w' → w'.heap.size = w.heap.size + 1 → wpList P ops Q rest (ac.put o.dst (.slice (some ⟨w.heap.size, 0, none⟩) n n)) w') :
    wpList P ops Q (o :: rest) ac w := by
  subst hL
  subst hC
  refine wpList_plain hgd fun K hK' => ?_
  obtain ⟨hr, hok⟩ := run_mkK hT hk z0 hz w kl kc n h63 hby
  unfold Oper.wp
  simp [execOp, ho, hl, hc, hr, Result.andThen]
  exact hK' _ _ (h _ hok ((Below.refl _ _).alloc (Nat.le_refl _) _) (by simp))
end

theorem cloneY_any (w : World) (a : Option Addr) (n c : Nat) (l : List UInt8) (h : RL bv w a n c l) (hn : n ≤ 1000000) :
    Calls Try.prog 31 #[.slice a n c] w fun e w' => ∃ a' c', e = .returned (.slice a' n c') ∧ OL bv 5 w.heap.size w' a' n c' l ∧ Below w.heap.size w w' := by
  have q22 : ∀ (w : World) (a : Option Addr) (n c n' c' : Nat), (binOp .eql 32 (.slice a n c) (.slice none n' c')).run Try.prog w = .ok (.bool a.isNone) w := fun w a n c n' c' => Lib.run_eql_slice_nil w _ _ a n c n' c' tY.und
  cases a with
  | none =>
    obtain rfl : n = 0 := by
      by_cases h0 : n = 0
      · exact h0
      · obtain ⟨b, off, e, _⟩ := h.cell (by omega); cases e
    obtain rfl : l = [] := List.eq_nil_of_length_eq_zero h.len
    go_enter Try.func31, Try.ntmps31
    go_wp2
    go_ret
    exact ⟨none, 0, rfl, OL.nil _ _ _ _, Below.refl _ _⟩
  | some ad =>
    have h1 := h.below (bnew0 w (.cells #[] 5))
    have ho := ol_lit bv 5 w.heap.size w [] #[] 0 rfl rfl (by omega) (Nat.le_refl _)
    go_enter Try.func31, Try.ntmps31
    go_wp2_with (at_builtin; refine wpList_app (f := bv) tY rfl _ _ rfl rfl ho rfl h1 (fun _ => rfl) (by omega) (by omega) (by simp) ?_; intro w10 a10 c10 hol10 hb10)
    go_ret
    rw [Nat.zero_add, List.nil_append] at hol10
    exact ⟨a10, c10, rfl, hol10, (bnew0 w _).trans hb10⟩

end Go.Proofs.Ytihafoeimpjdaaa

namespace Go.Proofs.Ytihafoeimpjdaaa
open Go.RowKit Go.ChangeShapes Go.WideShapes Go.ChangeAt Go.Deep
set_option linter.unusedVariables false
set_option linter.unusedSimpArgs false

section
variable {H : Type} {enc : TypeId × Value → H} {P : Program} {W : World}

theorem cell_bytes10 {T e : TypeId} {v : Value} {n0 : Nat} {x : DataW H × List MemPlace} (ht : P.underlying T = some (.slice e)) (he : P.underlying e = some (.int .u8)) (hc : P.cellsOf e = 1)
    (hf : DataW.trod enc P W 0 (fun _ => true) true n0 T [v] = some x) : ∃ a n c l, v = .slice a n c ∧ RL bv W a n c l ∧ n ≤ 9223372036854775807 := by
  rcases open_ints ht he hc hf with ⟨hcs, _⟩ | ⟨ad, len, cap, zs, hcs, _, hl, hm, hz, _, hcell, hwz⟩
  · simp at hcs
    subst hcs
    exact ⟨none, 0, 0, [], rfl, RL.nil _ _ _ _, by omega⟩
  · simp at hcs
    subst hcs
    simp only [if_true] at hz
    refine ⟨some ad, len, cap, (zs.take len).map (fun z => UInt8.ofNat z.toNat), rfl, ⟨by simp; omega, hl, fun hn => ?_⟩, by unfold maxLen at hm; omega⟩
    obtain ⟨b, off, spot⟩ := ad
    have hspot : spot = none := by simpa [Addr.add] using World.cell?_spot (hcell 0 (by omega))
    subst hspot
    refine ⟨b, off, rfl, ?_, fun i x hx => ?_⟩
    · have := World.block_lt_of_cell? W _ (hcell 0 (by omega))
      simpa [Addr.add] using this
    · have hi : i < len := by
        have := (List.getElem?_eq_some_iff.1 hx).1
        simp at this
        omega
      have hiz : i < zs.length := by omega
      have := hcell i (by omega)
      rw [Addr.add_lit] at this
      rw [this]
      simp [hi, hiz] at hx
      subst hx
      have hw := hwz (zs[i]) (List.getElem_mem hiz)
      simp only [Lit.wf, IntKind.min, IntKind.max, IntKind.signed, IntKind.bits] at hw
      simp at hw
      simp [bv, List.getD, hiz]
      omega

/-- The five cells of a frame, read. -/
theorem cells_fr {n0 : Nat} {cs : List Value} {x : DataW H × List MemPlace} (h : DataW.trod enc Try.prog W 0 (fun _ => true) true n0 34 cs = some x) :
    ∃ p : Ff, cs = enF p ∧ p.1.id < 4294967296 ∧ p.1.dlc < 256 ∧ RL bv W p.2.1 p.1.data.length p.2.2 p.1.data ∧ p.1.data.length ≤ 9223372036854775807 := by
  obtain ⟨zs, n', hn', hx', hlen', hl', hgg⟩ := DataW.trod_struct Try.underlying34 h
  have hc5 : cs.length = 5 := hlen'
  match cs, hc5 with
  | [c0, c1, c2, c3, c4], _ =>
  match zs, hl' with
  | [z0, z1, z2, z3, z4], _ =>
  have e0 : DataW.trod enc Try.prog W 0 (fun _ => true) true n' 31 (([c0, c1, c2, c3, c4].drop 0).take (Try.prog.cellsOf 31)) = [z0, z1, z2, z3, z4][0]? := hgg 0 _ rfl
  have e1 : DataW.trod enc Try.prog W 0 (fun _ => true) true n' 4 (([c0, c1, c2, c3, c4].drop 1).take (Try.prog.cellsOf 4)) = [z0, z1, z2, z3, z4][1]? := hgg 1 _ rfl
  have e2 : DataW.trod enc Try.prog W 0 (fun _ => true) true n' 4 (([c0, c1, c2, c3, c4].drop 2).take (Try.prog.cellsOf 4)) = [z0, z1, z2, z3, z4][2]? := hgg 2 _ rfl
  have e3 : DataW.trod enc Try.prog W 0 (fun _ => true) true n' 5 (([c0, c1, c2, c3, c4].drop 3).take (Try.prog.cellsOf 5)) = [z0, z1, z2, z3, z4][3]? := hgg 3 _ rfl
  have e4 : DataW.trod enc Try.prog W 0 (fun _ => true) true n' 32 (([c0, c1, c2, c3, c4].drop 4).take (Try.prog.cellsOf 32)) = [z0, z1, z2, z3, z4][4]? := hgg 4 _ rfl
  rw [show Try.prog.cellsOf 31 = 1 by kernel_rfl] at e0
  rw [show Try.prog.cellsOf 4 = 1 by kernel_rfl] at e1 e2
  rw [show Try.prog.cellsOf 5 = 1 by kernel_rfl] at e3
  rw [show Try.prog.cellsOf 32 = 1 by kernel_rfl] at e4
  simp at e0 e1 e2 e3 e4
  obtain ⟨x0, k0, _, q0⟩ := DataW.trod_int (show Try.prog.underlying 31 = some (.int .u32) by kernel_rfl) e0
  obtain ⟨x1, k1, _⟩ := DataW.trod_bool (show Try.prog.underlying 4 = some .bool by kernel_rfl) e1
  obtain ⟨x2, k2, _⟩ := DataW.trod_bool (show Try.prog.underlying 4 = some .bool by kernel_rfl) e2
  obtain ⟨x3, k3, _, q3⟩ := DataW.trod_int (show Try.prog.underlying 5 = some (.int .u8) by kernel_rfl) e3
  obtain ⟨a, m, c, l, rfl, hr, hm⟩ := cell_bytes10 tY.und (show Try.prog.underlying 5 = some (.int .u8) by kernel_rfl) tY.size e4
  simp at k0 k1 k2 k3
  subst k0 k1 k2 k3
  have w0 : 0 ≤ x0 ∧ x0 ≤ 4294967295 := by simpa [Lit.wf, IntKind.min, IntKind.max, IntKind.signed, IntKind.bits] using q0
  have w3 : 0 ≤ x3 ∧ x3 ≤ 255 := by simpa [Lit.wf, IntKind.min, IntKind.max, IntKind.signed, IntKind.bits] using q3
  obtain ⟨y0', rfl⟩ := Int.eq_ofNat_of_zero_le w0.1
  obtain ⟨y3', rfl⟩ := Int.eq_ofNat_of_zero_le w3.1
  obtain rfl : l.length = m := hr.len
  exact ⟨(⟨y0', x1, x2, y3', l⟩, (a, c)), rfl, by show y0' < _; omega, by show y3' < _; omega, hr, hm⟩
end

end Go.Proofs.Ytihafoeimpjdaaa

namespace Go.Proofs.Ytihafoeimpjdaaa
open Go.RowKit
set_option linter.unusedVariables false

structure Ch (S : Nat → Prop) (w w' : World) : Prop where
  os : w'.os = w.os
  tape : w'.tape = w.tape
  output : w'.output = w.output
  size : w.heap.size ≤ w'.heap.size
  block : ∀ k, k < w.heap.size → ¬ S k → w'.heap[k]? = w.heap[k]?

section
variable {S S1 S2 : Nat → Prop} {w w0 w1 w2 : World}

theorem Ch.refl (S : Nat → Prop) (w : World) : Ch S w w := ⟨rfl, rfl, rfl, Nat.le_refl _, fun _ _ _ => rfl⟩
theorem Ch.trans (h : Ch S w w1) (k : Ch S1 w1 w2) (hs : ∀ b, S1 b → S b ∨ w.heap.size ≤ b) : Ch S w w2 :=
  ⟨k.os.trans h.os, k.tape.trans h.tape, k.output.trans h.output, Nat.le_trans h.size k.size, fun i hi hg =>
    (k.block i (Nat.lt_of_lt_of_le hi h.size) (fun e => by rcases hs i e with x | x; exact hg x; omega)).trans (h.block i hi hg)⟩
theorem Ch.of_below (k : Below w.heap.size w w1) : Ch S w w1 := ⟨k.os, k.tape, k.output, k.size, fun i hi _ => k.block i hi⟩
theorem Ch.call (h : Ch S w w1) (k : Below w1.heap.size w1 w2) : Ch S w w2 := h.trans (Ch.of_below (S := fun _ => False) k) (fun _ e => e.elim)
theorem Ch.alloc (h : Ch S w w1) (o : Obj) : Ch S w (w1.alloc o) := h.call (bnew0 w1 o)
theorem Ch.setCell (h : Ch S w w1) {p : Addr} (hp : S p.block ∨ w.heap.size ≤ p.block) (u : Value) : Ch S w (w1.setCell p u) :=
  ⟨h.os, h.tape, h.output, by simpa [World.setCell] using h.size, fun k hk hg => by
    rw [Below.heap_setCell _ _ _ _ (by rcases hp with e | e; exact fun x => hg (x ▸ e); omega)]
    exact h.block k hk hg⟩
theorem Ch.setRow (h : Ch S w w1) {p : Nat} (hp : S p ∨ w.heap.size ≤ p) (cs : Array Value) : Ch S w (w1.setRow p cs) :=
  ⟨h.os, h.tape, h.output, by simpa using h.size, fun k hk hg => by
    rw [setRow_other _ _ _ _ (by rcases hp with e | e; exact fun x => hg (x ▸ e); omega)]
    exact h.block k hk hg⟩
theorem Ch.drew (h : Ch S w w1) : Ch S w w1.drew := ⟨h.os, h.tape, h.output, h.size, h.block⟩
theorem Ch.mono (h : Ch S w w1) (hs : ∀ b, S b → S1 b) : Ch S1 w w1 := ⟨h.os, h.tape, h.output, h.size, fun k hk hg => h.block k hk (fun e => hg (hs k e))⟩
/-- All that it may change lies from block B on. -/
theorem Ch.below {B : Nat} (k : Ch S w w1) (h : Below B w0 w) (hB : B ≤ w0.heap.size) (hs : ∀ b, S b → B ≤ b) : Below B w0 w1 :=
  h.trans ⟨k.os, k.tape, k.output, k.size, fun i hi => k.block i (by have := h.size; omega) (fun e => by have := hs i e; omega)⟩

variable {α : Type} {f : α → Value} {enc : α → List Value} {q : Nat} {E : TypeId} {B n c : Nat} {a : Option Addr} {l : List α} {g : Nat} {o : Obj}
theorem Ch.bx (k : Ch S w w1) (h : w.heap[g]? = some o) (hn : ¬ S g) : w1.heap[g]? = some o := (k.block g (bx_lt h) hn).trans h
theorem RL.ch (h : RL f w a n c l) (k : Ch S w w1) (hn : ∀ p, a = some p → ¬ S p.block) : RL f w1 a n c l :=
  ⟨h.len, h.cap, fun h0 => by
    obtain ⟨b, off, ha, hlt, hc⟩ := h.cell h0
    refine ⟨b, off, ha, Nat.lt_of_lt_of_le hlt k.size, fun i x hx => ?_⟩
    rw [World.cell?_of_block (w := w) (k.block b hlt (hn _ ha))]; exact hc i x hx⟩
theorem RK.ch (h : RK enc q w a n c l) (k : Ch S w w1) (hn : ∀ p, a = some p → ¬ S p.block) : RK enc q w1 a n c l :=
  ⟨h.len, h.cap, fun h0 => by
    obtain ⟨b, off, ha, hlt, hc⟩ := h.cell h0
    refine ⟨b, off, ha, Nat.lt_of_lt_of_le hlt k.size, fun i x j v hx hv => ?_⟩
    rw [World.cell?_of_block (w := w) (k.block b hlt (hn _ ha))]; exact hc i x j v hx hv⟩
theorem OL.ch (h : OL f E B w a n c l) (k : Ch S w w1) (hn : ∀ p, a = some p → ¬ S p.block) : OL f E B w1 a n c l :=
  h.kept fun b hb => k.block b (h.ltB hb).1 (hn _ hb)
theorem OK.ch (h : OK enc q E B w a n c l) (k : Ch S w w1) (hn : ∀ p, a = some p → ¬ S p.block) : OK enc q E B w1 a n c l :=
  h.kept fun b hb => k.block b (h.ltB hb).1 (hn _ hb)
end
end Go.Proofs.Ytihafoeimpjdaaa

namespace Go.Proofs.Ytihafoeimpjdaaa
open Go.RowKit Go.Sort
set_option linter.unusedVariables false

/-- A function of the program's own text. -/
noncomputable def plainFn (F : FuncId) : Bool := match Try.prog.funcs[F]? with
  | some fn => !(fn.name == "runtime.NumGoroutine") && !fn.body.isNone
  | none => false
theorem plain_fn {F : FuncId} (h : plainFn F = true) : ∃ fn, Try.prog.funcs[F]? = some fn ∧ (fn.name == "runtime.NumGoroutine") = false ∧ fn.body.isNone = false := by
  unfold plainFn at h
  cases hf : Try.prog.funcs[F]? with
  | none => rw [hf] at h; cases h
  | some fn => rw [hf] at h; simp at h; exact ⟨fn, rfl, by simpa using h.1, by simpa using h.2⟩

theorem call_plain {F : FuncId} (h : plainFn F = true) (args : Array Value) (w : World) : (callFunc F args).run Try.prog w = .ok (.enter F args) w := by
  obtain ⟨fn, h1, h2, h3⟩ := plain_fn h
  unfold callFunc
  rw [Sem.run_bind]
  have hp : (Go.program).run Try.prog w = .ok Try.prog w := rfl
  rw [hp]
  have n1 : ¬ fn.name = "runtime.NumGoroutine" := fun e => by rw [e] at h2; simp at h2
  have n2 : ¬ fn.body = none := fun e => by rw [e] at h3; simp at h3
  simp [h1, n1, n2]

section
variable {ops : Array Oper} {o : Oper} {a : Act} {w : World} {K : Act → World → Prop} {Q : Exit → Act → World → Prop} {T : TypeId} {n : Nat}

/-- A function called, in a region that draws its order. -/
theorem draw_callF (F : FuncId) (hpl : plainFn F = true) (hw : Region.wanted o (yielded ops a.tmps) = true) (x : Operand) (xs : Array Operand) (ts : Array TypeId) (ho : o.op = Op.call { callee := .value x, args := xs, argTypes := ts }) (hx : a.eval x = .func (.func F) #[] #[])
    (args : Array Value) (ha : xs.map a.eval = args) (R : Ending → World → Prop) (hc : Calls Try.prog F args w R) (h : ∀ e w', R e w' → ∃ v, e = .returned v ∧ K (a.put o.dst v) w') :
    if Region.wanted o (yielded ops a.tmps) = true then Oper.wp Try.prog o a w K Q else K (a.put o.dst undef) w := by
  rw [if_pos hw]
  unfold Oper.wp
  have e : (execOp a.eval o).run Try.prog w = .ok (.enter F args) w := by
    subst ha
    have := call_plain hpl (xs.map a.eval) w
    simp [execOp, ho, resolve, Deferred.ofValue, hx, invoke, this]
  rw [e]
  refine hc.mono fun e w' hR => ?_
  obtain ⟨v, rfl, hk⟩ := h e w' hR
  exact hk

end

section
variable {P : Program} {md : Region.Mode} {ops : Array Oper} {Q : Exit → Act → World → Prop} {S : World → Prop} {X : List Nat}

/-- Those of X are all through. -/
def Thru (X : List Nat) (l : Array Bool) : Prop := ∀ k ∈ X, l.getD k true = true

/-- Whatever order is picked: `S` holds behind each operation, until those of X are all through. -/
def Rest (P : Program) (md : Region.Mode) (ops : Array Oper) (Q : Exit → Act → World → Prop) (S : World → Prop) (X : List Nat) : Nat → Array Bool → Act → World → Prop
  | 0, l, a, w => Region.ready md ops l = [] ∧ Q .normal a w
  | m + 1, l, a, w => (Region.ready md ops l = [] → Q .normal a w) ∧
      ∀ i ∈ Region.ready md ops l, wpOp P ops Q i (fun a' w' => (S w' ∨ Thru X (l.setIfInBounds i true)) ∧ Rest P md ops Q S X m (l.setIfInBounds i true) a' w') a w

theorem Rest.any : ∀ (m : Nat) (l : Array Bool) (a : Act) (w : World), Rest P md ops Q S X m l a w → wpAny P md ops Q m l a w
  | 0, _, _, _, h => h
  | m + 1, _, _, _, h => ⟨h.1, fun i hi => wpOp_mono (fun a' w' h' => Rest.any m _ a' w' h'.2) (h.2 i hi)⟩

theorem thru_set {l : Array Bool} (h : Thru X l) (i : Nat) : Thru X (l.setIfInBounds i true) := fun k hk => by
  have := h k hk
  by_cases e : i = k
  · subst e
    simp only [Array.getD_eq_getD_getElem?, Array.getElem?_setIfInBounds_self] at *
    split <;> simp_all
  · rw [getD_set_ne true e]; exact this

theorem thru_of {l : Array Bool} (h : (X.all fun k => l.getD k true) = true) : Thru X l := fun k hk => List.all_eq_true.1 h k hk

/-- Once they are through it is the plain word. -/
theorem Rest.of_any : ∀ (m : Nat) (l : Array Bool) (a : Act) (w : World), Thru X l → wpAny P md ops Q m l a w → Rest P md ops Q S X m l a w
  | 0, _, _, _, _, h => h
  | m + 1, _, _, _, ht, h => ⟨h.1, fun i hi => wpOp_mono (fun a' w' h' => ⟨.inr (thru_set ht i), Rest.of_any m _ a' w' (thru_set ht i) h'⟩) (h.2 i hi)⟩

/-- One of X, not through yet, waits for i. -/
def waitsB (md : Region.Mode) (ops : Array Oper) (l : Array Bool) (X : List Nat) (i : Nat) : Bool :=
  X.any fun k => k != i && !l.getD k true && (match ops[k]? with | some o => o.after.any (fun e => Region.binds md e && e.on == i) | none => false)

theorem waitsB_spec {l : Array Bool} {i : Nat} (h : waitsB md ops l X i = true) : ∃ k o, k ∈ X ∧ k ≠ i ∧ l.getD k true = false ∧ ops[k]? = some o ∧ ∃ e ∈ o.after, Region.binds md e = true ∧ e.on = i := by
  obtain ⟨k, hk, h1⟩ := List.any_eq_true.1 h
  simp only [Bool.and_eq_true, bne_iff_ne, ne_eq, Bool.not_eq_true'] at h1
  obtain ⟨⟨h2, h3⟩, h4⟩ := h1
  cases ho : ops[k]? with
  | none => rw [ho] at h4; cases h4
  | some o =>
    rw [ho] at h4
    obtain ⟨e, he, hb⟩ := Array.any_eq_true'.1 h4
    simp only [Bool.and_eq_true, beq_iff_eq] at hb
    exact ⟨k, o, hk, h2, h3, ho, e, he, hb.1, hb.2⟩

theorem not_ready {l : Array Bool} {i : Nat} {oj : Oper} (hi : i ∈ Region.ready md ops l) (hall : ∀ e ∈ oj.after, Region.binds md e = true → l.getD e.on false = true) : ∀ e ∈ oj.after, Region.binds md e = true → e.on ≠ i := fun e he hb heq => by
  have h1 := hall e he hb
  have h0 := (mem_ready.1 hi).1
  rw [heq] at h1
  rcases Nat.lt_or_ge i l.size with h' | h'
  · simp [h'] at h0 h1; rw [h0] at h1; cases h1
  · simp [Array.getElem?_eq_none h'] at h1

/-- What yields its value in every world that meets S, and is waited for, may be taken first; and so may what is none of X and yields in every world. -/
theorem Rest.first {i : Nat} {oi : Oper} {v : Value} (hi : ops[i]? = some oi) (hsel : ∀ (j : Nat) (o : Oper) cs b, ops[j]? = some o → o.op ≠ .select cs b)
    (hQ : ∀ c a w, Q (.panic c) (a.put oi.dst v) w → Q (.panic c) a w) (pure : Bool) (hX : pure = true → i ∉ X) :
    ∀ (m : Nat) (l : Array Bool) (a : Act) (w : World),
      (∀ j oj, ops[j]? = some oj → j ≠ i → l.getD j true = false → (∀ e ∈ oj.after, Region.binds md e = true → e.on ≠ i) → oi.apart ops oj = true) →
      (pure = false → ∃ k o, k ∈ X ∧ k ≠ i ∧ l.getD k true = false ∧ ops[k]? = some o ∧ ∃ e ∈ o.after, Region.binds md e = true ∧ e.on = i) →
      i ∈ Region.ready md ops l → YieldsIf P ops (fun w => pure = true ∨ S w) oi v a → (pure = true ∨ S w) → (S w ∨ Thru X l) →
      Rest P md ops Q S X m (l.setIfInBounds i true) (a.put oi.dst v) w → Rest P md ops Q S X (m + 1) l a w := by
  intro m
  induction m with
  | zero =>
    intro l a w _ _ hr hy hS hT H
    refine ⟨fun h => (by rw [h] at hr; cases hr), fun j hj => ?_⟩
    by_cases hji : j = i
    · subst hji; exact hy.wpOp hi hS ⟨hT.imp id fun h => thru_set h j, H⟩
    · have := ready_mono hj hji
      rw [H.1] at this
      cases this
  | succ m ih =>
    intro l a w hfree hwait hr hy hS hT H
    refine ⟨fun h => (by rw [h] at hr; cases hr), fun j hj => ?_⟩
    by_cases hji : j = i
    · subst hji; exact hy.wpOp hi hS ⟨hT.imp id fun h => thru_set h j, H⟩
    · have h1 := H.2 j (ready_mono hj hji)
      obtain ⟨hjun, oj, hoj, hall⟩ := mem_ready.1 hj
      have hnot := not_ready hr hall
      have h2 := wpOp_putIf hoj (hfree j oj hoj hji hjun hnot) (fun cs b => hsel i oi cs b hi) (fun cs b => hsel j oj cs b hoj) hQ hy h1
      have hfree' : ∀ k ok, ops[k]? = some ok → k ≠ i → (l.setIfInBounds j true).getD k true = false →
          (∀ e ∈ ok.after, Region.binds md e = true → e.on ≠ i) → oi.apart ops ok = true := fun k ok hk hki hun hno => by
        refine hfree k ok hk hki ?_ hno
        by_cases hjk : j = k
        · subst hjk; exact hjun
        · rw [getD_set_ne true hjk] at hun; exact hun
      have hwait' : pure = false → ∃ k o, k ∈ X ∧ k ≠ i ∧ (l.setIfInBounds j true).getD k true = false ∧ ops[k]? = some o ∧ ∃ e ∈ o.after, Region.binds md e = true ∧ e.on = i := fun hp => by
        obtain ⟨k, o, k1, k2, k3, k4, e, he, hb, ho⟩ := hwait hp
        refine ⟨k, o, k1, k2, ?_, k4, e, he, hb, ho⟩
        have : j ≠ k := fun hjk => by
          subst hjk
          rw [hoj] at k4; cases k4
          exact hnot e he hb ho
        rw [getD_set_ne true this]; exact k3
      refine wpOp_mono (fun a' w' h3 => ?_) h2
      obtain ⟨hy', hd, hR⟩ := h3
      rw [Array.setIfInBounds_comm _ _ (Ne.symm hji)] at hR
      have key : (pure = true ∨ S w') ∧ (S w' ∨ Thru X (l.setIfInBounds j true)) := by
        rcases hd with hd | hd
        · exact ⟨.inr hd, .inl hd⟩
        · cases hp : pure with
          | true =>
            refine ⟨.inl rfl, .inr fun k hk => ?_⟩
            have hki : i ≠ k := fun e => hX hp (e ▸ hk)
            have := hd k hk
            rw [Array.setIfInBounds_comm _ _ (Ne.symm hji), getD_set_ne true hki] at this
            exact this
          | false =>
            obtain ⟨k, o, k1, k2, k3, _⟩ := hwait' hp
            have := hd k k1
            rw [Array.setIfInBounds_comm _ _ (Ne.symm hji), getD_set_ne true (Ne.symm k2), k3] at this
            cases this
      exact ⟨key.2, ih (l.setIfInBounds j true) a' w' hfree' hwait' (ready_mono hr (Ne.symm hji)) hy' key.1 key.2 hR⟩

variable {i m : Nat} {o oi : Oper} {v : Value} {l : Array Bool} {a : Act} {w : World}

/-- Take a load first. -/
theorem Rest.takeS (hi : ops[i]? = some oi) (hs : Region.noSelect ops = true) (hf : Region.free md ops l i = true) (hr : (Region.ready md ops l).contains i = true) (hw : waitsB md ops l X i = true)
    (hQ : ∀ c a w, Q (.panic c) (a.put oi.dst v) w → Q (.panic c) a w) (hS : S w) (hy : YieldsIf P ops S oi v a)
    (h : Rest P md ops Q S X m (l.setIfInBounds i true) (a.put oi.dst v) w) : Rest P md ops Q S X (m + 1) l a w :=
  Rest.first hi (Region.noSelect_spec hs) hQ false (fun h => by cases h) m l a w (Region.free_spec hi hf) (fun _ => waitsB_spec hw) (by simpa using hr)
    (hy.imp (fun ⟨k, g⟩ => ⟨k, fun w hw => g w (hw.resolve_left (by simp))⟩) id) (.inr hS) (.inl hS) h

/-- Take what hangs on no world first. -/
theorem Rest.take (hi : ops[i]? = some oi) (hs : Region.noSelect ops = true) (hf : Region.free md ops l i = true) (hr : (Region.ready md ops l).contains i = true) (hX : X.contains i = false)
    (hQ : ∀ c a w, Q (.panic c) (a.put oi.dst v) w → Q (.panic c) a w) (hS : S w ∨ Thru X l) (hy : Yields P ops oi v a)
    (h : Rest P md ops Q S X m (l.setIfInBounds i true) (a.put oi.dst v) w) : Rest P md ops Q S X (m + 1) l a w :=
  Rest.first hi (Region.noSelect_spec hs) hQ true (fun _ => by simpa using hX) m l a w (Region.free_spec hi hf) (fun h => by cases h) (by simpa using hr)
    hy.yieldsIf (.inl rfl) hS h

/-- The one that may come up now comes up. -/
theorem Rest.one (hr : Region.ready md ops l = [i]) (ho : ops[i]? = some o)
    (h : ∀ K' : Act → World → Prop, (∀ a w, (S w ∨ Thru X (l.setIfInBounds i true)) ∧ Rest P md ops Q S X m (l.setIfInBounds i true) a w → K' a w) → if Region.wanted o (yielded ops a.tmps) = true then Oper.wp P o a w K' Q else K' (a.put o.dst undef) w) :
    Rest P md ops Q S X (m + 1) l a w :=
  ⟨fun h0 => (by rw [hr] at h0; cases h0), fun j hj => by
    rw [hr] at hj
    have hji : j = i := by simpa using hj
    subst hji
    exact wpOp_step ho h⟩

theorem Rest.begin {id : Nat} (hm : P.follows .mixedOrders = true) (h : Rest P .any ops Q S X ops.size (Array.replicate ops.size false) a w.drew) : (Code.region id ops true).wp P Q a w :=
  wp_region_any hm (Rest.any _ _ _ _ h)

/-- A row that stands in every world that meets S. -/
theorem yields_loadR {T : TypeId} {n : Nat} (hT : RowT P T n) (hw : Region.wanted o (yielded ops a.tmps) = true) (x : Operand) (ho : o.op = .load T x) (g : Nat) (hx : a.eval x = .pointer (some ⟨g, 0, none⟩)) (cs : Array Value) (hn : cs.size = n)
    (hS : ∀ w, S w → ∃ t fr, w.heap[g]? = some (.cells cs t fr)) : YieldsIf P ops S o (.agg cs) a := by
  obtain ⟨d, hu, hd⟩ := hT.und
  refine .inl ⟨hw, fun w h => ?_⟩
  obtain ⟨t, fr, hg⟩ := hS w h
  have e := run_loadVar_row (P := P) w g t T cs fr d hg hu (by cases d <;> simp_all) (by rw [hT.size, hn])
  unfold execOp
  simp only [ho, hx, Instr.loadAt, Instr.sureAddr, Sem.run_bind, Sem.run_pure, Result.andThen_ok, e]
end
end Go.Proofs.Ytihafoeimpjdaaa

namespace Go.Proofs.Ytihafoeimpjdaaa
open Go.RowKit Go.Sort
set_option linter.unusedVariables false

section
variable {P : Program} {ops : Array Oper} {rest : List Oper} {o : Oper} {a : Act} {w : World} {K : Act → World → Prop} {Q : Exit → Act → World → Prop} {S : World → Prop} {T : TypeId} {n : Nat}

theorem yields_loadM (hT : RowT P T n) (hw : Region.wanted o (yielded ops a.tmps) = true) (x : Operand) (ho : o.op = .load T x) (b off : Nat) (hx : a.eval x = .pointer (some ⟨b, off, none⟩)) (cs : Array Value) (hn : cs.size = n)
    (hS : ∀ w, S w → w.rangeAt b off cs.toList) : YieldsIf P ops S o (.agg cs) a := by
  obtain ⟨d, hu, hd⟩ := hT.und
  refine .inl ⟨hw, fun w h => ?_⟩
  have e := run_loadVar_mid (P := P) w b off T cs.toList d (hS w h) hu (by cases d <;> simp_all) (by rw [hT.size, Array.length_toList, hn])
  rw [Array.toArray_toList] at e
  unfold execOp
  simp only [ho, hx, Instr.loadAt, Instr.sureAddr, Sem.run_bind, Sem.run_pure, Result.andThen_ok, e]

/-- A struct is stored in the middle of a block. -/
theorem wpList_setM (hT : RowT P T n) (hgd : o.guard = none) (x y : Operand) (ho : o.op = .store T x y) (b off : Nat) (cells : Array Value) (hx : a.eval x = .pointer (some ⟨b, off, none⟩)) (hy : a.eval y = .agg cells)
    (ht : w.there b off n) (hn : cells.size = n) (h1 : cells.all (·.oneCell') = true) (h : ∀ w', Hid (w' = w.setCells b off cells.toList) → wpList P ops Q rest (a.put o.dst undef) w') : wpList P ops Q (o :: rest) a w :=
  wpList_plain hgd fun _ hK => wp_store_mid T x y ho b off cells hx hy (by rw [hn]; exact ht) (by rw [hT.size, hn]) h1 (hK _ _ (h _ (hid rfl)))
theorem draw_setM (hT : RowT P T n) (hgd : o.guard = none) (x y : Operand) (ho : o.op = .store T x y) (b off : Nat) (cells : Array Value) (hx : a.eval x = .pointer (some ⟨b, off, none⟩)) (hy : a.eval y = .agg cells)
    (ht : w.there b off n) (hn : cells.size = n) (h1 : cells.all (·.oneCell') = true) (h : ∀ w', Hid (w' = w.setCells b off cells.toList) → K (a.put o.dst undef) w') :
    if Region.wanted o (yielded ops a.tmps) = true then Oper.wp P o a w K Q else K (a.put o.dst undef) w := by
  rw [if_pos (by simp [Region.wanted, hgd])]
  exact wp_store_mid T x y ho b off cells hx hy (by rw [hn]; exact ht) (by rw [hT.size, hn]) h1 (h _ (hid rfl))
end
end Go.Proofs.Ytihafoeimpjdaaa

namespace Go.Proofs.Ytihafoeimpjdaaa
open Go.RowKit

theorem tB : ElT Try.prog 41 4 (.bool false) 1 := ⟨by kernel_rfl, by kernel_rfl, by kernel_rfl, by kernel_rfl, by kernel_rfl⟩
end Go.Proofs.Ytihafoeimpjdaaa

namespace Go.Proofs.Ytihafoeimpjdaaa

theorem take_snoc {α : Type} {l : List α} {k : Nat} {x : α} (h : l[k]? = some x) : l.take (k + 1) = l.take k ++ [x] := by
  rw [List.take_add_one, h]; rfl

end Go.Proofs.Ytihafoeimpjdaaa

namespace Go.Proofs.Ytihafoeimpjdaaa
open Go.RowKit
set_option linter.unusedVariables false


theorem same_any (w : World) (a : Option Addr) (n c : Nat) (l : List Bool) (a2 : Option Addr) (n2 c2 : Nat) (l2 : List Bool) (h : RL .bool w a n c l) (h2 : RL .bool w a2 n2 c2 l2) (hn : n ≤ 1000000) :
    Calls Try.prog 17 #[.slice a n c, .slice a2 n2 c2] w fun e w' => e = .returned (.bool (decide (l = l2))) ∧ w = w' := by
  by_cases hne : n = n2
  · subst hne
    have HE : Hid (∀ k, l.take k = l2.take k → n ≤ k → l = l2) := fun k hk hkn => by
      rwa [List.take_of_length_le (by rw [h.len]; omega), List.take_of_length_le (by rw [h2.len]; omega)] at hk
    go_enter Try.func17, Try.ntmps17
    go_wp2
    go_loop [14] (fun i => ∃ k : Nat, k ≤ n ∧ i = .int .i64 k ∧ l.take k = l2.take k) (fun i => n - (intOf i).toNat)
    case atStart => exact ⟨0, Nat.zero_le _, rfl, rfl⟩
    case round =>
      obtain ⟨k, hk, rfl, hall⟩ := hrel
      have HA := hid hall; clear hall
      by_cases hlt : k < n
      · obtain ⟨b, off, x, rfl, hx, hck⟩ := h.at hlt
        obtain ⟨b2, off2, x2, rfl, hx2, hck2⟩ := h2.at hlt
        have HX := hid hx; clear hx
        have HX2 := hid hx2; clear hx2
        by_cases hxx : x = x2
        · subst hxx
          go_wp2
          go_round
          case rel => exact ⟨k + 1, by omega, by go_num, by rw [take_snoc HX.out, take_snoc HX2.out, HA.out]⟩
          case measure => simp [intOf]; omega
        · have HN : Hid (¬ l = l2) := fun e => by
            have := HX.out; rw [e, HX2.out] at this; exact hxx (by simpa using this.symm)
          have hb : (x2 == x) = false := by simp; exact fun e => hxx e.symm
          have hb' : (x2 != x) = true := by simp; exact fun e => hxx e.symm
          clear hxx
          go_wp2
          go_ret
          exact ⟨ret_bool (decide_eq_false HN.out).symm, rfl⟩
      · have hl := HE.out k HA.out (by omega)
        have HL := hid hl; clear hl
        go_wp2
        go_ret
        exact ⟨ret_bool (decide_eq_true HL.out).symm, rfl⟩
  · have HN : Hid (¬ l = l2) := fun e => by
      subst e; exact hne (h.len.symm.trans h2.len)
    have hd : ((n : Int) == (n2 : Int)) = false := by simp; omega
    have hd' : ((n : Int) != (n2 : Int)) = true := by simp; omega
    go_enter Try.func17, Try.ntmps17
    go_wp2
    go_ret
    exact ⟨ret_bool (decide_eq_false HN.out).symm, rfl⟩

end Go.Proofs.Ytihafoeimpjdaaa

namespace Go.Proofs.Ytihafoeimpjdaaa
open Go.RowKit
set_option linter.unusedVariables false

theorem alike_any (w : World) (a : Option Addr) (n c : Nat) (l : List UInt8) (a2 : Option Addr) (n2 c2 : Nat) (l2 : List UInt8) (h : RL bv w a n c l) (h2 : RL bv w a2 n2 c2 l2) :
    Calls Try.prog 23 #[.slice a n c, .slice a2 n2 c2] w fun e w' => e = .returned (.bool (decide (l = l2))) ∧ w = w' := by
  have e1 := run_bstr (S := 9) tY (by kernel_rfl) (by kernel_rfl) h
  have e2 := run_bstr (S := 9) tY (by kernel_rfl) (by kernel_rfl) h2
  go_enter Try.func23, Try.ntmps23
  go_wp2
  go_ret
  exact ⟨ret_bool (by rw [Bool.eq_iff_iff]; simp), rfl⟩

end Go.Proofs.Ytihafoeimpjdaaa

namespace Go.Proofs.Ytihafoeimpjdaaa
open Go.RowKit Go.Shelf
set_option linter.unusedVariables false

attribute [local go_sem] Oper.semAt_some

end Go.Proofs.Ytihafoeimpjdaaa

namespace Go.Proofs.Ytihafoeimpjdaaa
open Go.RowKit Go.Sort
set_option linter.unusedVariables false

/-- How many bytes a frame has. -/
def lonF (rem : Bool) (dlc : Nat) : Nat := if rem then 0 else min dlc 8

/-- Whether a frame with n bytes is right. -/
def riF (id : Nat) (ext rem : Bool) (dlc n : Nat) : Bool := decide (id ≤ if ext then 536870911 else 2047) && decide (dlc ≤ 15) && decide (n = lonF rem dlc)

/-- A frame that was laid in a new box: its cells, in every world that has only grown and drawn since. -/
theorem boxed (w : World) (E : TypeId) (v0 v1 v2 v3 v4 : Value) : ∃ w0, Hid (w.alloc (.cells #[v0, v1, v2, v3, v4] E) = w0) ∧ w0.heap[w.heap.size]? = some (.cells #[v0, v1, v2, v3, v4] E (0, 0)) ∧
    (∀ d os, (grow (redrawn w0 d) os).cell? ⟨w.heap.size, 0, none⟩ = some v0) ∧ (∀ d os, (grow (redrawn w0 d) os).cell? ⟨w.heap.size, 1, none⟩ = some v1) ∧ (∀ d os, (grow (redrawn w0 d) os).cell? ⟨w.heap.size, 2, none⟩ = some v2) ∧
    (∀ d os, (grow (redrawn w0 d) os).cell? ⟨w.heap.size, 3, none⟩ = some v3) ∧ (∀ d os, (grow (redrawn w0 d) os).cell? ⟨w.heap.size, 4, none⟩ = some v4) ∧ Below w.heap.size w w0 := by
  have h := heap_alloc_new w (.cells #[v0, v1, v2, v3, v4] E)
  obtain ⟨k0, k1, k2, k3, k4⟩ := bx5 h
  exact ⟨_, rfl, h, fun d os => cell_regrown k0 d os, fun d os => cell_regrown k1 d os, fun d os => cell_regrown k2 d os, fun d os => cell_regrown k3 d os, fun d os => cell_regrown k4 d os, bnew0 _ _⟩

theorem frLong_any (w : World) (id : Nat) (ext rem : Bool) (dlc : Nat) (a : Option Addr) (n c : Nat) (hd : dlc < 256) :
    Calls Try.prog 34 #[.agg #[.int .u32 (id : Int), .bool ext, .bool rem, .int .u8 (dlc : Int), .slice a n c]] w fun e w' => e = .returned (.int .i64 (lonF rem dlc : Int)) ∧ Below w.heap.size w w' := by
  obtain ⟨p, hp⟩ : ∃ p, p = min dlc 8 := ⟨_, rfl⟩
  have hp8 : p ≤ 8 := by omega
  have hmin : ∀ (ts : Array TypeId) (t : TypeId) (w' : World), (Builtin.min_ ts t #[.int .u8 (dlc : Int), .int .u8 8]).run Try.prog w' = .ok (.int .u8 (p : Int)) w' := fun ts t w' => by
    rw [run_min_int2]; congr 2; split <;> omega
  cases rem
  · have hl : lonF false dlc = p := by rw [hp]; rfl
    rw [hl]
    clear hl hp
    go_enter Try.func34, Try.ntmps34
    go_wp2
    go_ret
    exact ⟨rfl, bnew0 _ _⟩
  · go_enter Try.func34, Try.ntmps34
    go_wp2
    go_ret
    exact ⟨rfl, bnew0 _ _⟩

end Go.Proofs.Ytihafoeimpjdaaa

namespace Go.Proofs.Ytihafoeimpjdaaa
open Go.RowKit Go.Sort
set_option linter.unusedVariables false

theorem frRight_any (w : World) (id : Nat) (ext rem : Bool) (dlc : Nat) (a : Option Addr) (n c : Nat) (hi : id < 4294967296) (hd : dlc < 256) :
    Calls Try.prog 32 #[.agg #[.int .u32 (id : Int), .bool ext, .bool rem, .int .u8 (dlc : Int), .slice a n c]] w fun e w' => e = .returned (.bool (riF id ext rem dlc n)) ∧ Below w.heap.size w w' := by
  obtain ⟨r, hr⟩ : ∃ r, r = riF id ext rem dlc n := ⟨_, rfl⟩
  rw [← hr]
  obtain ⟨L, hL⟩ : ∃ L, L = lonF rem dlc := ⟨_, rfl⟩
  obtain ⟨G, hG⟩ : ∃ G : Int, G = if ext then 536870911 else 2047 := ⟨_, rfl⟩
  have hr2 : r = (decide ((id : Int) ≤ G) && decide ((dlc : Int) ≤ 15) && decide ((n : Int) = L)) := by
    rw [hr, hL, hG]; unfold riF; rw [Bool.eq_iff_iff]; cases ext <;> simp <;> omega
  clear hr
  have HR := hid hr2
  clear hr2
  have hlong : ∀ (w0 : World) d os, Calls Try.prog 34 #[.agg #[.int .u32 (id : Int), .bool ext, .bool rem, .int .u8 (dlc : Int), .slice a n c]] (grow (redrawn w0 d) os) fun e w'' => e = .returned (.int .i64 (L : Int)) ∧ ∃ p : Regrown, w'' = grow (redrawn w0 p.d) p.os := fun w0 d os => by
    rw [hL]; exact Calls.regrown_of (frLong_any _ id ext rem dlc a n c hd)
  clear hL
  have hcases : (decide ((id : Int) ≤ G) = true ∧ decide ((dlc : Int) ≤ 15) = true) ∨ (decide ((id : Int) ≤ G) = false) ∨ (decide ((id : Int) ≤ G) = true ∧ decide ((dlc : Int) ≤ 15) = false) := by simp only [decide_eq_false_iff_not, decide_eq_true_eq]; omega
  obtain ⟨w0, hw0, hbx, c0, c1, c2, c3, c4, gg0⟩ := boxed w 34 (.int .u32 (id : Int)) (.bool ext) (.bool rem) (.int .u8 (dlc : Int)) (.slice a n c)
  clear hbx
  cases ext
  all_goals
    simp only [Bool.false_eq_true, if_false, if_true] at hG
    rcases hcases with ⟨h1, h2⟩ | h1 | ⟨h1, h2⟩
    all_goals
      subst hG
      go_enter Try.func32, Try.ntmps32
      go_wp2_with fail
      rw [hw0.out]
      refine wp_region_quiet_below (by kernel_rfl) (by kernel_rfl) ?_
      repeat (go_big_quiet_step (first
        | (go_at_call 34; exact hlong _ _ _)))
      refine wpQuiet_nil ?_
      intro w9 hw9
      have gg : Below w0.heap.size w0 w9 := by obtain ⟨p9, rfl⟩ := hw9; exact below_regrown _ _ _
      clear hw9
      go_wp2
      go_ret
      refine ⟨ret_bool ?_, bstep gg0 gg⟩
      rw [HR.out]
      first | (rw [h1, h2]; rfl) | (rw [h1, h2]; simp) | (rw [h1]; rfl)

end Go.Proofs.Ytihafoeimpjdaaa

namespace Go.Proofs.Ytihafoeimpjdaaa
open Go.RowKit Go.Sort
set_option linter.unusedVariables false

/-- A row that grows beside a box that was laid first. -/
structure St (w w' : World) (a : Option Addr) (n c : Nat) (l : List Bool) (bx : Array Value) (T : TypeId) : Prop where
  row : OL .bool 4 (w.heap.size + 1) w' a n c l
  box : w'.heap[w.heap.size]? = some (.cells bx T (0, 0))
  bel : Below w.heap.size w w'
  siz : w.heap.size + 1 ≤ w'.heap.size

section
variable {w w' w'' : World} {a a' : Option Addr} {n c n' c' : Nat} {l l' : List Bool} {bx : Array Value} {T : TypeId}
theorem St.call (h : St w w' a n c l bx T) (g : Below w'.heap.size w' w'') : St w w'' a n c l bx T := ⟨h.row.below g, bx_below h.box g, bstep h.bel g, Nat.le_trans h.siz g.size⟩
theorem St.alloc (h : St w w' a n c l bx T) (o : Obj) : St w (w'.alloc o) a n c l bx T := ⟨h.row.alloc o, bx_alloc o h.box, bnew h.bel o, by simp; have := h.siz; omega⟩
theorem St.lit (w : World) (bx : Array Value) (T : TypeId) (b : Bool) : St w ((w.alloc (.cells bx T)).alloc (.cells #[.bool b] 4)) (some ⟨w.heap.size + 1, 0, none⟩) 1 1 [b] bx T := by
  have h1 := ol_lit Value.bool 4 (w.heap.size + 1) (w.alloc (.cells bx T)) [b] #[.bool b] 1 rfl rfl (by omega) (by simp)
  rw [heap_size_alloc] at h1
  exact ⟨h1, bx_alloc _ (heap_alloc_new w _), bnew (bnew0 _ _) _, by simp⟩
end

end Go.Proofs.Ytihafoeimpjdaaa

namespace Go.Proofs.Ytihafoeimpjdaaa
open Go.RowKit Go.Sort
set_option linter.unusedVariables false

set_option maxHeartbeats 1000000 in
theorem sameFrame_any (w : World) (id : Nat) (ext rem : Bool) (dlc : Nat) (a : Option Addr) (n c : Nat) (l : List UInt8) (id2 : Nat) (ext2 rem2 : Bool) (dlc2 : Nat) (a2 : Option Addr) (n2 c2 : Nat) (l2 : List UInt8) (h : RL bv w a n c l) (h2 : RL bv w a2 n2 c2 l2) :
    Calls Try.prog 16 #[.agg #[.int .u32 (id : Int), .bool ext, .bool rem, .int .u8 (dlc : Int), .slice a n c], .agg #[.int .u32 (id2 : Int), .bool ext2, .bool rem2, .int .u8 (dlc2 : Int), .slice a2 n2 c2]] w
      fun e w' => e = .returned (.bool (decide ((⟨id, ext, rem, dlc, l⟩ : Fr) = ⟨id2, ext2, rem2, dlc2, l2⟩))) ∧ Below w.heap.size w w' := by
  obtain ⟨bt, hbt⟩ : ∃ bt, bt = decide ((⟨id, ext, rem, dlc, l⟩ : Fr) = ⟨id2, ext2, rem2, dlc2, l2⟩) := ⟨_, rfl⟩
  rw [← hbt]
  simp only [Fr.mk.injEq] at hbt
  have HB := hid hbt; clear hbt
  have g2 : Below w.heap.size w ((w.alloc (.cells #[.int .u32 (id : Int), .bool ext, .bool rem, .int .u8 (dlc : Int), .slice a n c] 34)).alloc (.cells #[.int .u32 (id2 : Int), .bool ext2, .bool rem2, .int .u8 (dlc2 : Int), .slice a2 n2 c2] 34)) := bnew (bnew0 _ _) _
  by_cases h1 : id = id2
  rotate_left
  · have HN : Hid (bt = false) := HB.out.trans (decide_eq_false (by simp [h1]))
    have e1 : ((id : Int) == (id2 : Int)) = false := by simp; omega
    clear h1 HB g2
    go_enter Try.func16, Try.ntmps16
    go_wp2
    go_ret
    exact ⟨ret_bool HN.out.symm, bnew (bnew0 _ _) _⟩
  subst h1
  by_cases h1 : ext = ext2
  rotate_left
  · have HN : Hid (bt = false) := HB.out.trans (decide_eq_false (by simp [h1]))
    have e1 : (ext == ext2) = false := by simpa using h1
    clear h1 HB g2
    go_enter Try.func16, Try.ntmps16
    go_wp2
    go_ret
    exact ⟨ret_bool HN.out.symm, bnew (bnew0 _ _) _⟩
  subst h1
  by_cases h1 : rem = rem2
  rotate_left
  · have HN : Hid (bt = false) := HB.out.trans (decide_eq_false (by simp [h1]))
    have e1 : (rem == rem2) = false := by simpa using h1
    clear h1 HB g2
    go_enter Try.func16, Try.ntmps16
    go_wp2
    go_ret
    exact ⟨ret_bool HN.out.symm, bnew (bnew0 _ _) _⟩
  subst h1
  by_cases h1 : dlc = dlc2
  rotate_left
  · have HN : Hid (bt = false) := HB.out.trans (decide_eq_false (by simp [h1]))
    have e1 : ((dlc : Int) == (dlc2 : Int)) = false := by simp; omega
    clear h1 HB g2
    go_enter Try.func16, Try.ntmps16
    go_wp2
    go_ret
    exact ⟨ret_bool HN.out.symm, bnew (bnew0 _ _) _⟩
  subst h1
  have HN : Hid (decide (l = l2) = bt) := by show _ = _; rw [HB.out]; simp
  have hl1 := h.below g2
  have hl2 := h2.below g2
  go_enter Try.func16, Try.ntmps16
  go_wp2_with (go_at_call 23; refine (alike_any _ a n c l a2 n2 c2 l2 hl1 hl2).mono ?_; rw [HN.out]; rintro e w3 ⟨rfl, rfl⟩)
  go_ret
  exact ⟨rfl, g2⟩

end Go.Proofs.Ytihafoeimpjdaaa

namespace Go.Proofs.Ytihafoeimpjdaaa
open Go.RowKit Go.Sort
set_option linter.unusedVariables false
set_option linter.unusedSimpArgs false

/-- A holder, and where its lists lie. -/
structure Hol where
  x : Ln
  da : Option Addr
  dc : Nat
  ta : Option Addr
  tc : Nat
abbrev holV (h : Hol) : Array Value := #[.bool h.x.has, .int .u32 (h.x.fr.id : Int), .bool h.x.fr.ext, .bool h.x.fr.rem, .int .u8 (h.x.fr.dlc : Int), .slice h.da h.x.fr.data.length h.dc, .slice h.ta h.x.took.length h.tc, .bool h.x.cr, .bool h.x.off]
theorem hol_ones (h : Hol) : (holV h).all (·.oneCell') = true := by kernel_rfl
def enHol (h : Hol) : List Value := (holV h).toList
theorem enHol_k : EnK enHol 9 := ⟨fun _ => rfl, fun p v hv => (Array.all_eq_true_iff_forall_mem.1 (hol_ones p)) v (by simpa [enHol] using hv)⟩
abbrev holZ : Array Value := #[.bool false, .int .u32 0, .bool false, .bool false, .int .u8 0, .slice none 0 0, .slice none 0 0, .bool false, .bool false]
theorem elHol : ElK Try.prog 23 43 9 (.agg holZ) 72 := ⟨by kernel_rfl, by kernel_rfl, by kernel_rfl, by kernel_rfl, rfl, by omega⟩
theorem rowHol : RowT Try.prog 43 9 := rowT_of (by kernel_rfl) (by kernel_rfl)
theorem rowLc : RowT Try.prog 25 2 := rowT_of (by kernel_rfl) (by kernel_rfl)
theorem rowMay : RowT Try.prog 36 8 := rowT_of (by kernel_rfl) (by kernel_rfl)

/-- The plain bus of these holders. -/
def lbOf (hs : List Hol) (sil : Nat) : Lb := ⟨hs.map Hol.x, sil⟩

/-- An event, and where its frame's bytes lie. -/
structure Ma where
  what : Nat
  node : Int
  frm : Int
  fr : Fr
  da : Option Addr
  dc : Nat
abbrev mayV (m : Ma) : Array Value := #[.int .u8 (m.what : Int), .int .i64 m.node, .int .i64 m.frm, .int .u32 (m.fr.id : Int), .bool m.fr.ext, .bool m.fr.rem, .int .u8 (m.fr.dlc : Int), .slice m.da m.fr.data.length m.dc]
theorem may_ones (m : Ma) : (mayV m).all (·.oneCell') = true := by kernel_rfl
def enMay (m : Ma) : List Value := (mayV m).toList
theorem enMay_k : EnK enMay 8 := ⟨fun _ => rfl, fun p v hv => (Array.all_eq_true_iff_forall_mem.1 (may_ones p)) v (by simpa [enMay] using hv)⟩
theorem elMay : ElK Try.prog 22 36 8 (.agg #[.int .u8 0, .int .i64 0, .int .i64 0, .int .u32 0, .bool false, .bool false, .int .u8 0, .slice none 0 0]) 56 := ⟨by kernel_rfl, by kernel_rfl, by kernel_rfl, by kernel_rfl, rfl, by omega⟩
def Ma.ev (m : Ma) : Ev := ⟨m.what, m.node, m.frm, m.fr, riF m.fr.id m.fr.ext m.fr.rem m.fr.dlc m.fr.data.length⟩
/-- .. read. -/
structure MaR (w : World) (m : Ma) : Prop where
  dat : RL bv w m.da m.fr.data.length m.dc m.fr.data
  wh : m.what < 256
  id : m.fr.id < 4294967296
  dl : m.fr.dlc < 256
  no : -9223372036854775808 ≤ m.node ∧ m.node ≤ 9223372036854775807
  fm : -9223372036854775808 ≤ m.frm ∧ m.frm ≤ 9223372036854775807

/-- A bus that is read. -/
structure BuR (w : World) (a : Option Addr) (c : Nat) (hs : List Hol) : Prop where
  row : RK enHol 9 w a hs.length c hs
  tok : ∀ h ∈ hs, RL .bool w h.ta h.x.took.length h.tc h.x.took
  dat : ∀ h ∈ hs, RL bv w h.da h.x.fr.data.length h.dc h.x.fr.data
  id : ∀ h ∈ hs, h.x.fr.id < 4294967296
  dl : ∀ h ∈ hs, h.x.fr.dlc < 256

/-- The same, of the call's own from B on. -/
structure BuO (B : Nat) (w : World) (gN c : Nat) (hs : List Hol) : Prop where
  row : OK enHol 9 43 B w (some ⟨gN, 0, none⟩) hs.length c hs
  tok : ∀ h ∈ hs, OL .bool 4 B w h.ta h.x.took.length h.tc h.x.took
  dat : ∀ h ∈ hs, OL bv 5 B w h.da h.x.fr.data.length h.dc h.x.fr.data
  tn : ∀ h ∈ hs, NB h.ta gN
  dn : ∀ h ∈ hs, NB h.da gN
  dt : ∀ h ∈ hs, ∀ k ∈ hs, ∀ p q : Addr, h.da = some p → k.ta = some q → p.block ≠ q.block
  tt : ∀ (i j : Nat) (h k : Hol) (p q : Addr), i ≠ j → hs[i]? = some h → hs[j]? = some k → h.ta = some p → k.ta = some q → p.block ≠ q.block
  id : ∀ h ∈ hs, h.x.fr.id < 4294967296
  dl : ∀ h ∈ hs, h.x.fr.dlc < 256

/-- The blocks that events write. -/
def BuS (g gN : Nat) (hs : List Hol) (b : Nat) : Prop := b = g ∨ b = gN ∨ ∃ h ∈ hs, ∃ p, h.ta = some p ∧ p.block = b

/-- A bus in its box. -/
structure BuM (B : Nat) (w : World) (g gN c : Nat) (hs : List Hol) (sil : Nat) : Prop where
  box : w.heap[g]? = some (.cells #[.slice (some ⟨gN, 0, none⟩) hs.length c, .int .i64 (sil : Int)] 53 (0, 0))
  own : BuO B w gN c hs
  gB : B ≤ g
  gn : g ≠ gN
  gt : ∀ h ∈ hs, NB h.ta g
  gd : ∀ h ∈ hs, NB h.da g

section
variable {B : Nat} {w w1 : World} {g gN c sil : Nat} {hs : List Hol} {a : Option Addr} {S1 : Nat → Prop} {m : Ma}

theorem MaR.below (h : MaR w m) (k : Below w.heap.size w w1) : MaR w1 m := ⟨h.dat.below k, h.wh, h.id, h.dl, h.no, h.fm⟩
theorem BuR.below (h : BuR w a c hs) (k : Below w.heap.size w w1) : BuR w1 a c hs := ⟨h.row.below k, fun x hx => (h.tok x hx).below k, fun x hx => (h.dat x hx).below k, h.id, h.dl⟩
theorem BuO.read (h : BuO B w gN c hs) : BuR w (some ⟨gN, 0, none⟩) c hs := ⟨h.row.rk enHol_k, fun x hx => (h.tok x hx).rl, fun x hx => (h.dat x hx).rl, h.id, h.dl⟩
theorem BuO.kept (h : BuO B w gN c hs) (k : ∀ b, B ≤ b → b < w.heap.size → w1.heap[b]? = w.heap[b]?) : BuO B w1 gN c hs := by
  refine ⟨h.row.kept fun q hq => ?_, fun x hx => (h.tok x hx).kept fun q hq => ?_, fun x hx => (h.dat x hx).kept fun q hq => ?_, h.tn, h.dn, h.dt, h.tt, h.id, h.dl⟩
  · have := h.row.ltB hq; exact k q this.2 this.1
  · have := (h.tok x hx).ltB hq; exact k q this.2 this.1
  · have := (h.dat x hx).ltB hq; exact k q this.2 this.1
theorem BuO.below (h : BuO B w gN c hs) (k : Below w.heap.size w w1) : BuO B w1 gN c hs := h.kept fun b _ hb => k.block b hb
theorem BuO.mono {B' : Nat} (h : BuO B w gN c hs) (hB : B' ≤ B) : BuO B' w gN c hs := ⟨h.row.mono hB, fun x hx => (h.tok x hx).mono hB, fun x hx => (h.dat x hx).mono hB, h.tn, h.dn, h.dt, h.tt, h.id, h.dl⟩
theorem BuO.nlt (h : BuO B w gN c hs) (hn : 0 < hs.length) : gN < w.heap.size ∧ B ≤ gN := by
  obtain ⟨g', e, h1, h2⟩ := h.row.addr hn
  cases e; exact ⟨h2, h1⟩

theorem BuM.below (h : BuM B w g gN c hs sil) (k : Below w.heap.size w w1) : BuM B w1 g gN c hs sil :=
  ⟨bx_below h.box k, h.own.below k, h.gB, h.gn, h.gt, h.gd⟩
theorem BuM.size (h : BuM B w g gN c hs sil) : g < w.heap.size := bx_lt h.box
theorem BuM.sB (h : BuM B w g gN c hs sil) (h0 : 0 < hs.length) {b : Nat} (hb : BuS g gN hs b) : B ≤ b ∧ b < w.heap.size := by
  rcases hb with rfl | rfl | ⟨x, hx, p, hp, rfl⟩
  · exact ⟨h.gB, h.size⟩
  · exact ⟨(h.own.nlt h0).2, (h.own.nlt h0).1⟩
  · have := (h.own.tok x hx).ltB hp; exact ⟨this.2, this.1⟩
theorem BuM.two (h : BuM B w g gN c hs sil) : w.cell? ⟨g, 0, none⟩ = some (.slice (some ⟨gN, 0, none⟩) hs.length c) ∧ w.cell? ⟨g, 1, none⟩ = some (.int .i64 (sil : Int)) :=
  ⟨by rw [cell_of_row w g 0 _ _ _ h.box]; rfl, by rw [cell_of_row w g 1 _ _ _ h.box]; rfl⟩
/-- A holder's cell. -/
theorem BuO.cell (h : BuO B w gN c hs) {i j : Nat} {x : Hol} {v : Value} (hi : hs[i]? = some x) (hv : (enHol x)[j]? = some v) : w.cell? ⟨gN, i * 9 + j, none⟩ = some v := by
  obtain ⟨b, off, e, _, hc⟩ := (h.row.rk enHol_k).cell (by have := (List.getElem?_eq_some_iff.1 hi).1; omega)
  cases e
  have := hc i x j v hi hv
  rwa [Nat.zero_add] at this
theorem BuO.thaw (h : BuO B w gN c hs) (h0 : 0 < hs.length) (j : Nat) : w.frozen? ⟨gN, j, none⟩ = false := by
  rcases h.row.ex with ⟨e, _⟩ | ⟨g', cur, e, _, hh, _⟩
  · cases e
  · cases e; exact bx_thaw hh j

theorem has_any (w : World) (g gN n c : Nat) (sil : Value) (i : Int) (hb : w.heap[g]? = some (.cells #[.slice (some ⟨gN, 0, none⟩) n c, sil] 53 (0, 0))) :
    Calls Try.prog 19 #[.pointer (some ⟨g, 0, none⟩), .int .i64 i] w fun e w' => e = .returned (.bool (decide (0 ≤ i ∧ i < (n : Int)))) ∧ w' = w := by
  have q0 : w.cell? ⟨g, 0, none⟩ = some (.slice (some ⟨gN, 0, none⟩) n c) := by rw [cell_of_row w g 0 _ _ _ hb]; rfl
  by_cases h0 : 0 ≤ i
  · have e : decide (0 ≤ i ∧ i < (n : Int)) = decide (i < (n : Int)) := by simp [h0]
    rw [e]
    have d0 : decide (0 ≤ i) = true := decide_eq_true h0
    clear e hb
    go_enter Try.func19, Try.ntmps19
    go_wp2
    go_ret
    first | exact ⟨rfl, rfl⟩ | exact ⟨ret_bool (by simp), rfl⟩
  · have e : decide (0 ≤ i ∧ i < (n : Int)) = false := by simp [h0]
    rw [e]
    have d0 : decide (0 ≤ i) = false := decide_eq_false h0
    clear e hb
    go_enter Try.func19, Try.ntmps19
    go_wp2
    go_ret
    first | exact ⟨rfl, rfl⟩ | exact ⟨ret_bool (by simp), rfl⟩

set_option maxHeartbeats 1000000 in

theorem up_any (h : BuM B w g gN c hs sil) {i : Nat} {x : Hol} (hi : hs[i]? = some x) :
    Calls Try.prog 22 #[.pointer (some ⟨g, 0, none⟩), .int .i64 (i : Int)] w fun e w' => e = .returned (.bool x.x.up) ∧ Below w.heap.size w w' := by
  have q0 := h.two.1
  have hn := (List.getElem?_eq_some_iff.1 hi).1
  have i1 : (i : Int) < (hs.length : Int) := by omega
  have hr := h.own.row.range enHol_k hi
  clear h hi
  generalize hs.length = n at *
  obtain ⟨⟨has, fr, took, cr, off⟩, da, dc, ta, tc⟩ := x
  cases cr
  · go_enter Try.func22, Try.ntmps22
    go_wp2_with (with_reducible refine wpList_loadM rowHol rfl _ rfl _ _ rfl (holV ⟨⟨has, fr, took, false, off⟩, da, dc, ta, tc⟩) hr rfl ?_)
    go_ret
    exact ⟨rfl, bnew0 w _⟩
  · go_enter Try.func22, Try.ntmps22
    go_wp2_with (with_reducible refine wpList_loadM rowHol rfl _ rfl _ _ rfl (holV ⟨⟨has, fr, took, true, off⟩, da, dc, ta, tc⟩) hr rfl ?_)
    go_ret
    exact ⟨rfl, bnew0 w _⟩
end
end Go.Proofs.Ytihafoeimpjdaaa

namespace Go.Proofs.Ytihafoeimpjdaaa
open Go.RowKit Go.Sort
set_option linter.unusedVariables false
set_option linter.unusedSimpArgs false

/-- A part of an element written anew. -/
theorem OK.seg {α : Type} {enc : α → List Value} {k B n c g i o : Nat} {E : TypeId} {w : World} {l : List α} (hk : EnK enc k) (h : OK enc k E B w (some ⟨g, 0, none⟩) n c l) {p : α} (hp : l[i]? = some p) (vs : List Value) (ho : o + vs.length ≤ k) (x : α)
    (hx : enc x = (enc p).take o ++ vs ++ (enc p).drop (o + vs.length)) : OK enc k E B (w.setCells g (i * k + o) vs) (some ⟨g, 0, none⟩) n c (l.set i x) := by
  obtain ⟨hi, hpe⟩ := List.getElem?_eq_some_iff.1 hp
  rcases h.ex with ⟨h0, _⟩ | ⟨g', cur, h1, h2, h3, h4, h5, h6⟩
  · cases h0
  · cases h1
    have hl := h.len
    have hik : (i + 1) * k ≤ n * k := Nat.mul_le_mul_right k (by omega)
    have hck : n * k ≤ c * k := Nat.mul_le_mul_right k h.cap
    rw [Nat.add_mul] at hik
    have hcl : cur.toList.length = c * k := by rw [Array.length_toList, h4]
    refine ⟨by rw [List.length_set]; exact h.len, h.cap, by rw [flat_len hk, List.length_set, h.len], .inr ⟨g, c, _, rfl, h2, heap_setCells_same g E _ _ _ _ h3, h.cap, h6, by rw [wrC_size]; exact h4, ?_⟩⟩
    rw [wrC_list _ _ _ (by rw [h4]; omega), take_splice cur.toList vs (i * k + o) (n * k) (by omega) (by rw [hcl]; exact hck), h5]
    have e0 : l.set i p = l := by rw [← hpe]; exact List.set_getElem_self hi
    have e1 := flat_set hk l i hi p
    rw [e0] at e1
    have e2 := flat_set hk l i hi x
    have l1 := flat_len hk l
    rw [e2, hx]
    have lp := hk.len p
    generalize l.flatMap enc = F at *
    generalize enc p = P at *
    have lt : (List.take (i * k) F).length = i * k := by rw [List.length_take, l1, hl]; omega
    generalize hA : List.take (i * k) F = A at *
    generalize hC : List.drop (i * k + k) F = C at *
    clear hA hC
    subst e1
    have t1 : (A ++ P ++ C).take (i * k + o) = A ++ P.take o := by
      rw [List.append_assoc, ← lt, List.take_length_add_append, List.take_append_of_le_length (by omega)]
    have t2 : (A ++ P ++ C).drop (i * k + o + vs.length) = P.drop (o + vs.length) ++ C := by
      rw [List.append_assoc, Nat.add_assoc, ← lt, List.drop_length_add_append, List.drop_append_of_le_length (by omega)]
    rw [t1, t2]
    simp [List.append_assoc]

section
variable {B : Nat} {w w1 : World} {g gN c sil i : Nat} {hs : List Hol} {x y : Hol}

/-- A holder written anew: its lists are elsewhere than all others'. -/
theorem BuO.put (h : BuO B w gN c hs) (hi : hs[i]? = some x) (hrow : OK enHol 9 43 B w1 (some ⟨gN, 0, none⟩) hs.length c (hs.set i y)) (k : ∀ b, b < w.heap.size → b ≠ gN → w1.heap[b]? = w.heap[b]?)
    (ht : OL .bool 4 B w1 y.ta y.x.took.length y.tc y.x.took) (hd : OL bv 5 B w1 y.da y.x.fr.data.length y.dc y.x.fr.data) (tn : NB y.ta gN) (dn : NB y.da gN)
    (a1 : ∀ z ∈ hs, ∀ p q : Addr, y.da = some p → z.ta = some q → p.block ≠ q.block) (a2 : ∀ z ∈ hs, ∀ p q : Addr, z.da = some p → y.ta = some q → p.block ≠ q.block) (a3 : ∀ p q : Addr, y.da = some p → y.ta = some q → p.block ≠ q.block)
    (a4 : ∀ (j : Nat) (z : Hol) (p q : Addr), j ≠ i → hs[j]? = some z → y.ta = some p → z.ta = some q → p.block ≠ q.block) (hid : y.x.fr.id < 4294967296) (hdl : y.x.fr.dlc < 256) : BuO B w1 gN c (hs.set i y) := by
  have hn := (List.getElem?_eq_some_iff.1 hi).1
  have hm : ∀ z ∈ hs.set i y, z ∈ hs ∨ z = y := fun z hz => List.mem_or_eq_of_mem_set hz
  have hg : ∀ (j : Nat) (z : Hol), (hs.set i y)[j]? = some z → (j = i ∧ z = y) ∨ (j ≠ i ∧ hs[j]? = some z) := fun j z hz => by
    by_cases e : j = i
    · subst e; rw [List.getElem?_set_self hn] at hz; exact .inl ⟨rfl, (Option.some.inj hz).symm⟩
    · rw [List.getElem?_set_ne (Ne.symm e)] at hz; exact .inr ⟨e, hz⟩
  refine ⟨by rw [List.length_set]; exact hrow, fun z hz => ?_, fun z hz => ?_, fun z hz => ?_, fun z hz => ?_, fun z hz u hu p q hp hq => ?_, fun j l z u p q hjl hz hu hp hq => ?_, fun z hz => ?_, fun z hz => ?_⟩
  · rcases hm z hz with hz | rfl
    · exact (h.tok z hz).kept fun q hq => k q ((h.tok z hz).ltB hq).1 (fun e => h.tn z hz _ hq (by simpa using e))
    · exact ht
  · rcases hm z hz with hz | rfl
    · exact (h.dat z hz).kept fun q hq => k q ((h.dat z hz).ltB hq).1 (fun e => h.dn z hz _ hq (by simpa using e))
    · exact hd
  · rcases hm z hz with hz | rfl
    · exact h.tn z hz
    · exact tn
  · rcases hm z hz with hz | rfl
    · exact h.dn z hz
    · exact dn
  · rcases hm z hz with z1 | z1
    · rcases hm u hu with u1 | u1
      · exact h.dt z z1 u u1 p q hp hq
      · exact a2 z z1 p q hp (u1 ▸ hq)
    · rcases hm u hu with u1 | u1
      · exact a1 u u1 p q (z1 ▸ hp) hq
      · exact a3 p q (z1 ▸ hp) (u1 ▸ hq)
  · rcases hg j z hz with ⟨e1, z1⟩ | ⟨e1, z1⟩
    · rcases hg l u hu with ⟨e2, _⟩ | ⟨e2, u1⟩
      · exact absurd (e1.trans e2.symm) hjl
      · exact a4 l u p q e2 u1 (z1 ▸ hp) hq
    · rcases hg l u hu with ⟨e2, u1⟩ | ⟨e2, u1⟩
      · exact fun e => a4 j z q p e1 z1 (u1 ▸ hq) hp e.symm
      · exact h.tt j l z u p q hjl z1 u1 hp hq
  · rcases hm z hz with hz | rfl
    · exact h.id z hz
    · exact hid
  · rcases hm z hz with hz | rfl
    · exact h.dl z hz
    · exact hdl

/-- .. its lists are where they were, or it has none. -/
theorem BuO.same (h : BuO B w gN c hs) (hi : hs[i]? = some x) (hrow : OK enHol 9 43 B w1 (some ⟨gN, 0, none⟩) hs.length c (hs.set i y)) (k : ∀ b, b < w.heap.size → b ≠ gN → w1.heap[b]? = w.heap[b]?)
    (ht : (y.ta = x.ta ∧ y.tc = x.tc ∧ y.x.took = x.x.took) ∨ (y.ta = none ∧ y.tc = 0 ∧ y.x.took = [])) (hd : (y.da = x.da ∧ y.dc = x.dc ∧ y.x.fr = x.x.fr) ∨ (y.da = none ∧ y.dc = 0 ∧ y.x.fr = zeroFr)) : BuO B w1 gN c (hs.set i y) := by
  have hx := List.mem_of_getElem? hi
  have hty : y.ta = x.ta ∨ y.ta = none := ht.imp (·.1) (·.1)
  have hdy : y.da = x.da ∨ y.da = none := hd.imp (·.1) (·.1)
  refine h.put hi hrow k ?_ ?_ ?_ ?_ (fun z hz p q hp hq => ?_) (fun z hz p q hp hq => ?_) (fun p q hp hq => ?_) (fun j z p q hj hz hp hq => ?_) ?_ ?_
  · rcases ht with ⟨e1, e2, e3⟩ | ⟨e1, e2, e3⟩
    · rw [e1, e2, e3]; exact (h.tok x hx).kept fun q hq => k q ((h.tok x hx).ltB hq).1 (fun e => h.tn x hx _ hq (by simpa using e))
    · rw [e1, e2, e3]; exact OL.nil _ _ _ _
  · rcases hd with ⟨e1, e2, e3⟩ | ⟨e1, e2, e3⟩
    · rw [e1, e2, e3]; exact (h.dat x hx).kept fun q hq => k q ((h.dat x hx).ltB hq).1 (fun e => h.dn x hx _ hq (by simpa using e))
    · rw [e1, e2, e3]; exact OL.nil _ _ _ _
  · rcases hty with e | e
    · rw [e]; exact h.tn x hx
    · rw [e]; intro p hp; cases hp
  · rcases hdy with e | e
    · rw [e]; exact h.dn x hx
    · rw [e]; intro p hp; cases hp
  · rcases hdy with e | e
    · rw [e] at hp; exact h.dt x hx z hz p q hp hq
    · rw [e] at hp; cases hp
  · rcases hty with e | e
    · rw [e] at hq; exact h.dt z hz x hx p q hp hq
    · rw [e] at hq; cases hq
  · rcases hdy with e | e
    · rcases hty with e' | e'
      · rw [e] at hp; rw [e'] at hq; exact h.dt x hx x hx p q hp hq
      · rw [e'] at hq; cases hq
    · rw [e] at hp; cases hp
  · rcases hty with e | e
    · rw [e] at hp; exact h.tt i j x z p q (Ne.symm hj) hi hz hp hq
    · rw [e] at hp; cases hp
  · rcases hd with ⟨_, _, e⟩ | ⟨_, _, e⟩
    · rw [e]; exact h.id x hx
    · rw [e]; decide
  · rcases hd with ⟨_, _, e⟩ | ⟨_, _, e⟩
    · rw [e]; exact h.dl x hx
    · rw [e]; decide

/-- The bus in its box, when a holder is written so. -/
theorem BuM.same (h : BuM B w g gN c hs sil) (hi : hs[i]? = some x) (hrow : OK enHol 9 43 B w1 (some ⟨gN, 0, none⟩) hs.length c (hs.set i y)) (k : ∀ b, b < w.heap.size → b ≠ gN → w1.heap[b]? = w.heap[b]?)
    (ht : (y.ta = x.ta ∧ y.tc = x.tc ∧ y.x.took = x.x.took) ∨ (y.ta = none ∧ y.tc = 0 ∧ y.x.took = [])) (hd : (y.da = x.da ∧ y.dc = x.dc ∧ y.x.fr = x.x.fr) ∨ (y.da = none ∧ y.dc = 0 ∧ y.x.fr = zeroFr)) : BuM B w1 g gN c (hs.set i y) sil := by
  have hx := List.mem_of_getElem? hi
  refine ⟨by rw [k g h.size h.gn, List.length_set]; exact h.box, h.own.same hi hrow k ht hd, h.gB, h.gn, fun z hz => ?_, fun z hz => ?_⟩
  · rcases List.mem_or_eq_of_mem_set hz with hz | rfl
    · exact h.gt z hz
    · rcases ht with ⟨e, _⟩ | ⟨e, _⟩
      · rw [e]; exact h.gt x hx
      · rw [e]; intro p hp; cases hp
  · rcases List.mem_or_eq_of_mem_set hz with hz | rfl
    · exact h.gd z hz
    · rcases hd with ⟨e, _⟩ | ⟨e, _⟩
      · rw [e]; exact h.gd x hx
      · rw [e]; intro p hp; cases hp
theorem BuS.same (hi : hs[i]? = some x) {b : Nat} (hb : BuS g gN (hs.set i y) b) (ht : y.ta = x.ta ∨ y.ta = none) : BuS g gN hs b := by
  rcases hb with e | e | ⟨z, hz, p, hp, e⟩
  · exact .inl e
  · exact .inr (.inl e)
  · rcases List.mem_or_eq_of_mem_set hz with hz | rfl
    · exact .inr (.inr ⟨z, hz, p, hp, e⟩)
    · rcases ht with h | h
      · exact .inr (.inr ⟨x, List.mem_of_getElem? hi, p, by rw [← h]; exact hp, e⟩)
      · rw [h] at hp; cases hp
end
end Go.Proofs.Ytihafoeimpjdaaa

namespace Go.Proofs.Ytihafoeimpjdaaa
open Go.RowKit Go.Sort
set_option linter.unusedVariables false
set_option linter.unusedSimpArgs false

def freeH (x : Hol) : Hol := ⟨{ x.x with has := false, fr := zeroFr, took := [] }, none, 0, none, 0⟩

section
variable {B : Nat} {w w1 : World} {g gN c sil i : Nat} {hs : List Hol} {x y : Hol} {m : Ma}

theorem set_set (l : List Hol) (i : Nat) (a b : Hol) : (l.set i a).set i b = l.set i b := by simp

set_option maxRecDepth 100000 in
theorem free_any (h : BuM B w g gN c hs sil) (hi : hs[i]? = some x) :
    Calls Try.prog 33 #[.pointer (some ⟨g, 0, none⟩), .int .i64 (i : Int)] w fun e w' => e = .returned (.tuple #[]) ∧ BuM B w' g gN c (hs.set i (freeH x)) sil ∧ Ch (fun b => b = gN) w w' := by
  have q0 := h.two.1
  have hn := (List.getElem?_eq_some_iff.1 hi).1
  have i1 : (i : Int) < (hs.length : Int) := by omega
  have h0 : 0 < hs.length := by omega
  have f0 := h.own.thaw h0
  have c0 : w.cell? ⟨gN, i * 9, none⟩ = some (.bool x.x.has) := h.own.cell (j := 0) hi rfl
  obtain ⟨x1, hx1⟩ : ∃ x1 : Hol, x1 = { x with x := { x.x with has := false } } := ⟨_, rfl⟩
  obtain ⟨x2, hx2⟩ : ∃ x2 : Hol, x2 = ⟨{ x.x with has := false, fr := zeroFr }, none, 0, x.ta, x.tc⟩ := ⟨_, rfl⟩
  have o1 : OK enHol 9 43 B (w.setCell ⟨gN, i * 9, none⟩ (.bool false)) (some ⟨gN, 0, none⟩) hs.length c (hs.set i x1) := OK.setAt enHol_k h.own.row hi (j := 0) (by omega) (.bool false) x1 (by rw [hx1]; rfl)
  have hi1 : (hs.set i x1)[i]? = some x1 := List.getElem?_set_self hn
  have t1 : (w.setCell ⟨gN, i * 9, none⟩ (.bool false)).there gN (i * 9 + 1) 5 := fun j hj => by
    have := o1.there enHol_k (i := i) hn (1 + j) (by omega)
    rw [← Nat.add_assoc] at this; exact this
  have k1 : Wr gN w (w.setCell ⟨gN, i * 9, none⟩ (.bool false)) := (Wr.refl gN w).setCell (.inl rfl) _
  have H := hid h
  have HI := hid hi
  clear h hi
  go_enter Try.func33, Try.ntmps33
  go_wp2_with (with_reducible refine wpList_setM rowF rfl _ _ rfl _ _ _ rfl rfl t1 rfl (by kernel_rfl) ?_
               intro w2 hw2
               have o2 : OK enHol 9 43 B w2 (some ⟨gN, 0, none⟩) hs.length c (hs.set i x2) := by
                 rw [hw2.out]
                 have := OK.seg enHol_k o1 hi1 (o := 1) [.int .u32 0, .bool false, .bool false, .int .u8 0, .slice none 0 0] (by simp) x2 (by rw [hx2, hx1]; rfl)
                 rw [set_set] at this; exact this
               have k2 : Wr gN w w2 := by rw [hw2.out]; exact k1.trans (wr_setCells gN _ _ _)
               have hi2 : (hs.set i x2)[i]? = some x2 := List.getElem?_set_self hn
               have c6 : w2.cell? ⟨gN, i * 9 + 6, none⟩ = some (.slice x.ta x.x.took.length x.tc) := by
                 have := (o2.range enHol_k hi2) 6 _ (by rw [hx2]; rfl)
                 exact this
               have f2 : w2.frozen? ⟨gN, i * 9 + 6, none⟩ = false := by
                 have := o2.there enHol_k (i := i) hn 6 (by omega)
                 exact this.2
               clear c0 f0 t1)
  have o3 : OK enHol 9 43 B (w2.setCell ⟨gN, i * 9 + 6, none⟩ (.slice none 0 0)) (some ⟨gN, 0, none⟩) hs.length c (hs.set i (freeH x)) := by
    have := OK.setAt enHol_k o2 hi2 (j := 6) (by omega) (.slice none 0 0) (freeH x) (by rw [hx2]; rfl)
    rw [set_set] at this; exact this
  have k3 : Wr gN w (w2.setCell ⟨gN, i * 9 + 6, none⟩ (.slice none 0 0)) := k2.setCell (.inl rfl) _
  exact bodyPost_end (v := .tuple #[]) (by simp [results, Try.results33, go_sem]) rfl ⟨rfl, H.out.same HI.out o3 (fun b hb hn => k3.block b hb hn) (.inr ⟨rfl, rfl, rfl⟩) (.inr ⟨rfl, rfl, rfl⟩), ⟨k3.os, k3.tape, k3.output, k3.size, k3.block⟩⟩

theorem lb_at (hi : hs[i]? = some x) : (lbOf hs sil).ns[i]? = some x.x := by simp [lbOf, hi]
theorem lb_set (hs : List Hol) (sil i : Nat) (y : Hol) : lbOf (hs.set i y) sil = setL (lbOf hs sil) i y.x := by simp [lbOf, setL, List.map_set]
theorem lb_len (hs : List Hol) (sil : Nat) : (lbOf hs sil).ns.length = hs.length := by simp [lbOf]
section
variable {s : Lb} {e : Ev} {X : Ln}
theorem stL_give (he : e.node = (i : Int)) (hx : s.ns[i]? = some X) (hw : e.what = 1) : stL s e = if X.cr = false ∧ X.has = false ∧ e.ok = true then some (setL s i { X with has := true, fr := e.fr, took := List.replicate s.ns.length false }) else none := by
  unfold stL; rw [he, if_neg (by omega)]; simp [hx, hw]
theorem stL_drop (he : e.node = (i : Int)) (hx : s.ns[i]? = some X) (hw : e.what = 2) : stL s e = if X.cr = false ∧ X.has = true then some (setL s i { X with has := false, fr := zeroFr, took := [] }) else none := by
  unfold stL; rw [he, if_neg (by omega)]; simp [hx, hw]
theorem stL_crash (he : e.node = (i : Int)) (hx : s.ns[i]? = some X) (hw : e.what = 3) : stL s e = some (setL s i { X with cr := true }) := by
  unfold stL; rw [he, if_neg (by omega)]; simp [hx, hw]
theorem stL_takeNo (he : e.node = (i : Int)) (hx : s.ns[i]? = some X) (hw : e.what = 4) (h : X.up = false ∨ e.frm < 0 ∨ (s.ns.length : Int) ≤ e.frm ∨ e.frm = (i : Int)) : stL s e = none := by
  unfold stL; rw [he, if_neg (by omega)]; simp only [Int.toNat_natCast, hx, hw]
  simp
  intro h0
  split
  · rfl
  · rename_i y hy
    have := (List.getElem?_eq_some_iff.1 hy).1
    rw [if_neg]
    rintro ⟨h1, h2, h3⟩
    rcases h with h | h | h | h
    · rw [h] at h1; cases h1
    · omega
    · omega
    · exact h2 h
theorem stL_take {j : Nat} {Y : Ln} (he : e.node = (i : Int)) (hx : s.ns[i]? = some X) (hw : e.what = 4) (hj : e.frm = (j : Int)) (hy : s.ns[j]? = some Y) (hu : X.up = true) (hne : j ≠ i) :
    stL s e = if Y.has = true then some (setL s j { Y with took := Y.took.set i true }) else none := by
  unfold stL; rw [he, if_neg (by omega)]; simp only [Int.toNat_natCast, hx, hw, hj, hy, hu]
  have h1 : ¬ ((j : Int) < 0) := by omega
  have h2 : ¬ ((j : Int) = (i : Int)) := by omega
  simp [h1, h2]
theorem stL_sent (he : e.node = (i : Int)) (hx : s.ns[i]? = some X) (hw : e.what = 5) : stL s e = if X.up = true ∧ X.has = true then some { setL s i { X with has := false, fr := zeroFr, took := [] } with sil := s.sil + (if misL s i = [] then 0 else 1) } else none := by
  unfold stL; rw [he, if_neg (by omega)]; simp [hx, hw]
theorem stL_off (he : e.node = (i : Int)) (hx : s.ns[i]? = some X) (hw : e.what = 6) : stL s e = if X.up = true then some (setL s i { X with off := true }) else none := by
  unfold stL; rw [he, if_neg (by omega)]; simp [hx, hw]
theorem stL_on (he : e.node = (i : Int)) (hx : s.ns[i]? = some X) (hw : e.what = 7) : stL s e = if X.cr = false ∧ X.off = true then some (setL s i { X with off := false }) else none := by
  unfold stL; rw [he, if_neg (by omega)]; simp [hx, hw]
end

/-- What a method of the bus leaves. -/
def MetR (B : Nat) (w : World) (g gN c : Nat) (hs : List Hol) (sil : Nat) (m : Ev) (e : Ending) (w' : World) : Prop :=
  ∃ hs' sil', e = .returned (.bool (stL (lbOf hs sil) m).isSome) ∧ BuM B w' g gN c hs' sil' ∧ lbOf hs' sil' = (stL (lbOf hs sil) m).getD (lbOf hs sil) ∧ Ch (BuS g gN hs) w w' ∧ (∀ b, BuS g gN hs' b → BuS g gN hs b ∨ w.heap.size ≤ b)
theorem MetR.no {e : Ev} (h : BuM B w g gN c hs sil) (hn : stL (lbOf hs sil) e = none) (k : Below w.heap.size w w1) : MetR B w g gN c hs sil e (.returned (.bool false)) w1 :=
  ⟨hs, sil, by rw [hn]; rfl, h.below k, by rw [hn]; rfl, Ch.of_below k, fun b hb => .inl hb⟩
theorem MetR.yes {e : Ev} {t : Lb} {hs' : List Hol} {sil' : Nat} (hn : stL (lbOf hs sil) e = some t) (h : BuM B w1 g gN c hs' sil') (ht : lbOf hs' sil' = t) (k : Ch (BuS g gN hs) w w1) (hb : ∀ b, BuS g gN hs' b → BuS g gN hs b ∨ w.heap.size ≤ b) : MetR B w g gN c hs sil e (.returned (.bool true)) w1 :=
  ⟨hs', sil', by rw [hn]; rfl, h, by rw [hn]; exact ht, k, hb⟩

/-- An event in its box. -/
theorem boxMay (w : World) (m : Ma) : ∃ w0, Hid (w.alloc (.cells (mayV m) 36) = w0) ∧ w0.heap[w.heap.size]? = some (.cells (mayV m) 36 (0, 0)) ∧ Below w.heap.size w w0 := ⟨_, rfl, heap_alloc_new w _, bnew0 w _⟩
theorem may_cells {k : Nat} (h : w.heap[k]? = some (.cells (mayV m) 36 (0, 0))) : w.cell? ⟨k, 0, none⟩ = some (.int .u8 (m.what : Int)) ∧ w.cell? ⟨k, 1, none⟩ = some (.int .i64 m.node) ∧ w.cell? ⟨k, 2, none⟩ = some (.int .i64 m.frm) :=
  ⟨by rw [cell_of_row w k 0 _ _ _ h]; rfl, by rw [cell_of_row w k 1 _ _ _ h]; rfl, by rw [cell_of_row w k 2 _ _ _ h]; rfl⟩

set_option maxRecDepth 100000 in
theorem crash_any (h : BuM B w g gN c hs sil) (hi : hs[i]? = some x) (hm : m.node = (i : Int)) (hwh : m.what = 3) :
    Calls Try.prog 26 #[.pointer (some ⟨g, 0, none⟩), .agg (mayV m)] w (MetR B w g gN c hs sil m.ev) := by
  obtain ⟨w0, hw0, hb0, g0⟩ := boxMay w m
  have h0 := h.below g0
  have hn := (List.getElem?_eq_some_iff.1 hi).1
  have i1 : (i : Int) < (hs.length : Int) := by omega
  have c1 : w0.drew.cell? ⟨w.heap.size, 1, none⟩ = some (.int .i64 (i : Int)) := by rw [← hm]; exact (may_cells hb0).2.1
  have q0 : w0.drew.cell? ⟨g, 0, none⟩ = some (.slice (some ⟨gN, 0, none⟩) hs.length c) := h0.two.1
  have c3 : w0.drew.cell? ⟨gN, i * 9 + 7, none⟩ = some (.bool x.x.cr) := h0.own.cell (j := 7) hi rfl
  have f3 : w0.drew.frozen? ⟨gN, i * 9 + 7, none⟩ = false := h0.own.thaw (by omega) _
  have H := hid h
  have H0 := hid h0
  have HI := hid hi
  have HM := hid hm
  have HW := hid hwh
  clear h h0 hi hm hwh hb0
  go_enter Try.func26, Try.ntmps26
  go_wp2_with (first | (rw [hw0.out]))
  refine wp_region_still_tail 9 (by kernel_rfl) (by kernel_rfl) ?_
  simp only [List.take_succ_cons, List.take_zero, List.drop_succ_cons, List.drop_zero]
  repeat still_step
  refine wpStill_nil ?_
  change wpList _ _ _ _ _ w0.drew
  go_wp2
  have hrow : OK enHol 9 43 B (w0.drew.setCell ⟨gN, i * 9 + 7, none⟩ (.bool true)) (some ⟨gN, 0, none⟩) hs.length c (hs.set i { x with x := { x.x with cr := true } }) :=
    OK.setAt enHol_k (OK.drewN H0.out.own.row 1) HI.out (j := 7) (by omega) (.bool true) _ rfl
  have k3 : Wr gN w0 (w0.drew.setCell ⟨gN, i * 9 + 7, none⟩ (.bool true)) := (Wr.refl gN w0).drew.setCell (.inl rfl) _
  have hB := H0.out.same HI.out hrow (fun b hb hn => k3.block b hb hn) (.inl ⟨rfl, rfl, rfl⟩) (.inl ⟨rfl, rfl, rfl⟩)
  go_ret
  refine MetR.yes (stL_crash HM.out (lb_at HI.out) HW.out) hB (lb_set _ _ _ _) ?_ (fun b hb => .inl (BuS.same HI.out hb (.inl rfl)))
  exact (Ch.of_below g0).trans (S1 := fun b => b = gN) ⟨k3.os, k3.tape, k3.output, k3.size, k3.block⟩ (fun b hb => .inl (.inr (.inl hb)))

set_option maxRecDepth 100000 in
theorem off_any (h : BuM B w g gN c hs sil) (hi : hs[i]? = some x) (hm : m.node = (i : Int)) (hwh : m.what = 6) :
    Calls Try.prog 29 #[.pointer (some ⟨g, 0, none⟩), .agg (mayV m)] w (MetR B w g gN c hs sil m.ev) := by
  obtain ⟨w0, hw0, hb0, g0⟩ := boxMay w m
  have h0 := h.below g0
  have hn := (List.getElem?_eq_some_iff.1 hi).1
  have i1 : (i : Int) < (hs.length : Int) := by omega
  have c0 : w0.cell? ⟨w.heap.size, 1, none⟩ = some (.int .i64 (i : Int)) := by rw [← hm]; exact (may_cells hb0).2.1
  have kU := up_any h0 hi
  have H := hid h
  have H0 := hid h0
  have HI := hid hi
  have HM := hid hm
  have HW := hid hwh
  have hU := hid (stL_off (s := lbOf hs sil) (e := m.ev) hm (lb_at hi) hwh)
  cases hup : x.x.up
  · rw [hup] at kU
    have hU2 := hid hup
    clear h h0 hi hm hwh hup
    go_enter Try.func29, Try.ntmps29
    go_wp2_with (first
      | (rw [hw0.out])
      | (go_at_call 22; with_reducible refine kU.mono ?_; rintro e w1 ⟨rfl, g1⟩))
    go_ret
    exact MetR.no H.out (by rw [hU.out, hU2.out]; rfl) (bstep g0 g1)
  · rw [hup] at kU
    have hU2 := hid hup
    clear h h0 hi hm hwh hup
    go_enter Try.func29, Try.ntmps29
    go_wp2_with (first
      | (rw [hw0.out])
      | (go_at_call 22; with_reducible refine kU.mono ?_; rintro e w1 ⟨rfl, g1⟩
         have h1 := H0.out.below g1
         have c1 : w1.drew.cell? ⟨w.heap.size, 1, none⟩ = some (.int .i64 (i : Int)) := by rw [← HM.out]; exact (may_cells (bx_below hb0 g1)).2.1
         have q0 : w1.drew.cell? ⟨g, 0, none⟩ = some (.slice (some ⟨gN, 0, none⟩) hs.length c) := h1.two.1
         have c3 : w1.drew.cell? ⟨gN, i * 9 + 8, none⟩ = some (.bool x.x.off) := h1.own.cell (j := 8) HI.out rfl
         have f3 : w1.drew.frozen? ⟨gN, i * 9 + 8, none⟩ = false := h1.own.thaw (by omega) _
         have H1 := hid h1
         clear c0 h1))
    refine wp_region_still_tail 9 (by kernel_rfl) (by kernel_rfl) ?_
    simp only [List.take_succ_cons, List.take_zero, List.drop_succ_cons, List.drop_zero]
    repeat still_step
    refine wpStill_nil ?_
    change wpList _ _ _ _ _ w1.drew
    go_wp2
    have hrow : OK enHol 9 43 B (w1.drew.setCell ⟨gN, i * 9 + 8, none⟩ (.bool true)) (some ⟨gN, 0, none⟩) hs.length c (hs.set i { x with x := { x.x with off := true } }) :=
      OK.setAt enHol_k (OK.drewN H1.out.own.row 1) HI.out (j := 8) (by omega) (.bool true) _ rfl
    have k3 : Wr gN w1 (w1.drew.setCell ⟨gN, i * 9 + 8, none⟩ (.bool true)) := (Wr.refl gN w1).drew.setCell (.inl rfl) _
    have hB := H1.out.same HI.out hrow (fun b hb hn => k3.block b hb hn) (.inl ⟨rfl, rfl, rfl⟩) (.inl ⟨rfl, rfl, rfl⟩)
    go_ret
    refine MetR.yes (by rw [hU.out, hU2.out]; rfl) hB (lb_set _ _ _ _) ?_ (fun b hb => .inl (BuS.same HI.out hb (.inl rfl)))
    exact (Ch.of_below (bstep g0 g1)).trans (S1 := fun b => b = gN) ⟨k3.os, k3.tape, k3.output, k3.size, k3.block⟩ (fun b hb => .inl (.inr (.inl hb)))

set_option maxRecDepth 100000 in
theorem on_any (h : BuM B w g gN c hs sil) (hi : hs[i]? = some x) (hm : m.node = (i : Int)) (hwh : m.what = 7) :
    Calls Try.prog 30 #[.pointer (some ⟨g, 0, none⟩), .agg (mayV m)] w (MetR B w g gN c hs sil m.ev) := by
  obtain ⟨w0, hw0, hb0, g0⟩ := boxMay w m
  have h0 := h.below g0
  have hn := (List.getElem?_eq_some_iff.1 hi).1
  have i1 : (i : Int) < (hs.length : Int) := by omega
  have c0 : w0.cell? ⟨w.heap.size, 1, none⟩ = some (.int .i64 (i : Int)) := by rw [← hm]; exact (may_cells hb0).2.1
  have q0 := h0.two.1
  have c7 : w0.cell? ⟨gN, i * 9 + 7, none⟩ = some (.bool x.x.cr) := h0.own.cell (j := 7) hi rfl
  have c8 : w0.cell? ⟨gN, i * 9 + 8, none⟩ = some (.bool x.x.off) := h0.own.cell (j := 8) hi rfl
  have f8 : w0.frozen? ⟨gN, i * 9 + 8, none⟩ = false := h0.own.thaw (by omega) _
  have H := hid h
  have H0 := hid h0
  have HI := hid hi
  have HM := hid hm
  have HW := hid hwh
  have hU := hid (stL_on (s := lbOf hs sil) (e := m.ev) hm (lb_at hi) hwh)
  clear h h0 hi hm hwh
  cases hcr : x.x.cr
  · cases hof : x.x.off
    · have hU2 := hid hcr
      have hU3 := hid hof
      rw [hcr] at c7
      rw [hof] at c8
      clear hcr hof
      go_enter Try.func30, Try.ntmps30
      go_wp2_with (first
        | (rw [hw0.out]))
      go_quiet (fail)
      go_wp2
      go_ret
      exact MetR.no H.out (by rw [hU.out, hU2.out, hU3.out]; rfl) (below_drewN g0 _)
    · have hU2 := hid hcr
      have hU3 := hid hof
      rw [hcr] at c7
      rw [hof] at c8
      clear hcr hof
      go_enter Try.func30, Try.ntmps30
      go_wp2_with (first
        | (rw [hw0.out]))
      go_quiet (fail)
      rename_i nq
      have hrow : OK enHol 9 43 B ((w0.drewN nq).setCell ⟨gN, i * 9 + 8, none⟩ (.bool false)) (some ⟨gN, 0, none⟩) hs.length c (hs.set i { x with x := { x.x with off := false } }) :=
        OK.setAt enHol_k (OK.drewN H0.out.own.row nq) HI.out (j := 8) (by omega) (.bool false) _ rfl
      have k3 : Wr gN w0 ((w0.drewN nq).setCell ⟨gN, i * 9 + 8, none⟩ (.bool false)) := ((Wr.refl gN w0).call (below_drewN (Below.refl _ _) nq)).setCell (.inl rfl) _
      go_wp2
      go_ret
      have hB := H0.out.same HI.out hrow (fun b hb hn => k3.block b hb hn) (.inl ⟨rfl, rfl, rfl⟩) (.inl ⟨rfl, rfl, rfl⟩)
      refine MetR.yes (by rw [hU.out, hU2.out, hU3.out]; rfl) hB (lb_set _ _ _ _) ?_ (fun b hb => .inl (BuS.same HI.out hb (.inl rfl)))
      exact (Ch.of_below g0).trans (S1 := fun b => b = gN) ⟨k3.os, k3.tape, k3.output, k3.size, k3.block⟩ (fun b hb => .inl (.inr (.inl hb)))
  · have hU2 := hid hcr
    rw [hcr] at c7
    clear hcr
    go_enter Try.func30, Try.ntmps30
    go_wp2_with (first
      | (rw [hw0.out]))
    go_quiet (fail)
    go_wp2
    go_ret
    exact MetR.no H.out (by rw [hU.out, hU2.out]; rfl) (below_drewN g0 _)

end
end Go.Proofs.Ytihafoeimpjdaaa
