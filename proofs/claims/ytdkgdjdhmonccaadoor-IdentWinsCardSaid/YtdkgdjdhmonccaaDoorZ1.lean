/-
  Texts of this place, put together: Base, Base2, Box5, BaseK, Fv, Ty, TyB, M1, B1f, B2b, B3b, B4, B4c, B4b, B4g, M4b, M10, M15, Rw, Rst, B15, B15d, B15e. What stands here is used by the statement; conditions: none of their own.
-/
import Derived.StillTailTactics
import Derived.Deep.DeepCutAuto
import Derived.Deep.CutRange
import Derived.Deep.RegionLaw
import Derived.Deep.Light
import Derived.BigGuard
import Derived.Laws.BitsAllLaws
import Derived.Test.YtdkgdjdhmonccaaDoorRows
import Derived.WalkKit
import Derived.ProofKit
import Derived.OpenShut
import Derived.Laws.AppendOwnNone
import Derived.Laws.CopyOwn
import Derived.Deep.Grids
import Derived.Deep.DeepAppendRoom
import Derived.Deep.LoopGhost
import Derived.Deep.RegionHeld3
import Derived.Deep.RegionWith
import Derived.Deep.Cut
import Derived.BigQuiet
import Derived.RangeFuncNested
import Derived.RangeFuncBound
import Derived.RangeFuncCalls
import Derived.RangeFuncLeaves
import Derived.Shelf.Abstract
import Derived.Shelf.RegionOpen
import Derived.OwnWalkIn
import Derived.TacticsInMore
import Derived.LoopNIn
import Derived.LoopIn
import Derived.Lib.QuietBelow
import Derived.WalkSmall
import Derived.Laws.Tables
import Derived.Laws.Rows
import Derived.Laws.EntriesVeiled
import Derived.Lib.SliceRun
import Derived.Deep.MidRow
import Derived.OrdersHeld
import Derived.Deep.Quiet
namespace Go.Proofs.YtdkgdjdhmonccaaDoor
open Go.RowKit

theorem hid {p : Prop} (h : p) : Hid p := h
theorem u32_bits (a b : Nat) (ha : a < 4294967296) (hb : b < 4294967296) : bits .and .u32 a b = ((a &&& b : Nat) : Int) ∧ bits .or .u32 a b = ((a ||| b : Nat) : Int) :=
  bits_nat .u32 32 (by decide) (fun n h0 h1 => IntWalk.u32_in n (by omega)) a b ha hb
theorem ret_bool {a b : Bool} (h : a = b) : Ending.returned (.bool a) = .returned (.bool b) := by rw [h]
theorem ret_int {k : IntKind} {a b : Int} (h : a = b) : Ending.returned (.int k a) = .returned (.int k b) := by rw [h]
theorem bstep {w w' w'' : World} (h : Below w.heap.size w w') (h2 : Below w'.heap.size w' w'') : Below w.heap.size w w'' := h.trans (h2.mono h.size)
theorem bnew {w w' : World} (h : Below w.heap.size w w') (o : Obj) : Below w.heap.size w (w'.alloc o) := h.alloc h.size o
theorem bnew0 (w : World) (o : Obj) : Below w.heap.size w (w.alloc o) := (Below.refl _ _).alloc (Nat.le_refl _) o

/-- What is known of an element type and of the slices of it: one closed fact per type. -/
structure ElT (P : Program) (T E : TypeId) (z : Value) (bytes : Nat) : Prop where
  und : P.underlying T = some (.slice E)
  el : P.elem T = E
  size : P.cellsOf E = 1
  info : (P.info? E).map (fun i => (i.zero, i.size, i.bytes)) = some (some z, 1, bytes)
  zc : z.cells.size = 1

/-- '.slice a n c' reads, at w, as the list l of elements that f writes. -/
structure RL {α : Type} (f : α → Value) (w : World) (a : Option Addr) (n c : Nat) (l : List α) : Prop where
  len : l.length = n
  cap : n ≤ c
  cell : 0 < n → ∃ b off, a = some ⟨b, off, none⟩ ∧ b < w.heap.size ∧ ∀ i x, l[i]? = some x → w.cell? ⟨b, off + i, none⟩ = some (f x)

/-- '.slice a n c' is a row of the call's own, from block B on, that reads as l. -/
def OL {α : Type} (f : α → Value) (E : TypeId) (B : Nat) (w : World) (a : Option Addr) (n c : Nat) (l : List α) : Prop :=
  l.length = n ∧ n ≤ c ∧ w.ownsRow B E 1 (.slice a n c) n (l.map f)

section
variable {α : Type} {f : α → Value} {E : TypeId} {B : Nat} {w w' : World} {a : Option Addr} {n c : Nat} {l : List α}

theorem RL.at (h : RL f w a n c l) {k : Nat} (hk : k < n) :
    ∃ b off x, a = some ⟨b, off, none⟩ ∧ l[k]? = some x ∧ w.cell? ⟨b, off + k, none⟩ = some (f x) := by
  obtain ⟨b, off, ha, hb, hc⟩ := h.cell (by omega)
  have hl : k < l.length := by rw [h.len]; exact hk
  exact ⟨b, off, l[k], ha, by simp [hl], hc k _ (by simp [hl])⟩

theorem RL.nil (f : α → Value) (w : World) (a : Option Addr) (c : Nat) : RL f w a 0 c [] := ⟨rfl, Nat.zero_le _, fun h => absurd h (by omega)⟩

/-- What reads below B reads on. -/
theorem RL.below (h : RL f w a n c l) (hb : Below w.heap.size w w') : RL f w' a n c l :=
  ⟨h.len, h.cap, fun hn => by
    obtain ⟨b, off, ha, hlt, hc⟩ := h.cell hn
    exact ⟨b, off, ha, Nat.lt_of_lt_of_le hlt hb.size, fun i x hx => (hb.cell (p := ⟨b, off + i, none⟩) hlt).trans (hc i x hx)⟩⟩

theorem RL.drew (h : RL f w a n c l) : RL f w.drew a n c l := ⟨h.len, h.cap, h.cell⟩

theorem OL.drew (h : OL f E B w a n c l) : OL f E B w.drew a n c l := h

theorem OL.len (h : OL f E B w a n c l) : l.length = n := h.1
theorem OL.cap (h : OL f E B w a n c l) : n ≤ c := h.2.1
theorem OL.own (h : OL f E B w a n c l) : w.ownsRow B E 1 (.slice a n c) n (l.map f) := h.2.2

theorem OL.rl (h : OL f E B w a n c l) : RL f w a n c l := by
  refine ⟨h.len, h.cap, fun hn => ?_⟩
  have ho := h.own
  rcases ho.2 with ⟨h', h0⟩ | ⟨g, cap, cur, h', hb, hg, hnc, hcm, hcs, htake⟩
  · omega
  · simp only [Value.slice.injEq, true_and] at h'
    obtain ⟨rfl, rfl⟩ := h'
    refine ⟨g, 0, rfl, (Array.getElem?_eq_some_iff.1 hg).1, fun i x hx => ?_⟩
    have hi : i < l.length := (List.getElem?_eq_some_iff.1 hx).1
    rw [Nat.zero_add, ho.cellAt i (by rw [Nat.mul_one, ← h.len]; exact hi), List.getElem?_map, hx]
    rfl

theorem OL.mono {B' : Nat} (h : OL f E B w a n c l) (hB : B' ≤ B) : OL f E B' w a n c l := by
  refine ⟨h.len, h.cap, h.own.1, ?_⟩
  rcases h.own.2 with hn | ⟨g, cap, cur, hv, hb, rest⟩
  · exact .inl hn
  · exact .inr ⟨g, cap, cur, hv, Nat.le_trans hB hb, rest⟩

/-- What the call owns is still owned behind whatever leaves all blocks of now as they are. -/
theorem OL.below (h : OL f E B w a n c l) (hb : Below w.heap.size w w') : OL f E B w' a n c l := by
  refine ⟨h.len, h.cap, h.own.1, ?_⟩
  rcases h.own.2 with hn | ⟨g, cap, cur, hv, hB, hg, rest⟩
  · exact .inl hn
  · exact .inr ⟨g, cap, cur, hv, hB, by rw [hb.block g (Array.getElem?_eq_some_iff.1 hg).1]; exact hg, rest⟩

theorem OL.alloc (h : OL f E B w a n c l) (o : Obj) : OL f E B (w.alloc o) a n c l := ⟨h.len, h.cap, h.own.alloc o⟩

theorem OL.nil (f : α → Value) (E : TypeId) (B : Nat) (w : World) : OL f E B w none 0 0 [] := ⟨rfl, Nat.le_refl _, World.ownsRow_nil _ _ _ _⟩

/-- The address of what is owned: nil, or the head of a block. -/
theorem OL.ex (h : OL f E B w a n c l) : (a = none ∧ n = 0 ∧ c = 0 ∧ l = []) ∨ ∃ g cur, a = some ⟨g, 0, none⟩ ∧ B ≤ g ∧ w.heap[g]? = some (.cells cur E (0, 0)) ∧ cur.size = c := by
  rcases h.own.2 with ⟨h', h0⟩ | ⟨g, cap, cur, h', hb, hg, hnc, hcm, hcs, htake⟩
  · simp only [Value.slice.injEq] at h'
    obtain ⟨rfl, _, rfl⟩ := h'
    subst h0
    exact .inl ⟨rfl, rfl, rfl, List.eq_nil_of_length_eq_zero h.len⟩
  · simp only [Value.slice.injEq, true_and] at h'
    obtain ⟨rfl, rfl⟩ := h'
    exact .inr ⟨g, cur, rfl, hb, hg, by simpa using hcs⟩

theorem of_ownsRow {v : Value} {xs : List Value} (h : w.ownsRow B E 1 v n xs) (hx : xs = l.map f) : ∃ a c, v = .slice a n c ∧ OL f E B w a n c l := by
  subst hx
  have hl : l.length = n := by simpa using h.1
  rcases h.2 with ⟨rfl, h0⟩ | ⟨g, cap, cur, rfl, hb, hg, hnc, hcm, hcs, htake⟩
  · subst h0
    exact ⟨none, 0, rfl, hl, Nat.le_refl _, h⟩
  · exact ⟨some ⟨g, 0, none⟩, cap, rfl, hl, hnc, h⟩
end

section
variable {α : Type} {f : α → Value} {E T : TypeId} {z : Value} {bytes : Nat} {B : Nat} {w : World} {P : Program} {l m : List α} {n c : Nat} {a : Option Addr}

/-- 'append(v, x...)', v of the call's own, x whatever reads as a list. -/
theorem wp_app {o : Oper} {ac : Act} {K : Act → World → Prop} {Q : Exit → Act → World → Prop} (hT : ElT P T E z bytes) (s x : Operand)
    (ho : o.op = .call { callee := .builtin .append, args := #[s, x], argTypes := #[T, T] })
    {a2 : Option Addr} {n2 c2 : Nat} (hs : ac.eval s = .slice a n c) (hown : OL f E B w a n c l) (hx : ac.eval x = .slice a2 n2 c2) (hr : RL f w a2 n2 c2 m)
    (h1 : ∀ u, (f u).oneCell' = true) (h63 : n + n2 ≤ 1000000000) (hby : bytes ≤ 64) (hbase : B ≤ w.heap.size)
    (h : ∀ w' a' c', OL f E B w' a' (n + n2) c' (l ++ m) → Below B w w' → K (ac.put o.dst (.slice a' (n + n2) c')) w') : o.wp P ac w K Q := by
  obtain ⟨i, hi, hz0, hz1, hz2⟩ := info_parts hT.info
  have hbl : ∀ k, (Value.slice a n c).ownBlock = some k → B ≤ k := fun k hk => (hown.own.lt k hk).1
  by_cases h0 : n2 = 0
  · subst h0
    have hm : m = [] := List.eq_nil_of_length_eq_zero hr.len
    subst hm
    have hrun : (Builtin.append_ #[T, T] o.type #[.slice a n c, .slice a2 0 c2]).run P w = .ok (.slice a n c) w := by
      rcases hown.own.2 with ⟨h', h0⟩ | ⟨g, cap, cur, h', _, _, hnc, _⟩
      · simp only [Value.slice.injEq] at h'
        obtain ⟨rfl, rfl, rfl⟩ := h'
        cases a2 <;> simp [Builtin.append_, run_underlying hT.und, sizeOf, typeInfo, hi, Builtin.lenOf, Builtin.firstCells, loadCells, loadCellsFrom]
      · simp only [Value.slice.injEq, true_and] at h'
        obtain ⟨rfl, rfl⟩ := h'
        cases a2 <;> simp [Builtin.append_, run_underlying hT.und, sizeOf, typeInfo, hi, Builtin.lenOf, Builtin.firstCells, hnc, storeCells, loadCells, loadCellsFrom]
    unfold Oper.wp
    simp [execOp, ho, resolve, invoke, builtin, hs, hx, hrun, Result.andThen]
    show K _ _
    simpa using h w a c (by simpa using hown) (Below.refl _ _)
  · obtain ⟨b, off, rfl, hb, hc⟩ := hr.cell (by omega)
    refine wp_append_own _ s x T ho B E i z 1 bytes hT.und hi hz0 hz1 hz2 hT.zc (by decide) (.slice a n c) n (l.map f) hs hown.own ⟨b, off, none⟩ n2 c2 (m.map f) hx (by simp [hr.len]) ?_ ?_ (by unfold maxLen; omega) ?_ hbase ?_
    · intro j u hu
      rw [List.getElem?_map] at hu
      cases hj : m[j]? with
      | none => rw [hj] at hu; cases hu
      | some y =>
        rw [hj] at hu
        simp only [Option.map_some, Option.some.injEq] at hu
        subst hu
        rw [Addr.add_lit]
        exact hc j y hj
    · intro u hu
      obtain ⟨y, _, rfl⟩ := List.mem_map.1 hu
      exact h1 y
    · have := Nat.mul_le_mul h63 hby
      omega
    · intro v' w' hown' hg _
      obtain ⟨a', c', rfl, hol⟩ := of_ownsRow (f := f) (l := l ++ m) hown' (by simp)
      exact h w' a' c' hol ((Below.refl B w).grown hg hbase hbl)

theorem wpList_app {ops : Array Oper} {rest : List Oper} {o : Oper} {ac : Act} {Q : Exit → Act → World → Prop} (hT : ElT P T E z bytes) (hgd : o.guard = none) (s x : Operand)
    (ho : o.op = .call { callee := .builtin .append, args := #[s, x], argTypes := #[T, T] })
    {a2 : Option Addr} {n2 c2 : Nat} (hs : ac.eval s = .slice a n c) (hown : OL f E B w a n c l) (hx : ac.eval x = .slice a2 n2 c2) (hr : RL f w a2 n2 c2 m)
    (h1 : ∀ u, (f u).oneCell' = true) (h63 : n + n2 ≤ 1000000000) (hby : bytes ≤ 64) (hbase : B ≤ w.heap.size)
    (h : ∀ w' a' c', OL f E B w' a' (n + n2) c' (l ++ m) → Below B w w' → wpList P ops Q rest (ac.put o.dst (.slice a' (n + n2) c')) w') : wpList P ops Q (o :: rest) ac w :=
  wpList_plain hgd fun _ hK => wp_app hT s x ho hs hown hx hr h1 h63 hby hbase fun w' a' c' h2 h3 => hK _ _ (h w' a' c' h2 h3)

/-- 'make([]T, n)': n zero elements, all of the call's own. -/
theorem wpList_mk {ops : Array Oper} {rest : List Oper} {o : Oper} {ac : Act} {Q : Exit → Act → World → Prop} (hT : ElT P T E z bytes) (z0 : α) (hz : z.cells = #[f z0])
    (hgd : o.guard = none) (lo co : Operand) (ho : o.op = Op.makeSlice T lo co) (L C : Int) (kl kc : IntKind) (hl : ac.eval lo = .int kl L) (hc : ac.eval co = .int kc C) (hL : L = (n : Int)) (hC : C = (n : Int))
    (h63 : n ≤ 1000000000) (hby : bytes ≤ 64)
    (h : ∀ w', OL f E w.heap.size w' (some ⟨w.heap.size, 0, none⟩) n n (List.replicate n z0) → Below w.heap.size w w' → w'.heap.size = w.heap.size + 1 → wpList P ops Q rest (ac.put o.dst (.slice (some ⟨w.heap.size, 0, none⟩) n n)) w') :
    wpList P ops Q (o :: rest) ac w := by
  obtain ⟨i, hi, hz0, hz1, hz2⟩ := info_parts hT.info
  subst hL
  subst hC
  refine wpList_plain hgd fun K hK' => ?_
  have hb2 : ((i.bytes * n : Nat) : Int) ≤ 281474976710656 := by
    have := Nat.mul_le_mul hby h63
    rw [hz2]; omega
  have hr := run_make (P := P) w T E i z hT.und hi hz0 kl kc n n (by omega) (Int.le_refl _) (by rw [Int.natCast_mul] at hb2; exact hb2) (by omega)
  unfold Oper.wp
  simp [execOp, ho, hl, hc, hr, Result.andThen]
  have hcz : (madeCells z.cells (n * i.size)).toList = (List.replicate n z0).map f := by rw [hz, toList_madeCells_one]; simp [hz1]
  have ho := World.ownsRow_lit (base := w.heap.size) (e := E) (size := 1) w (madeCells z.cells (n * i.size)) n (Nat.le_refl _) (by unfold maxLen; omega) (by rw [size_madeCells, hz1])
  have hk := h (w.alloc (.cells (madeCells z.cells (n * i.size)) E)) ⟨by simp, Nat.le_refl _, by rw [← hcz]; exact ho⟩ ((Below.refl _ _).alloc (Nat.le_refl _) _) (by simp)
  exact hK' _ _ hk

/-- A cut of what reads as a list reads as the part. -/
theorem RL.sliced (hr : RL f w a n c l) (lo hi s : Nat) (hs : s = 1) (h1 : lo ≤ hi) (h2 : hi ≤ n) :
    ∃ a', Go.sliced a lo hi c s = .slice a' (hi - lo) (c - lo) ∧ RL f w a' (hi - lo) (c - lo) ((l.take hi).drop lo) := by
  subst hs
  refine ⟨_, rfl, by simp [hr.len]; omega, by have := hr.cap; omega, fun hp => ?_⟩
  obtain ⟨b, off, rfl, hb, hc⟩ := hr.cell (by omega)
  have hne : ¬ c = lo := by have := hr.cap; omega
  rw [if_neg hne]
  refine ⟨b, off + lo, by simp [Addr.add_lit], hb, fun i x hx => ?_⟩
  rw [List.getElem?_drop, List.getElem?_take] at hx
  split at hx
  · rw [Nat.add_assoc]; exact hc _ _ hx
  · cases hx

theorem run_sizeOf_el (hT : ElT P T E z bytes) (w : World) : (sizeOf (P.elem T)).run P w = .ok 1 w := by
  obtain ⟨i, hi, hz0, hz1, hz2⟩ := info_parts hT.info
  rw [hT.el]
  simp [sizeOf, typeInfo, hi, hz1]

/-- The runs of 'v[:hi]' and 'v[lo:]', as equations: for a region that draws its order. -/
theorem run_cutTo (hT : ElT P T E z bytes) (hr : RL f w a n c l) (kh : IntKind) (h0 : Nat) (h2 : h0 ≤ n) :
    ∃ a', (∀ w', (Instr.sliceAt T (.slice a n c) none (some (.int kh (h0 : Int))) none).run P w' = .ok (.slice a' h0 c) w') ∧ (∀ w', (Instr.slice T (.slice a n c) none (some (.int kh (h0 : Int))) none).run P w' = .ok (.slice a' h0 c) w') ∧ RL f w a' h0 c (l.take h0) := by
  obtain ⟨a', he, hr'⟩ := hr.sliced 0 h0 1 rfl (Nat.zero_le _) h2
  have hu : P.underlying T = some (.slice (P.elem T)) := by rw [hT.und, hT.el]
  have key : ∀ w', (Instr.slice T (.slice a n c) none (some (.int kh (h0 : Int))) none).run P w' = .ok (.slice a' h0 c) w' := fun w' => by
    have hrun := run_slice_h (P := P) w' T a n c hu kh h0 (by omega) (by have := hr.cap; omega)
    simp only [Int.toNat_natCast, run_sizeOf_el hT, Result.andThen] at hrun
    rw [hrun, he]; simp
  exact ⟨a', fun w' => by rw [run_sliceAt_slice w' T _ _ _ _ hu]; exact key w', key, by simpa using hr'⟩

theorem cur_of {cur : Array Value} {E : TypeId} {g : Nat} {c : Nat} (h : OL f E B w (some ⟨g, 0, none⟩) c c l) (hg : w.heap[g]? = some (.cells cur E (0, 0))) (hs : cur.size = c) : cur.toList = l.map f := by
  rcases h.own.2 with ⟨h', _⟩ | ⟨g', cap', cur', h', _, hg', _, _, hcs, htake⟩
  · simp at h'
  · simp only [Value.slice.injEq, Option.some.injEq, Addr.mk.injEq, and_true, true_and] at h'
    obtain ⟨rfl, rfl⟩ := h'
    rw [hg] at hg'
    simp only [Option.some.injEq, Obj.cells.injEq, and_true] at hg'
    subst hg'
    rw [← htake, List.take_of_length_le (by simp [hs])]

end

theorem ol_of_cells {α : Type} {f : α → Value} {E : TypeId} {B : Nat} {w : World} {g n : Nat} {cur : Array Value} {l : List α} (hh : w.heap[g]? = some (.cells cur E (0, 0))) (hB : B ≤ g) (hs : cur.size = n) (hm : n ≤ 1000000000) (hl : l.length = n)
    (hc : ∀ (j : Nat) (x : α), l[j]? = some x → cur[j]? = some (f x)) : OL f E B w (some ⟨g, 0, none⟩) n n l := by
  refine ⟨hl, Nat.le_refl _, by simp [hl], .inr ⟨g, n, cur, rfl, hB, hh, Nat.le_refl _, by unfold maxLen; omega, by simpa using hs, ?_⟩⟩
  rw [List.take_of_length_le (by simp [hs])]
  apply List.ext_getElem?
  intro j
  rw [Array.getElem?_toList, List.getElem?_map]
  by_cases hj : j < n
  · obtain ⟨x, hx⟩ : ∃ x, l[j]? = some x := ⟨l[j]'(by omega), by simp [hl, hj]⟩
    rw [hc j _ hx, hx]; rfl
  · rw [List.getElem?_eq_none (show l.length ≤ j by omega), Array.getElem?_eq_none (by omega)]; rfl

theorem ol_lit {α : Type} (f : α → Value) (E : TypeId) (B : Nat) (w : World) (l : List α) (cs : Array Value) (n : Nat) (hcs : cs = (l.map f).toArray) (hn : l.length = n) (hm : n ≤ 1000000000) (hB : B ≤ w.heap.size) :
    OL f E B (w.alloc (.cells cs E)) (some ⟨w.heap.size, 0, none⟩) n n l := by
  subst hcs
  exact ol_of_cells (heap_alloc_new w _) hB (by simp [hn]) hm hn (fun j x hx => by simp [hx])

/-- What is owned, in the block's own words. -/
theorem OL.full {α : Type} {f : α → Value} {E : TypeId} {B : Nat} {w : World} {g n : Nat} {l : List α} (h : OL f E B w (some ⟨g, 0, none⟩) n n l) :
    ∃ cur, B ≤ g ∧ w.heap[g]? = some (.cells cur E (0, 0)) ∧ cur.size = n ∧ n ≤ maxLen ∧ cur.toList = l.map f := by
  rcases h.ex with ⟨h0, _⟩ | ⟨g', cur, hg, hBg, hh, hcs⟩
  · cases h0
  simp only [Option.some.injEq, Addr.mk.injEq, and_true] at hg
  subst hg
  refine ⟨cur, hBg, hh, hcs, ?_, cur_of h hh hcs⟩
  rcases h.own.2 with ⟨h', _⟩ | ⟨_, _, _, h', _, _, _, hm, _⟩
  · simp at h'
  · simp only [Value.slice.injEq, true_and] at h'
    obtain ⟨_, rfl⟩ := h'
    exact hm

/-- A byte as a cell. -/
def bv (x : UInt8) : Value := .int .u8 (x.toNat : Int)

end Go.Proofs.YtdkgdjdhmonccaaDoor

namespace Go.Proofs.YtdkgdjdhmonccaaDoor
open Go.RowKit

/-- The slice at this address does not lie in block k. -/
def NB (a : Option Addr) (k : Nat) : Prop := ∀ q, a = some q → q.block ≠ k

theorem NB.nil (k : Nat) : NB none k := fun q h => by cases h
theorem NB.at {g k : Nat} (h : g ≠ k) : NB (some ⟨g, 0, none⟩) k := fun q hq => by cases hq; exact h
theorem NB.block {g k o : Nat} (h : NB (some ⟨g, o, none⟩) k) : g ≠ k := h _ rfl

/-- A box of two cells: what each holds, and that neither is frozen. -/
theorem bx {w : World} {g : Nat} {E : TypeId} {v0 v1 : Value} (h : w.heap[g]? = some (.cells #[v0, v1] E (0, 0))) :
    w.cell? ⟨g, 0, none⟩ = some v0 ∧ w.cell? ⟨g, 1, none⟩ = some v1 ∧ w.frozen? ⟨g, 0, none⟩ = false ∧ w.frozen? ⟨g, 1, none⟩ = false :=
  ⟨by rw [cell_of_row w g 0 _ _ _ h]; rfl, by rw [cell_of_row w g 1 _ _ _ h]; rfl, frozen_of_row w g 0 _ _ h, frozen_of_row w g 1 _ _ h⟩

theorem heap_size_alloc (w : World) (o : Obj) : (w.alloc o).heap.size = w.heap.size + 1 := by simp

theorem bx_lt {w : World} {g : Nat} {o : Obj} (h : w.heap[g]? = some o) : g < w.heap.size := (Array.getElem?_eq_some_iff.1 h).1

theorem bx_below {w w' : World} {g : Nat} {o : Obj} (h : w.heap[g]? = some o) (hb : Below w.heap.size w w') : w'.heap[g]? = some o := by
  rw [hb.block g (bx_lt h)]; exact h

theorem bx_alloc {w : World} {g : Nat} {o : Obj} (p : Obj) (h : w.heap[g]? = some o) : (w.alloc p).heap[g]? = some o := by
  rw [Below.heap_alloc w p g (bx_lt h)]; exact h

/-- Two boxes that were laid one behind the other, behind a call. -/
theorem two_bx {w w1 : World} {E F : TypeId} {u v : Array Value} (g1 : Below ((w.alloc (.cells u E)).alloc (.cells v F)).heap.size ((w.alloc (.cells u E)).alloc (.cells v F)) w1) :
    w1.heap[w.heap.size]? = some (.cells u E (0, 0)) ∧ w1.heap[w.heap.size + 1]? = some (.cells v F (0, 0)) ∧ Below w.heap.size w w1 := by
  refine ⟨bx_below (bx_alloc _ (heap_alloc_new _ _)) g1, ?_, (bnew (bnew0 w _) _).trans (g1.mono (by simp; omega))⟩
  have := bx_below (heap_alloc_new (w.alloc (.cells u E)) (.cells v F)) g1
  simpa using this

theorem set_other {w : World} {g k : Nat} (u0 u1 : Value) (h : k ≠ g) : ((w.setCell ⟨g, 0, none⟩ u0).setCell ⟨g, 1, none⟩ u1).heap[k]? = w.heap[k]? := by
  rw [heap_setCell_other _ _ _ _ h, heap_setCell_other _ _ _ _ h]

section
variable {α : Type} {f : α → Value} {E T : TypeId} {z : Value} {bytes : Nat} {B : Nat} {w w' : World} {P : Program} {l m : List α} {n c : Nat} {a : Option Addr}

/-- A row lies in one block. -/
theorem OL.kept (h : OL f E B w a n c l) (hk : ∀ g, a = some ⟨g, 0, none⟩ → w'.heap[g]? = w.heap[g]?) : OL f E B w' a n c l := by
  refine ⟨h.len, h.cap, h.own.1, ?_⟩
  rcases h.own.2 with hn | ⟨g, cap, cur, hv, hB, hg, rest⟩
  · exact .inl hn
  · refine .inr ⟨g, cap, cur, hv, hB, ?_, rest⟩
    simp only [Value.slice.injEq] at hv
    rw [hk g hv.1]; exact hg

theorem OL.drewN (h : OL f E B w a n c l) (q : Nat) : OL f E B (w.drewN q) a n c l := h.kept fun g _ => by simp

/-- A store into another block leaves a row. -/
theorem OL.box (h : OL f E B w a n c l) {g : Nat} (hn : NB a g) (u0 u1 : Value) : OL f E B ((w.setCell ⟨g, 0, none⟩ u0).setCell ⟨g, 1, none⟩ u1) a n c l :=
  h.kept fun k hk => set_other u0 u1 (by subst hk; exact hn.block)

theorem OL.ltB (h : OL f E B w a n c l) {q : Addr} (hq : a = some q) : q.block < w.heap.size ∧ B ≤ q.block := by
  rcases h.ex with ⟨h0, _⟩ | ⟨g, cur, hg, hBg, hh, _⟩
  · rw [h0] at hq; cases hq
  · rw [hg] at hq; cases hq; exact ⟨bx_lt hh, hBg⟩

/-- One element of a row that the call owns, stored anew. -/
theorem OL.set {g i : Nat} (h : OL f E B w (some ⟨g, 0, none⟩) n c l) (x : α) : OL f E B (w.setCell ⟨g, i, none⟩ (f x)) (some ⟨g, 0, none⟩) n c (l.set i x) := by
  refine ⟨by rw [List.length_set]; exact h.len, h.cap, by rw [List.length_map, List.length_set, Nat.mul_one]; exact h.len, ?_⟩
  rcases h.own.2 with ⟨h', _⟩ | ⟨g', cap', cur', h', hB, hg', hnc, hcm, hcs, htake⟩
  · simp at h'
  · simp only [Value.slice.injEq, Option.some.injEq, Addr.mk.injEq, and_true, true_and] at h'
    obtain ⟨rfl, rfl⟩ := h'
    refine .inr ⟨g, c, cur'.setIfInBounds i (f x), rfl, hB, heap_setCell_same w g i cur' _ (f x) hg', hnc, hcm, by simpa using hcs, ?_⟩
    rw [Array.toList_setIfInBounds, List.take_set, htake, List.map_set]

theorem OL.cellAt {g i : Nat} {x : α} (h : OL f E B w (some ⟨g, 0, none⟩) n c l) (hx : l[i]? = some x) : w.cell? ⟨g, i, none⟩ = some (f x) ∧ w.frozen? ⟨g, i, none⟩ = false := by
  have hi : i < n := by rw [← h.len]; exact (List.getElem?_eq_some_iff.1 hx).1
  obtain ⟨b, off, e, _, hc⟩ := h.rl.cell (by omega)
  cases e
  refine ⟨by have := hc i x hx; rwa [Nat.zero_add] at this, ?_⟩
  rcases h.ex with ⟨h0, _⟩ | ⟨g', cur, hg, hBg, hh, hcs⟩
  · cases h0
  simp only [Option.some.injEq, Addr.mk.injEq, and_true] at hg
  subst hg
  exact frozen_of_row w _ i cur _ hh

end
end Go.Proofs.YtdkgdjdhmonccaaDoor

namespace Go.Proofs.YtdkgdjdhmonccaaDoor
open Go.RowKit
set_option linter.unusedVariables false

/-- A box of five cells. -/
theorem bx5 {w : World} {g : Nat} {E : TypeId} {v0 v1 v2 v3 v4 : Value} (h : w.heap[g]? = some (.cells #[v0, v1, v2, v3, v4] E (0, 0))) :
    w.cell? ⟨g, 0, none⟩ = some v0 ∧ w.cell? ⟨g, 1, none⟩ = some v1 ∧ w.cell? ⟨g, 2, none⟩ = some v2 ∧ w.cell? ⟨g, 3, none⟩ = some v3 ∧ w.cell? ⟨g, 4, none⟩ = some v4 :=
  ⟨by rw [cell_of_row w g 0 _ _ _ h]; rfl, by rw [cell_of_row w g 1 _ _ _ h]; rfl, by rw [cell_of_row w g 2 _ _ _ h]; rfl, by rw [cell_of_row w g 3 _ _ _ h]; rfl, by rw [cell_of_row w g 4 _ _ _ h]; rfl⟩

theorem bx_thaw {w : World} {g : Nat} {E : TypeId} {vs : Array Value} (h : w.heap[g]? = some (.cells vs E (0, 0))) (i : Nat) : w.frozen? ⟨g, i, none⟩ = false := frozen_of_row w g i _ _ h

end Go.Proofs.YtdkgdjdhmonccaaDoor

namespace Go.Proofs.YtdkgdjdhmonccaaDoor
open Go.RowKit

/-- How an element stands in memory: k cells. -/
structure EnK {α : Type} (enc : α → List Value) (k : Nat) : Prop where
  len : ∀ x, (enc x).length = k
  one : ∀ x, ∀ v ∈ enc x, v.oneCell' = true

section
variable {α : Type} {enc : α → List Value} {k : Nat}

theorem flat_len (hk : EnK enc k) (l : List α) : (l.flatMap enc).length = l.length * k := by
  induction l with
  | nil => simp
  | cons x l ih => rw [List.flatMap_cons, List.length_append, hk.len, ih, List.length_cons, Nat.add_mul]; omega

end

/-- '.slice a n c' reads, at w, as the list l of elements of k cells. -/
structure RK {α : Type} (enc : α → List Value) (k : Nat) (w : World) (a : Option Addr) (n c : Nat) (l : List α) : Prop where
  len : l.length = n
  cap : n ≤ c
  cell : 0 < n → ∃ b off, a = some ⟨b, off, none⟩ ∧ b < w.heap.size ∧ ∀ i x j v, l[i]? = some x → (enc x)[j]? = some v → w.cell? ⟨b, off + (i * k + j), none⟩ = some v

/-- '.slice a n c' is a row of the call's own, from block B on, that reads as l. -/
def OK {α : Type} (enc : α → List Value) (k : Nat) (E : TypeId) (B : Nat) (w : World) (a : Option Addr) (n c : Nat) (l : List α) : Prop :=
  l.length = n ∧ n ≤ c ∧ w.ownsRow B E k (.slice a n c) n (l.flatMap enc)

section
variable {α : Type} {enc : α → List Value} {k : Nat} {E : TypeId} {B : Nat} {w w' : World} {a : Option Addr} {n c : Nat} {l m : List α}

theorem RK.nil (enc : α → List Value) (k : Nat) (w : World) (a : Option Addr) (c : Nat) : RK enc k w a 0 c [] := ⟨rfl, Nat.zero_le _, fun h => absurd h (by omega)⟩

theorem RK.below (h : RK enc k w a n c l) (hb : Below w.heap.size w w') : RK enc k w' a n c l :=
  ⟨h.len, h.cap, fun hn => by
    obtain ⟨b, off, ha, hlt, hc⟩ := h.cell hn
    exact ⟨b, off, ha, Nat.lt_of_lt_of_le hlt hb.size, fun i x j v hx hv => (hb.cell (p := ⟨b, _, none⟩) hlt).trans (hc i x j v hx hv)⟩⟩

theorem RK.drew (h : RK enc k w a n c l) : RK enc k w.drew a n c l := ⟨h.len, h.cap, h.cell⟩

theorem OK.len (h : OK enc k E B w a n c l) : l.length = n := h.1
theorem OK.cap (h : OK enc k E B w a n c l) : n ≤ c := h.2.1
theorem OK.own (h : OK enc k E B w a n c l) : w.ownsRow B E k (.slice a n c) n (l.flatMap enc) := h.2.2

theorem OK.mono {B' : Nat} (h : OK enc k E B w a n c l) (hB : B' ≤ B) : OK enc k E B' w a n c l := by
  refine ⟨h.len, h.cap, h.own.1, ?_⟩
  rcases h.own.2 with hn | ⟨g, cap, cur, hv, hb, rest⟩
  · exact .inl hn
  · exact .inr ⟨g, cap, cur, hv, Nat.le_trans hB hb, rest⟩

theorem OK.below (h : OK enc k E B w a n c l) (hb : Below w.heap.size w w') : OK enc k E B w' a n c l := by
  refine ⟨h.len, h.cap, h.own.1, ?_⟩
  rcases h.own.2 with hn | ⟨g, cap, cur, hv, hB, hg, rest⟩
  · exact .inl hn
  · exact .inr ⟨g, cap, cur, hv, hB, by rw [hb.block g (Array.getElem?_eq_some_iff.1 hg).1]; exact hg, rest⟩

theorem OK.alloc (h : OK enc k E B w a n c l) (o : Obj) : OK enc k E B (w.alloc o) a n c l := ⟨h.len, h.cap, h.own.alloc o⟩

theorem OK.nil (enc : α → List Value) (k : Nat) (E : TypeId) (B : Nat) (w : World) : OK enc k E B w none 0 0 [] := ⟨rfl, Nat.le_refl _, World.ownsRow_nil _ _ _ _⟩

/-- The address of what is owned: nil, or the head of a block. -/
theorem OK.ex (h : OK enc k E B w a n c l) : (a = none ∧ n = 0 ∧ c = 0 ∧ l = []) ∨ ∃ g cur, a = some ⟨g, 0, none⟩ ∧ B ≤ g ∧ w.heap[g]? = some (.cells cur E (0, 0)) ∧ cur.size = c * k ∧ cur.toList.take (n * k) = l.flatMap enc ∧ c ≤ maxLen := by
  rcases h.own.2 with ⟨h', h0⟩ | ⟨g, cap, cur, h', hb, hg, hnc, hcm, hcs, htake⟩
  · simp only [Value.slice.injEq] at h'
    obtain ⟨rfl, _, rfl⟩ := h'
    subst h0
    exact .inl ⟨rfl, rfl, rfl, List.eq_nil_of_length_eq_zero h.len⟩
  · simp only [Value.slice.injEq, true_and] at h'
    obtain ⟨rfl, rfl⟩ := h'
    exact .inr ⟨g, cur, rfl, hb, hg, hcs, htake, hcm⟩

theorem OK.kept (h : OK enc k E B w a n c l) (hk : ∀ g, a = some ⟨g, 0, none⟩ → w'.heap[g]? = w.heap[g]?) : OK enc k E B w' a n c l := by
  refine ⟨h.len, h.cap, h.own.1, ?_⟩
  rcases h.own.2 with hn | ⟨g, cap, cur, hv, hB, hg, rest⟩
  · exact .inl hn
  · refine .inr ⟨g, cap, cur, hv, hB, ?_, rest⟩
    simp only [Value.slice.injEq] at hv
    rw [hk g hv.1]; exact hg

theorem OK.drewN (h : OK enc k E B w a n c l) (q : Nat) : OK enc k E B (w.drewN q) a n c l := h.kept fun g _ => by simp

theorem OK.ltB (h : OK enc k E B w a n c l) {q : Addr} (hq : a = some q) : q.block < w.heap.size ∧ B ≤ q.block := by
  rcases h.ex with ⟨h0, _⟩ | ⟨g, cur, hg, hBg, hh, _⟩
  · rw [h0] at hq; cases hq
  · rw [hg] at hq; cases hq; exact ⟨(Array.getElem?_eq_some_iff.1 hh).1, hBg⟩

variable {T : TypeId} {z : Value} {bytes : Nat} {P : Program}

/-- A cut of what reads as a list reads as the part. -/
theorem RK.sliced (hr : RK enc k w a n c l) (lo hi s : Nat) (hs : s = k) (h1 : lo ≤ hi) (h2 : hi ≤ n) :
    ∃ a', Go.sliced a lo hi c s = .slice a' (hi - lo) (c - lo) ∧ RK enc k w a' (hi - lo) (c - lo) ((l.take hi).drop lo) := by
  subst hs
  refine ⟨_, rfl, by simp [hr.len]; omega, by have := hr.cap; omega, fun hp => ?_⟩
  obtain ⟨b, off, rfl, hb, hc⟩ := hr.cell (by omega)
  have hne : ¬ c = lo := by have := hr.cap; omega
  rw [if_neg hne]
  refine ⟨b, off + lo * s, by simp [Addr.add_lit], hb, fun i x j v hx hv => ?_⟩
  rw [List.getElem?_drop, List.getElem?_take] at hx
  split at hx
  · have e : off + lo * s + (i * s + j) = off + ((lo + i) * s + j) := by rw [Nat.add_mul]; omega
    rw [e]; exact hc _ _ _ _ hx hv
  · cases hx

end
end Go.Proofs.YtdkgdjdhmonccaaDoor

namespace Go.Proofs.YtdkgdjdhmonccaaDoor
open Go.RowKit
set_option linter.unusedVariables false

/-- A frame. -/
structure Fr where
  id : Nat
  ext : Bool
  rem : Bool
  dlc : Nat
  data : List UInt8
  deriving DecidableEq

/-- The cells of a frame. -/
abbrev frV (F : Fr) (a : Option Addr) (k : Nat) : Array Value := #[.int .u32 (F.id : Int), .bool F.ext, .bool F.rem, .int .u8 (F.dlc : Int), .slice a F.data.length k]
/-- A frame as it lies in a list. -/
abbrev Ff := Fr × (Option Addr × Nat)
theorem fr_ones (F : Fr) (a : Option Addr) (k : Nat) : (frV F a k).all (·.oneCell') = true := by kernel_rfl
def enF (p : Ff) : List Value := (frV p.1 p.2.1 p.2.2).toList
end Go.Proofs.YtdkgdjdhmonccaaDoor

namespace Go.Proofs.YtdkgdjdhmonccaaDoor
open Go.RowKit

theorem tY : ElT Tryd.prog 26 5 (.int .u8 0) 1 := ⟨by kernel_rfl, by kernel_rfl, by kernel_rfl, by kernel_rfl, by kernel_rfl⟩
end Go.Proofs.YtdkgdjdhmonccaaDoor

namespace Go.Proofs.YtdkgdjdhmonccaaDoor
open Go.RowKit

theorem tB : ElT Tryd.prog 55 4 (.bool false) 1 := ⟨by kernel_rfl, by kernel_rfl, by kernel_rfl, by kernel_rfl, by kernel_rfl⟩
end Go.Proofs.YtdkgdjdhmonccaaDoor

namespace Go.Proofs.YtdkgdjdhmonccaaDoor

/-- The lowest m bits of n, the highest one first. -/
def ofL (n : Nat) : Nat → List Bool
  | 0 => []
  | m + 1 => n.testBit m :: ofL n m

/-- The number whose bits these are. -/
def numL (l : List Bool) : Nat := l.foldl (fun n b => 2 * n + b.toNat) 0

@[simp] theorem ofL_length (n m : Nat) : (ofL n m).length = m := by
  induction m with
  | zero => rfl
  | succ m ih => simp [ofL, ih]

theorem ofL_get (n : Nat) : ∀ m i, i < m → (ofL n m)[i]? = some (n.testBit (m - 1 - i)) := by
  intro m
  induction m with
  | zero => intro i h; omega
  | succ m ih =>
    intro i h
    cases i with
    | zero => simp [ofL]
    | succ i =>
      simp only [ofL, List.getElem?_cons_succ]
      rw [ih i (by omega)]
      congr 2
      omega

theorem numL_foldl (l : List Bool) : ∀ n, l.foldl (fun n b => 2 * n + b.toNat) n = n * 2 ^ l.length + numL l := by
  induction l with
  | nil => intro n; simp [numL]
  | cons b l ih =>
    intro n
    simp only [List.foldl_cons, List.length_cons, numL]
    rw [ih, ih (2 * 0 + b.toNat), Nat.pow_succ]
    simp only [Nat.mul_zero, Nat.zero_add, Nat.add_mul]
    rw [← Nat.add_assoc, Nat.mul_assoc, Nat.mul_comm 2, Nat.mul_assoc, Nat.mul_comm n]

theorem numL_cons (b : Bool) (l : List Bool) : numL (b :: l) = b.toNat * 2 ^ l.length + numL l := by
  have := numL_foldl l (2 * 0 + b.toNat)
  simpa [numL] using this

theorem numL_append (l m : List Bool) : numL (l ++ m) = numL l * 2 ^ m.length + numL m := by
  have := numL_foldl m (numL l)
  simpa [numL, List.foldl_append] using this

theorem numL_lt (l : List Bool) : numL l < 2 ^ l.length := by
  induction l with
  | nil => simp [numL]
  | cons b l ih =>
    rw [numL_cons, List.length_cons, Nat.pow_succ]
    cases b <;> simp <;> omega

theorem testBit_split (n m : Nat) : n % 2 ^ (m + 1) = (n.testBit m).toNat * 2 ^ m + n % 2 ^ m := by
  rw [Nat.testBit_eq_decide_div_mod_eq, Nat.pow_succ, Nat.mod_mul]
  rcases Nat.mod_two_eq_zero_or_one (n / 2 ^ m) with h | h <;> simp [h] <;> omega

theorem numL_ofL (n m : Nat) : numL (ofL n m) = n % 2 ^ m := by
  induction m with
  | zero => simp [ofL, numL]; omega
  | succ m ih => rw [ofL, numL_cons, ih, ofL_length, testBit_split]

end Go.Proofs.YtdkgdjdhmonccaaDoor

namespace Go.Proofs.YtdkgdjdhmonccaaDoor
open Go.RowKit
set_option linter.unusedVariables false

theorem fill_any (w : World) (g off n c x : Nat) (a : Option Addr) (cur : Array Value) (hx : x < 4294967296) (ha : 0 < n → a = some ⟨g, off, none⟩) (hg : w.heap[g]? = some (.cells cur 4 (0, 0))) (hfit : off + n ≤ cur.size) (hn : n ≤ 1000000) :
    Calls Tryd.prog 34 #[.slice a n c, .int .u32 (x : Int)] w fun e w' => e = .returned (.tuple #[]) ∧ (∃ cur', w'.heap[g]? = some (.cells cur' 4 (0, 0)) ∧ cur'.size = cur.size ∧
      (∀ j, off ≤ j → j < off + n → cur'[j]? = some (.bool (x.testBit (n - 1 - (j - off))))) ∧ ∀ j, (j < off ∨ off + n ≤ j) → cur'[j]? = cur[j]?) ∧ w.grownBy w' (some g) := by
  go_enter Tryd.func34, Tryd.ntmps34
  go_wp2
  go_loopw [11] (fun i wr => ∃ k : Nat, k ≤ n ∧ i = .int .i64 k ∧ (∃ cur', wr.heap[g]? = some (.cells cur' 4 (0, 0)) ∧ cur'.size = cur.size ∧
      (∀ j, off ≤ j → j < off + k → cur'[j]? = some (.bool (x.testBit (n - 1 - (j - off))))) ∧ ∀ j, (j < off ∨ off + k ≤ j) → cur'[j]? = cur[j]?) ∧ w.grownBy wr (some g)) (fun i _ => n - (intOf i).toNat)
  case atStart => exact ⟨0, Nat.zero_le _, rfl, ⟨cur, hg, rfl, fun j h1 h2 => by omega, fun j _ => rfl⟩, World.grownBy.refl _ _⟩
  case round =>
    obtain ⟨k, hk, rfl, ⟨cur', hg', hs', hin, hout⟩, hgr⟩ := hrel
    have HIN := hid hin; clear hin
    have HOUT := hid hout; clear hout
    have HG := hid hg'
    by_cases hlt : k < n
    · obtain rfl := ha (by omega)
      have hc : wr.cell? ⟨g, off + k, none⟩ = some cur'[off + k] := by
        rw [cell_of_row wr g (off + k) cur' _ _ hg']; simp [show off + k < cur'.size by omega]
      obtain ⟨v0, hv0⟩ : ∃ v0, v0 = cur'[off + k] := ⟨_, rfl⟩
      rw [← hv0] at hc
      clear hv0
      have hf : wr.frozen? ⟨g, off + k, none⟩ = false := frozen_of_row wr g (off + k) cur' _ hg'
      obtain ⟨y, hy⟩ : ∃ y : Nat, y = x / 2 ^ (n - 1 - k) := ⟨_, rfl⟩
      have hy1 : y < 4294967296 := by rw [hy]; exact Nat.lt_of_le_of_lt (Nat.div_le_self _ _) hx
      have hsh : Op.shift .shr .u32 (x : Int) .i64 ((n : Int) - 1 - (k : Int)) = pure (.int .u32 (y : Int)) := by
        rw [shift_shr_any _ _ _ _ (by omega), show ((n : Int) - 1 - (k : Int)).toNat = n - 1 - k from by omega, hy]
        congr 2
        by_cases hs : n - 1 - k ≤ 32
        · rw [show min (n - 1 - k) IntKind.u32.bits = n - 1 - k from Nat.min_eq_left hs]; norm_cast
        · have h2 : x / 2 ^ (n - 1 - k) = 0 := Nat.div_eq_of_lt (Nat.lt_of_lt_of_le hx (Nat.pow_le_pow_right (n := 2) (i := 32) (by decide) (by omega)))
          rw [show min (n - 1 - k) IntKind.u32.bits = 32 from Nat.min_eq_right (show 32 ≤ n - 1 - k by omega), h2]
          show (x : Int) / 2 ^ 32 = 0
          omega
      obtain ⟨bt, hbt⟩ : ∃ bt, bt = x.testBit (n - 1 - k) := ⟨_, rfl⟩
      have hb1 : (bits .and .u32 (y : Int) 1 == 1) = bt := by
        rw [show ((1 : Int)) = ((1 : Nat) : Int) from rfl, (u32_bits y 1 hy1 (by omega)).1, hbt, hy, Nat.testBit_eq_decide_div_mod_eq, Nat.and_one_is_mod, Bool.eq_iff_iff]
        simp
        norm_cast
      have HB := hid hbt; clear hbt
      clear hg' hy
      go_wp2
      go_roundw
      case rel =>
        have hset := heap_setCell_same wr g (off + k) cur' _ (.bool bt) HG.out
        refine ⟨k + 1, by omega, by go_num, ⟨_, hset, by simpa using hs', fun j h1 h2 => ?_, fun j h1 => ?_⟩, ?_⟩
        · rw [Array.getElem?_setIfInBounds]
          split
          · rename_i e; subst e; rw [if_pos (by omega), HB.out]; congr 4; omega
          · exact HIN.out j h1 (by omega)
        · rw [Array.getElem?_setIfInBounds, if_neg (by omega)]
          exact HOUT.out j (by omega)
        · exact ⟨hgr.os, hgr.tape, hgr.output, by simpa using hgr.size, fun q h1 h2 => (Below.heap_setCell _ _ _ _ (by simpa using h2)).trans (hgr.block q h1 h2)⟩
      case measure => simp [intOf]; omega
    · obtain rfl : k = n := by omega
      clear hg'
      go_wp2
      go_end0
      exact ⟨rfl, ⟨cur', HG.out, hs', HIN.out, HOUT.out⟩, hgr⟩

/-- How many bits Of gives. -/
def clampM (many : Int) : Nat := (min (max many 0) 64).toNat

theorem of_any (w : World) (x : Nat) (many : Int) (hx : x < 4294967296) (hm : -9223372036854775808 ≤ many ∧ many ≤ 9223372036854775807) :
    Calls Tryd.prog 32 #[.int .u32 (x : Int), .int .i64 many] w fun e w' => ∃ a c, e = .returned (.slice a (clampM many) c) ∧ OL .bool 4 w.heap.size w' a (clampM many) c (ofL x (clampM many)) ∧ Below w.heap.size w w' := by
  obtain ⟨m, hm0⟩ : ∃ m, m = clampM many := ⟨_, rfl⟩
  have hm64 : m ≤ 64 := by rw [hm0]; unfold clampM; omega
  have hcase : (many < 0 ∧ m = 0) ∨ (many > 64 ∧ m = 64) ∨ many = (m : Int) := by rw [hm0]; unfold clampM; omega
  rw [← hm0]
  clear hm0
  rcases hcase with ⟨h1, h2⟩ | ⟨h1, h2⟩ | h2
  all_goals
    have H2 := hid h2
    first | (have h3 : 0 ≤ many ∧ many ≤ 64 := by omega) | skip
    clear h2
    go_enter Tryd.func32, Tryd.ntmps32
    go_wp2_with (first
      | (at_make; refine wpList_mk (f := Value.bool) (n := m) tB false rfl rfl _ _ rfl _ _ _ _ rfl rfl (by have := H2.out; omega) (by have := H2.out; omega) (by omega) (by omega) ?_; intro w1 hown hb1 hs1; obtain ⟨cur, _, hg, hcs, _, _⟩ := hown.full)
      | (go_at_call 34; refine (fill_any w1 w.heap.size 0 _ _ x _ cur hx (fun _ => rfl) hg (by omega) (by omega)).mono ?_; rintro e w2 ⟨rfl, ⟨cur', hg', hs', hin, _⟩, hgr⟩))
    go_ret
    refine ⟨_, _, rfl, ol_of_cells hg' (Nat.le_refl _) (hs'.trans hcs) (by omega) (by simp) (fun j b hb => ?_), hb1.trans ((Below.refl _ _).grown hgr (by omega) (fun q hq => by simp at hq; omega))⟩
    have hj : j < (ofL x _).length := (List.getElem?_eq_some_iff.1 hb).1
    rw [ofL_length] at hj
    rw [ofL_get _ _ _ hj] at hb
    simp only [Option.some.injEq] at hb
    subst hb
    rw [hin j (by omega) (by omega)]
    simp

end Go.Proofs.YtdkgdjdhmonccaaDoor

namespace Go.Proofs.YtdkgdjdhmonccaaDoor
open Go.RowKit
set_option linter.unusedVariables false

theorem drop_at {l : List Bool} {k : Nat} {x : Bool} (h : l[k]? = some x) : l.drop k = x :: l.drop (k + 1) := by
  obtain ⟨h1, h2⟩ := List.getElem?_eq_some_iff.1 h
  rw [List.drop_eq_getElem_cons h1, h2]

end Go.Proofs.YtdkgdjdhmonccaaDoor

namespace Go.Proofs.YtdkgdjdhmonccaaDoor
open Go.RowKit Go.Shelf
set_option linter.unusedVariables false

attribute [local go_sem] Oper.semAt_some

end Go.Proofs.YtdkgdjdhmonccaaDoor

namespace Go.Proofs.YtdkgdjdhmonccaaDoor
open Go.RowKit Go.Sort
set_option linter.unusedVariables false

/-- How many bytes a frame has. -/
def lonF (rem : Bool) (dlc : Nat) : Nat := if rem then 0 else min dlc 8

/-- Whether a frame with n bytes is right. -/
def riF (id : Nat) (ext rem : Bool) (dlc n : Nat) : Bool := decide (id ≤ if ext then 536870911 else 2047) && decide (dlc ≤ 15) && decide (n = lonF rem dlc)

/-- A frame that was laid in a new box: its cells, in every world that has only grown and drawn since. -/
theorem boxed (w : World) (E : TypeId) (v0 v1 v2 v3 v4 : Value) : ∃ w0, Hid (w.alloc (.cells #[v0, v1, v2, v3, v4] E) = w0) ∧ w0.heap[w.heap.size]? = some (.cells #[v0, v1, v2, v3, v4] E (0, 0)) ∧
    (∀ d os, (grow (redrawn w0 d) os).cell? ⟨w.heap.size, 0, none⟩ = some v0) ∧ (∀ d os, (grow (redrawn w0 d) os).cell? ⟨w.heap.size, 1, none⟩ = some v1) ∧ (∀ d os, (grow (redrawn w0 d) os).cell? ⟨w.heap.size, 2, none⟩ = some v2) ∧
    (∀ d os, (grow (redrawn w0 d) os).cell? ⟨w.heap.size, 3, none⟩ = some v3) ∧ (∀ d os, (grow (redrawn w0 d) os).cell? ⟨w.heap.size, 4, none⟩ = some v4) ∧ Below w.heap.size w w0 := by
  have h := heap_alloc_new w (.cells #[v0, v1, v2, v3, v4] E)
  obtain ⟨k0, k1, k2, k3, k4⟩ := bx5 h
  exact ⟨_, rfl, h, fun d os => cell_regrown k0 d os, fun d os => cell_regrown k1 d os, fun d os => cell_regrown k2 d os, fun d os => cell_regrown k3 d os, fun d os => cell_regrown k4 d os, bnew0 _ _⟩

theorem frLong_any (w : World) (id : Nat) (ext rem : Bool) (dlc : Nat) (a : Option Addr) (n c : Nat) (hd : dlc < 256) :
    Calls Tryd.prog 28 #[.agg #[.int .u32 (id : Int), .bool ext, .bool rem, .int .u8 (dlc : Int), .slice a n c]] w fun e w' => e = .returned (.int .i64 (lonF rem dlc : Int)) ∧ Below w.heap.size w w' := by
  obtain ⟨p, hp⟩ : ∃ p, p = min dlc 8 := ⟨_, rfl⟩
  have hp8 : p ≤ 8 := by omega
  have hmin : ∀ (ts : Array TypeId) (t : TypeId) (w' : World), (Builtin.min_ ts t #[.int .u8 (dlc : Int), .int .u8 8]).run Tryd.prog w' = .ok (.int .u8 (p : Int)) w' := fun ts t w' => by
    rw [run_min_int2]; congr 2; split <;> omega
  cases rem
  · have hl : lonF false dlc = p := by rw [hp]; rfl
    rw [hl]
    clear hl hp
    go_enter Tryd.func28, Tryd.ntmps28
    go_wp2
    go_ret
    exact ⟨rfl, bnew0 _ _⟩
  · go_enter Tryd.func28, Tryd.ntmps28
    go_wp2
    go_ret
    exact ⟨rfl, bnew0 _ _⟩

theorem refLong_any (w : World) (id : Nat) (ext rem : Bool) (dlc : Nat) (a : Option Addr) (n c : Nat) (hd : dlc < 256) :
    Calls Tryd.prog 30 #[.agg #[.int .u32 (id : Int), .bool ext, .bool rem, .int .u8 (dlc : Int), .slice a n c]] w fun e w' => e = .returned (.int .i64 (lonF rem dlc : Int)) ∧ Below w.heap.size w w' := by
  cases rem
  · by_cases h8 : dlc > 8
    · have hl : lonF false dlc = 8 := by unfold lonF; simp; omega
      rw [hl]
      clear hl
      go_enter Tryd.func30, Tryd.ntmps30
      go_wp2
      go_ret
      exact ⟨rfl, bnew0 _ _⟩
    · have hl : lonF false dlc = dlc := by unfold lonF; simp; omega
      rw [hl]
      clear hl
      go_enter Tryd.func30, Tryd.ntmps30
      go_wp2
      go_ret
      exact ⟨rfl, bnew0 _ _⟩
  · go_enter Tryd.func30, Tryd.ntmps30
    go_wp2
    go_ret
    exact ⟨rfl, bnew0 _ _⟩
end Go.Proofs.YtdkgdjdhmonccaaDoor

namespace Go.Proofs.YtdkgdjdhmonccaaDoor
open Go.RowKit Go.Sort
set_option linter.unusedVariables false

/-- The first part of a head. -/
def conL (id : Nat) (ext rem : Bool) : List Bool := if ext then [false] ++ ofL (id / 262144) 11 ++ [true, true] ++ ofL id 18 ++ [rem] else [false] ++ ofL id 11 ++ [rem, false]

def conN (ext : Bool) : Nat := if ext then 33 else 14
theorem conL_length (id : Nat) (ext rem : Bool) : (conL id ext rem).length = conN ext := by cases ext <;> simp [conL, conN]
theorem clamp_11 : clampM 11 = 11 := by decide
theorem clamp_18 : clampM 18 = 18 := by decide
/-- A row that grows beside a box that was laid first. -/
structure St (w w' : World) (a : Option Addr) (n c : Nat) (l : List Bool) (bx : Array Value) (T : TypeId) : Prop where
  row : OL .bool 4 (w.heap.size + 1) w' a n c l
  box : w'.heap[w.heap.size]? = some (.cells bx T (0, 0))
  bel : Below w.heap.size w w'
  siz : w.heap.size + 1 ≤ w'.heap.size

section
variable {w w' w'' : World} {a a' : Option Addr} {n c n' c' : Nat} {l l' : List Bool} {bx : Array Value} {T : TypeId}
theorem St.call (h : St w w' a n c l bx T) (g : Below w'.heap.size w' w'') : St w w'' a n c l bx T := ⟨h.row.below g, bx_below h.box g, bstep h.bel g, Nat.le_trans h.siz g.size⟩
theorem St.alloc (h : St w w' a n c l bx T) (o : Obj) : St w (w'.alloc o) a n c l bx T := ⟨h.row.alloc o, bx_alloc o h.box, bnew h.bel o, by simp; have := h.siz; omega⟩
theorem St.app (h : St w w' a n c l bx T) (hol : OL .bool 4 (w.heap.size + 1) w'' a' n' c' l') (g : Below (w.heap.size + 1) w' w'') : St w w'' a' n' c' l' bx T :=
  ⟨hol, by rw [g.block _ (Nat.lt_succ_self _)]; exact h.box, h.bel.trans (g.mono (by omega)), Nat.le_trans h.siz g.size⟩
theorem St.lit (w : World) (bx : Array Value) (T : TypeId) (b : Bool) : St w ((w.alloc (.cells bx T)).alloc (.cells #[.bool b] 4)) (some ⟨w.heap.size + 1, 0, none⟩) 1 1 [b] bx T := by
  have h1 := ol_lit Value.bool 4 (w.heap.size + 1) (w.alloc (.cells bx T)) [b] #[.bool b] 1 rfl rfl (by omega) (by simp)
  rw [heap_size_alloc] at h1
  exact ⟨h1, bx_alloc _ (heap_alloc_new w _), bnew (bnew0 _ _) _, by simp⟩
theorem St.ol (h : St w w' a n c l bx T) : OL .bool 4 w.heap.size w' a n c l := h.row.mono (by omega)
end

theorem lit1 (w : World) (x : Bool) : RL .bool (w.alloc (.cells #[.bool x] 4)) (some ⟨w.heap.size, 0, none⟩) 1 1 [x] := (ol_lit Value.bool 4 w.heap.size w [x] #[.bool x] 1 rfl rfl (by omega) (Nat.le_refl _)).rl
theorem lit2 (w : World) (x y : Bool) : RL .bool (w.alloc (.cells #[.bool x, .bool y] 4)) (some ⟨w.heap.size, 0, none⟩) 2 2 [x, y] := (ol_lit Value.bool 4 w.heap.size w [x, y] #[.bool x, .bool y] 2 rfl rfl (by omega) (Nat.le_refl _)).rl
theorem contest_any (w : World) (id : Nat) (ext rem : Bool) (dlc : Nat) (a : Option Addr) (n c : Nat) (hi : id < 4294967296) :
    Calls Tryd.prog 29 #[.agg #[.int .u32 (id : Int), .bool ext, .bool rem, .int .u8 (dlc : Int), .slice a n c]] w fun e w' => ∃ a' c', e = .returned (.slice a' (conN ext) c') ∧ OL .bool 4 w.heap.size w' a' (conN ext) c' (conL id ext rem) ∧ Below w.heap.size w w' := by
  cases ext
  · go_enter Tryd.func29, Tryd.ntmps29
    go_wp2_with (first
      | (go_at_call 32; (with_reducible refine (of_any _ id 11 hi (by omega)).mono ?_); rw [clamp_11]; rintro e w2 ⟨a2, c2, rfl, hol2, g2⟩; have st2 := (St.lit w _ 28 false).call g2; obtain ⟨_, _, k2, _, _⟩ := bx5 st2.box; clear k2; have hs2 := st2.siz)
      | (at_builtin; refine wpList_app (f := Value.bool) (B := w.heap.size + 1) (w := w2) tB rfl _ _ rfl rfl st2.row rfl hol2.rl (fun _ => rfl) (by omega) (by omega) (by omega) ?_; intro w3 a3 c3 hol3 g3; have st3 := st2.app hol3 g3; obtain ⟨_, _, k2, _, _⟩ := bx5 st3.box; have hs3 := st3.siz)
      | (at_builtin; refine wpList_app (f := Value.bool) (B := w.heap.size + 1) tB rfl _ _ rfl rfl (st3.alloc _).row rfl (lit2 w3 rem false) (fun _ => rfl) (by omega) (by omega) (by simp; omega) ?_; intro w4 a4 c4 hol4 g4; have st4 := (st3.alloc _).app hol4 g4))
    go_ret
    exact ⟨_, _, rfl, st4.ol, st4.bel⟩
  · obtain ⟨y, hy⟩ : ∃ y, y = id / 262144 := ⟨_, rfl⟩
    have hi2 : y < 4294967296 := by omega
    have hsh : Op.shift .shr .u32 (id : Int) .u64 18 = pure (.int .u32 (y : Int)) := by
      rw [shift_shr_any _ _ _ _ (by omega), hy]
      rfl
    have HY : Hid (conL id true rem = [false] ++ ofL y 11 ++ [true, true] ++ ofL id 18 ++ [rem]) := by show _ = _; rw [hy]; rfl
    rw [HY.out]
    clear hy
    go_enter Tryd.func29, Tryd.ntmps29
    go_wp2_with (first
      | (go_at_call 32; (with_reducible refine (of_any _ y 11 hi2 (by omega)).mono ?_); rw [clamp_11]; rintro e w2 ⟨a2, c2, rfl, hol2, g2⟩; have st2 := (St.lit w _ 28 false).call g2; have hs2 := st2.siz)
      | (at_builtin; refine wpList_app (f := Value.bool) (B := w.heap.size + 1) (w := w2) tB rfl _ _ rfl rfl st2.row rfl hol2.rl (fun _ => rfl) (by omega) (by omega) (by omega) ?_; intro w3 a3 c3 hol3 g3; have st3 := st2.app hol3 g3; have hs3 := st3.siz)
      | (at_builtin; refine wpList_app (f := Value.bool) (B := w.heap.size + 1) tB rfl _ _ rfl rfl (st3.alloc _).row rfl (lit2 w3 true true) (fun _ => rfl) (by omega) (by omega) (by simp; omega) ?_; intro w4 a4 c4 hol4 g4; have st4 := (st3.alloc _).app hol4 g4; obtain ⟨k0, _, _, _, _⟩ := bx5 st4.box)
      | (go_at_call 32; (with_reducible refine (of_any w4 id 18 hi (by omega)).mono ?_); rw [clamp_18]; rintro e w5 ⟨a5, c5, rfl, hol5, g5⟩; have st5 := st4.call g5; have hs5 := st5.siz)
      | (at_builtin; refine wpList_app (f := Value.bool) (B := w.heap.size + 1) (w := w5) tB rfl _ _ rfl rfl st5.row rfl hol5.rl (fun _ => rfl) (by omega) (by omega) (by omega) ?_; intro w6 a6 c6 hol6 g6; have st6 := st5.app hol6 g6; obtain ⟨_, _, k2, _, _⟩ := bx5 st6.box; have hs6 := st6.siz)
      | (at_builtin; refine wpList_app (f := Value.bool) (B := w.heap.size + 1) tB rfl _ _ rfl rfl (st6.alloc _).row rfl (lit1 w6 rem) (fun _ => rfl) (by omega) (by omega) (by simp; omega) ?_; intro w7 a7 c7 hol7 g7; have st7 := (st6.alloc _).app hol7 g7))
    go_ret
    exact ⟨_, _, rfl, st7.ol, st7.bel⟩

end Go.Proofs.YtdkgdjdhmonccaaDoor

namespace Go.Proofs.YtdkgdjdhmonccaaDoor
open Go.RowKit Go.Sort
set_option linter.unusedVariables false

theorem frRight_any (w : World) (id : Nat) (ext rem : Bool) (dlc : Nat) (a : Option Addr) (n c : Nat) (hi : id < 4294967296) (hd : dlc < 256) :
    Calls Tryd.prog 21 #[.agg #[.int .u32 (id : Int), .bool ext, .bool rem, .int .u8 (dlc : Int), .slice a n c]] w fun e w' => e = .returned (.bool (riF id ext rem dlc n)) ∧ Below w.heap.size w w' := by
  obtain ⟨r, hr⟩ : ∃ r, r = riF id ext rem dlc n := ⟨_, rfl⟩
  rw [← hr]
  obtain ⟨L, hL⟩ : ∃ L, L = lonF rem dlc := ⟨_, rfl⟩
  obtain ⟨G, hG⟩ : ∃ G : Int, G = if ext then 536870911 else 2047 := ⟨_, rfl⟩
  have hr2 : r = (decide ((id : Int) ≤ G) && decide ((dlc : Int) ≤ 15) && decide ((n : Int) = L)) := by
    rw [hr, hL, hG]; unfold riF; rw [Bool.eq_iff_iff]; cases ext <;> simp <;> omega
  clear hr
  have HR := hid hr2
  clear hr2
  have hlong : ∀ (w0 : World) d os, Calls Tryd.prog 28 #[.agg #[.int .u32 (id : Int), .bool ext, .bool rem, .int .u8 (dlc : Int), .slice a n c]] (grow (redrawn w0 d) os) fun e w'' => e = .returned (.int .i64 (L : Int)) ∧ ∃ p : Regrown, w'' = grow (redrawn w0 p.d) p.os := fun w0 d os => by
    rw [hL]; exact Calls.regrown_of (frLong_any _ id ext rem dlc a n c hd)
  clear hL
  have hcases : (decide ((id : Int) ≤ G) = true ∧ decide ((dlc : Int) ≤ 15) = true) ∨ (decide ((id : Int) ≤ G) = false) ∨ (decide ((id : Int) ≤ G) = true ∧ decide ((dlc : Int) ≤ 15) = false) := by simp only [decide_eq_false_iff_not, decide_eq_true_eq]; omega
  obtain ⟨w0, hw0, hbx, c0, c1, c2, c3, c4, gg0⟩ := boxed w 28 (.int .u32 (id : Int)) (.bool ext) (.bool rem) (.int .u8 (dlc : Int)) (.slice a n c)
  clear hbx
  cases ext
  all_goals
    simp only [Bool.false_eq_true, if_false, if_true] at hG
    rcases hcases with ⟨h1, h2⟩ | h1 | ⟨h1, h2⟩
    all_goals
      subst hG
      go_enter Tryd.func21, Tryd.ntmps21
      go_wp2_with fail
      rw [hw0.out]
      refine wp_region_quiet_below (by kernel_rfl) (by kernel_rfl) ?_
      repeat (go_big_quiet_step (first
        | (go_at_call 28; exact hlong _ _ _)))
      refine wpQuiet_nil ?_
      intro w9 hw9
      have gg : Below w0.heap.size w0 w9 := by obtain ⟨p9, rfl⟩ := hw9; exact below_regrown _ _ _
      clear hw9
      go_wp2
      go_ret
      refine ⟨ret_bool ?_, bstep gg0 gg⟩
      rw [HR.out]
      first | (rw [h1, h2]; rfl) | (rw [h1, h2]; simp) | (rw [h1]; rfl)

theorem refRight_any (w : World) (id : Nat) (ext rem : Bool) (dlc : Nat) (a : Option Addr) (n c : Nat) (hi : id < 4294967296) (hd : dlc < 256) :
    Calls Tryd.prog 26 #[.agg #[.int .u32 (id : Int), .bool ext, .bool rem, .int .u8 (dlc : Int), .slice a n c]] w fun e w' => e = .returned (.bool (riF id ext rem dlc n)) ∧ Below w.heap.size w w' := by
  obtain ⟨r, hr⟩ : ∃ r, r = riF id ext rem dlc n := ⟨_, rfl⟩
  rw [← hr]
  obtain ⟨L, hL⟩ : ∃ L, L = lonF rem dlc := ⟨_, rfl⟩
  have hr2 : r = (decide ((id : Int) < 2048 ∨ ext = true ∧ (id : Int) < 536870912) && !decide ((dlc : Int) > 15) && decide ((n : Int) = L)) := by
    rw [hr, hL]; unfold riF; rw [Bool.eq_iff_iff]; cases ext <;> simp <;> omega
  clear hr
  have HR := hid hr2
  clear hr2
  have hlong : ∀ (w0 : World) d os, Calls Tryd.prog 30 #[.agg #[.int .u32 (id : Int), .bool ext, .bool rem, .int .u8 (dlc : Int), .slice a n c]] (grow (redrawn w0 d) os) fun e w'' => e = .returned (.int .i64 (L : Int)) ∧ ∃ p : Regrown, w'' = grow (redrawn w0 p.d) p.os := fun w0 d os => by
    rw [hL]; exact Calls.regrown_of (refLong_any _ id ext rem dlc a n c hd)
  clear hL
  obtain ⟨w0, hw0, hbx, c0, c1, c2, c3, c4, gg0⟩ := boxed w 28 (.int .u32 (id : Int)) (.bool ext) (.bool rem) (.int .u8 (dlc : Int)) (.slice a n c)
  have hcases : (decide ((dlc : Int) > 15) = true) ∨ (decide ((dlc : Int) > 15) = false ∧ ((n : Int) != (L : Int)) = true) ∨ (decide ((dlc : Int) > 15) = false ∧ ((n : Int) != (L : Int)) = false) := by
    simp only [decide_eq_false_iff_not, decide_eq_true_eq, bne_iff_ne, bne_eq_false_iff_eq]; omega
  have hcas2 : (decide ((id : Int) < 2048) = true) ∨ (decide ((id : Int) < 2048) = false ∧ ext = false) ∨ (decide ((id : Int) < 2048) = false ∧ ext = true) := by
    cases ext <;> simp <;> omega
  rcases hcases with h1 | ⟨h1, h2⟩ | ⟨h1, h2⟩
  · go_enter Tryd.func26, Tryd.ntmps26
    go_wp2_with fail
    rw [hw0.out]
    refine wp_region_quiet_below (by kernel_rfl) (by kernel_rfl) ?_
    repeat (go_big_quiet_step (first
      | (go_at_call 30; exact hlong _ _ _)))
    refine wpQuiet_nil ?_
    intro w9 hw9
    have gg : Below w0.heap.size w0 w9 := by obtain ⟨p9, rfl⟩ := hw9; exact below_regrown _ _ _
    clear hw9
    go_wp2
    go_ret
    exact ⟨ret_bool (by rw [HR.out, h1]; simp), bstep gg0 gg⟩
  · go_enter Tryd.func26, Tryd.ntmps26
    go_wp2_with fail
    rw [hw0.out]
    refine wp_region_quiet_below (by kernel_rfl) (by kernel_rfl) ?_
    repeat (go_big_quiet_step (first
      | (go_at_call 30; exact hlong _ _ _)))
    refine wpQuiet_nil ?_
    intro w9 hw9
    have gg : Below w0.heap.size w0 w9 := by obtain ⟨p9, rfl⟩ := hw9; exact below_regrown _ _ _
    clear hw9
    go_wp2
    go_ret
    exact ⟨ret_bool (by rw [HR.out]; simp only [bne_iff_ne] at h2; rw [decide_eq_false h2]; simp), bstep gg0 gg⟩
  · rcases hcas2 with h3 | ⟨h3, h4⟩ | ⟨h3, h4⟩
    all_goals
      try subst h4
      go_enter Tryd.func26, Tryd.ntmps26
      go_wp2_with fail
      rw [hw0.out]
      refine wp_region_quiet_below (by kernel_rfl) (by kernel_rfl) ?_
      repeat (go_big_quiet_step (first
        | (go_at_call 30; exact hlong _ _ _)))
      refine wpQuiet_nil ?_
      intro w9 hw9
      have gg : Below w0.heap.size w0 w9 := by obtain ⟨p9, rfl⟩ := hw9; exact below_regrown _ _ _
      clear hw9
      obtain ⟨e0, e1, e2, e3, e4⟩ := bx5 (bx_below hbx gg)
      clear c0 c1 c2 c3 c4
      go_wp2
      go_ret
      refine ⟨ret_bool ?_, bstep gg0 gg⟩
      simp only [bne_eq_false_iff_eq] at h2
      simp only [decide_eq_false_iff_not, decide_eq_true_eq] at h1 h3
      rw [HR.out, Bool.eq_iff_iff]
      simp [h2]
      omega
end Go.Proofs.YtdkgdjdhmonccaaDoor

namespace Go.Proofs.YtdkgdjdhmonccaaDoor
open Go.RowKit Go.Sort
set_option linter.unusedVariables false

/-- Whether the first row wins against the second one. -/
def bfL : List Bool → List Bool → Bool
  | x :: l, y :: m => if x = y then bfL l m else y
  | _, _ => false

theorem bfL_step {l m : List Bool} {k : Nat} {x : Bool} (h1 : l[k]? = some x) (h2 : m[k]? = some x) : bfL (l.drop (k + 1)) (m.drop (k + 1)) = bfL (l.drop k) (m.drop k) := by
  rw [drop_at h1, drop_at h2]; simp [bfL]

theorem bfL_stop {l m : List Bool} {k : Nat} {x y : Bool} (h1 : l[k]? = some x) (h2 : m[k]? = some y) (h : x ≠ y) : bfL (l.drop k) (m.drop k) = y := by
  rw [drop_at h1, drop_at h2]; simp [bfL, h]

theorem bfL_end {l m : List Bool} {k : Nat} (h : l.length ≤ k ∨ m.length ≤ k) : bfL (l.drop k) (m.drop k) = false := by
  rcases h with h | h
  · rw [List.drop_eq_nil_of_le h]; simp [bfL]
  · rw [List.drop_eq_nil_of_le h]; cases l.drop k <;> simp [bfL]

theorem boxed2 (w : World) (E : TypeId) (u v : Array Value) : ∃ w0, Hid ((w.alloc (.cells u E)).alloc (.cells v E) = w0) ∧ w0.heap[w.heap.size]? = some (.cells u E (0, 0)) ∧ w0.heap[w.heap.size + 1]? = some (.cells v E (0, 0)) ∧ Below w.heap.size w w0 := by
  obtain ⟨h1, h2, h3⟩ := two_bx (w := w) (E := E) (F := E) (u := u) (v := v) (Below.refl _ _)
  exact ⟨_, rfl, h1, h2, h3⟩

theorem held10 {w0 w' : World} {g g' : Nat} {E : TypeId} {v0 v1 v2 v3 v4 u0 u1 u2 u3 u4 : Value} (h : w0.heap[g]? = some (.cells #[v0, v1, v2, v3, v4] E (0, 0))) (h' : w0.heap[g']? = some (.cells #[u0, u1, u2, u3, u4] E (0, 0))) (hb : Below w0.heap.size w0 w') :
    w'.cell? ⟨g, 0, none⟩ = some v0 ∧ w'.cell? ⟨g, 1, none⟩ = some v1 ∧ w'.cell? ⟨g, 2, none⟩ = some v2 ∧ w'.cell? ⟨g, 3, none⟩ = some v3 ∧ w'.cell? ⟨g, 4, none⟩ = some v4 ∧
    w'.cell? ⟨g', 0, none⟩ = some u0 ∧ w'.cell? ⟨g', 1, none⟩ = some u1 ∧ w'.cell? ⟨g', 2, none⟩ = some u2 ∧ w'.cell? ⟨g', 3, none⟩ = some u3 ∧ w'.cell? ⟨g', 4, none⟩ = some u4 ∧ Below w0.heap.size w0 w' := by
  obtain ⟨k0, k1, k2, k3, k4⟩ := bx5 (bx_below h hb)
  obtain ⟨q0, q1, q2, q3, q4⟩ := bx5 (bx_below h' hb)
  exact ⟨k0, k1, k2, k3, k4, q0, q1, q2, q3, q4, hb⟩

theorem before_any (w : World) (id : Nat) (ext rem : Bool) (dlc : Nat) (a : Option Addr) (n c : Nat) (id2 : Nat) (ext2 rem2 : Bool) (dlc2 : Nat) (a2 : Option Addr) (n2 c2 : Nat) (hi : id < 4294967296) (hd : dlc < 256) (hi2 : id2 < 4294967296) (hd2 : dlc2 < 256) :
    Calls Tryd.prog 23 #[.agg #[.int .u32 (id : Int), .bool ext, .bool rem, .int .u8 (dlc : Int), .slice a n c], .agg #[.int .u32 (id2 : Int), .bool ext2, .bool rem2, .int .u8 (dlc2 : Int), .slice a2 n2 c2]] w
      fun e w' => e = .returned (.bool (riF id ext rem dlc n && riF id2 ext2 rem2 dlc2 n2 && bfL (conL id ext rem) (conL id2 ext2 rem2))) ∧ Below w.heap.size w w' := by
  obtain ⟨w0, hw0, hbx, hby, gg0⟩ := boxed2 w 28 #[.int .u32 (id : Int), .bool ext, .bool rem, .int .u8 (dlc : Int), .slice a n c] #[.int .u32 (id2 : Int), .bool ext2, .bool rem2, .int .u8 (dlc2 : Int), .slice a2 n2 c2]
  have hr1 := fun w0 => frRight_any w0 id ext rem dlc a n c hi hd
  have hr2 := fun w0 => frRight_any w0 id2 ext2 rem2 dlc2 a2 n2 c2 hi2 hd2
  cases hA : riF id ext rem dlc n
  · rw [hA] at hr1
    go_enter Tryd.func23, Tryd.ntmps23
    go_wp2_with (first
      | (go_at_call 21; rw [hw0.out]; (with_reducible refine (hr1 w0).mono ?_); rintro e w1 ⟨rfl, g1⟩))
    go_ret
    exact ⟨rfl, bstep gg0 g1⟩
  rw [hA] at hr1
  cases hB : riF id2 ext2 rem2 dlc2 n2
  · rw [hB] at hr2
    go_enter Tryd.func23, Tryd.ntmps23
    go_wp2_with (first
      | (go_at_call 21; rw [hw0.out]; (with_reducible refine (hr1 w0).mono ?_); rintro e w1 ⟨rfl, g1⟩; obtain ⟨q0, q1, q2, q3, q4⟩ := bx5 (bx_below hby g1))
      | (go_at_call 21; (with_reducible refine (hr2 w1).mono ?_); rintro e w2 ⟨rfl, g2⟩))
    go_ret
    exact ⟨rfl, bstep (bstep gg0 g1) g2⟩
  rw [hB] at hr2
  have hc1 := fun w0 => contest_any w0 id ext rem dlc a n c hi
  have hc2 := fun w0 => contest_any w0 id2 ext2 rem2 dlc2 a2 n2 c2 hi2
  have hlen1 := conL_length id ext rem
  have hlen2 := conL_length id2 ext2 rem2
  obtain ⟨N1, hN1⟩ : ∃ N1, N1 = conN ext := ⟨_, rfl⟩
  obtain ⟨N2, hN2⟩ : ∃ N2, N2 = conN ext2 := ⟨_, rfl⟩
  obtain ⟨l1, hl1⟩ : ∃ l1, l1 = conL id ext rem := ⟨_, rfl⟩
  obtain ⟨l2, hl2⟩ : ∃ l2, l2 = conL id2 ext2 rem2 := ⟨_, rfl⟩
  simp only [← hN1, ← hl1] at hc1 hlen1
  simp only [← hN2, ← hl2] at hc2 hlen2
  rw [← hl1, ← hl2]
  have hN : N1 ≤ 33 ∧ N2 ≤ 33 := by rw [hN1, hN2]; unfold conN; constructor <;> split <;> omega
  clear hN1 hN2 hl1 hl2 hA hB
  obtain ⟨p, hp⟩ : ∃ p, p = min N1 N2 := ⟨_, rfl⟩
  have hp2 : p ≤ N1 ∧ p ≤ N2 ∧ (N1 ≤ p ∨ N2 ≤ p) := by omega
  have hmin : ∀ (ts : Array TypeId) (t : TypeId) (w' : World), (Builtin.min_ ts t #[.int .i64 (N1 : Int), .int .i64 (N2 : Int)]).run Tryd.prog w' = .ok (.int .i64 (p : Int)) w' := fun ts t w' => by
    rw [run_min_int2]; congr 2; split <;> omega
  clear hp
  obtain ⟨bt, hbt⟩ : ∃ bt, bt = bfL l1 l2 := ⟨_, rfl⟩
  rw [← hbt]
  simp only [Bool.true_and]
  go_enter Tryd.func23, Tryd.ntmps23
  go_wp2_with (first
    | (go_at_call 21; rw [hw0.out]; (with_reducible refine (hr1 w0).mono ?_); rintro e w1 ⟨rfl, g1⟩; obtain ⟨q0, q1, q2, q3, q4⟩ := bx5 (bx_below hby g1))
    | (go_at_call 21; (with_reducible refine (hr2 w1).mono ?_); rintro e w2 ⟨rfl, g2⟩; have hbx2 := bx_below (bx_below hbx g1) g2; have hby2 := bx_below (bx_below hby g1) g2; have gg2 := bstep (bstep gg0 g1) g2))
  clear q0 q1 q2 q3 q4
  have hd1 : Below w2.heap.size w2 w2.drew := (Below.refl _ _).drew
  go_region_held3 (fun w' => w'.cell? ⟨w.heap.size, 0, none⟩ = some (.int .u32 (id : Int)) ∧ w'.cell? ⟨w.heap.size, 1, none⟩ = some (.bool ext) ∧ w'.cell? ⟨w.heap.size, 2, none⟩ = some (.bool rem) ∧ w'.cell? ⟨w.heap.size, 3, none⟩ = some (.int .u8 (dlc : Int)) ∧ w'.cell? ⟨w.heap.size, 4, none⟩ = some (.slice a n c) ∧
      w'.cell? ⟨w.heap.size + 1, 0, none⟩ = some (.int .u32 (id2 : Int)) ∧ w'.cell? ⟨w.heap.size + 1, 1, none⟩ = some (.bool ext2) ∧ w'.cell? ⟨w.heap.size + 1, 2, none⟩ = some (.bool rem2) ∧ w'.cell? ⟨w.heap.size + 1, 3, none⟩ = some (.int .u8 (dlc2 : Int)) ∧ w'.cell? ⟨w.heap.size + 1, 4, none⟩ = some (.slice a2 n2 c2) ∧ Below w2.heap.size w2 w')
    (first
      | exact held10 hbx2 hby2 hd1
      | exact held10 hbx2 hby2 g15
      | exact held10 hbx2 hby2 g16)
    (first
      | (go_simp; go_at_call 29; (with_reducible refine Calls.mono (hc1 w2.drew) ?_); rintro e w5 ⟨a5, c5, rfl, hol5, g5⟩; have g15 : Below w2.heap.size w2 w5 := hd1.trans g5)
      | (go_simp; go_at_call 29; (with_reducible refine Calls.mono (hc2 w5) ?_); rintro e w6 ⟨a6, c6, rfl, hol6, g6⟩; have hol56 := (hol5.below g6).rl; have hr6 := hol6.rl; have g16 := bstep g15 g6))
  all_goals
    have gg6 := bstep gg2 g16
    clear hbx2 hby2 hc1 hc2 hr1 hr2 hbx hby hol5 hol6 g15 g16 hd1 gg2 gg0 g1 g2 g5 g6
    have HB := hid hbt; clear hbt
    go_wp2_with fail
    go_loopw [25] (fun i wr => ∃ k : Nat, k ≤ p ∧ i = .int .i64 (k : Int) ∧ bfL (l1.drop k) (l2.drop k) = bt ∧ Below w6.heap.size w6 wr) (fun i _ => p - (intOf i).toNat)
    case atStart => exact ⟨0, Nat.zero_le _, rfl, HB.out.symm, Below.refl _ _⟩
    case round =>
      obtain ⟨k, hk, rfl, hbf, hb⟩ := hrel
      have HF := hid hbf; clear hbf
      by_cases hlt : k < p
      · obtain ⟨b1, off1, x, rfl, hx, hck⟩ := (hol56.below hb).at (k := k) (by omega)
        obtain ⟨b2, off2, y, rfl, hy, hck2⟩ := (hr6.below hb).at (k := k) (by omega)
        have HX := hid hx; clear hx
        have HY := hid hy; clear hy
        have i1 : (k : Int) < (N1 : Int) := by omega
        have i2 : (k : Int) < (N2 : Int) := by omega
        by_cases hxy : x = y
        · subst hxy
          clear hmin
          go_wp2_with fail
          go_big_quiet (fail)
          go_wp2
          go_roundw
          case rel => exact ⟨k + 1, by omega, by go_num, (bfL_step HX.out HY.out).trans HF.out, below_drewN hb nq⟩
          case measure => simp [intOf]; omega
        · have hne : (x == y) = false := by simpa using hxy
          have HN : Hid (y = bt) := (bfL_stop HX.out HY.out hxy).symm.trans HF.out
          clear hxy hmin
          go_wp2_with fail
          go_big_quiet (fail)
          go_wp2
          go_ret
          exact ⟨ret_bool HN.out, bstep gg6 (below_drewN hb nq)⟩
      · obtain rfl : k = p := by omega
        have HE : Hid (bt = false) := HF.out.symm.trans (bfL_end (by rw [hlen1, hlen2]; exact hp2.2.2))
        clear hmin
        go_wp2
        go_ret
        exact ⟨ret_bool HE.out.symm, bstep gg6 hb⟩
end Go.Proofs.YtdkgdjdhmonccaaDoor

namespace Go.Proofs.YtdkgdjdhmonccaaDoor
open Go.RowKit Go.Sort
set_option linter.unusedVariables false

theorem bfL_asym : ∀ (l m : List Bool), bfL l m = true → bfL m l = false := by
  intro l
  induction l with
  | nil => intro m h; simp [bfL] at h
  | cons x l ih =>
    intro m h
    cases m with
    | nil => simp [bfL] at h
    | cons y m =>
      simp only [bfL] at h ⊢
      by_cases e : x = y
      · rw [if_pos e] at h; rw [if_pos e.symm]; exact ih m h
      · rw [if_neg e] at h; rw [if_neg (fun q => e q.symm)]; cases x <;> cases y <;> simp_all

theorem bfL_self (l : List Bool) : bfL l l = false := by
  cases h : bfL l l with
  | false => rfl
  | true => exact h.symm.trans (bfL_asym l l h)

theorem bfL_len (l m r : List Bool) (h : l.length = m.length) (hne : l ≠ m) (s : List Bool) : bfL (l ++ r) (m ++ s) = bfL l m := by
  induction l generalizing m with
  | nil => cases m with
    | nil => exact absurd rfl hne
    | cons => simp at h
  | cons x l ih =>
    cases m with
    | nil => simp at h
    | cons y m =>
      simp only [List.cons_append, bfL]
      by_cases e : x = y
      · subst e
        rw [if_pos rfl, if_pos rfl]
        exact ih m (by simpa using h) (fun q => hne (by rw [q]))
      · rw [if_neg e, if_neg e]

theorem conL_true (id : Nat) (rem : Bool) : conL id true rem = [false] ++ ofL (id / 262144) 11 ++ [true, true] ++ ofL id 18 ++ [rem] := rfl

end Go.Proofs.YtdkgdjdhmonccaaDoor

namespace Go.Proofs.YtdkgdjdhmonccaaDoor
open Go.RowKit Go.Sort
set_option linter.unusedVariables false
set_option linter.unusedSimpArgs false

/-- The bits of a key (one more ahead, dominant), and the key. -/
def keL (id : Nat) (ext rem : Bool) : List Bool := conL id ext rem ++ (if ext then [] else List.replicate 19 false)
def keyF (id : Nat) (ext rem : Bool) : Nat := numL (keL id ext rem)

theorem bfL_numL : ∀ (l m : List Bool), l.length = m.length → bfL l m = decide (numL l < numL m) := by
  intro l
  induction l with
  | nil => intro m h; cases m with
    | nil => rfl
    | cons => simp at h
  | cons x l ih =>
    intro m h
    cases m with
    | nil => simp at h
    | cons y m =>
      have hl : l.length = m.length := by simpa using h
      have h1 := numL_lt l
      have h2 := numL_lt m
      rw [hl] at h1
      rw [numL_cons, numL_cons, hl]
      simp only [bfL]
      by_cases e : x = y
      · subst e
        rw [if_pos rfl, ih m hl, decide_eq_decide]; omega
      · rw [if_neg e]
        cases x <;> cases y <;> simp_all <;> omega

theorem conL_split (id : Nat) (rem : Bool) : conL id true rem = ([false] ++ ofL (id / 262144) 11 ++ [true, true]) ++ (ofL id 18 ++ [rem]) := by rw [conL_true]; simp
theorem ofL_len (n m : Nat) : (ofL n m).length = m := by
  induction m with
  | zero => rfl
  | succ m ih => simp [ofL, ih]

theorem keL_length (id : Nat) (ext rem : Bool) : (keL id ext rem).length = 33 := by
  unfold keL conL
  cases ext <;> simp [ofL_len]

theorem ends_ne (p q : List Bool) (x : Bool) (h : p.length = q.length) : p ++ [x, false] ≠ q ++ [true, true] := by
  intro e
  have := (List.append_inj e h).2
  simp at this

theorem keL_bf (id : Nat) (ext rem : Bool) (id2 : Nat) (ext2 rem2 : Bool) : bfL (conL id ext rem) (conL id2 ext2 rem2) = bfL (keL id ext rem) (keL id2 ext2 rem2) := by
  unfold keL
  cases ext <;> cases ext2 <;> simp only [if_true, if_false, List.append_nil, Bool.false_eq_true]
  · by_cases e : conL id false rem = conL id2 false rem2
    · rw [e, bfL_self, bfL_self]
    · rw [bfL_len _ _ _ (by simp [conL, ofL_len]) e]
  · rw [conL_split]
    have hne : conL id false rem ≠ [false] ++ ofL (id2 / 262144) 11 ++ [true, true] := ends_ne _ _ _ (by simp [ofL_len])
    have hl : (conL id false rem).length = ([false] ++ ofL (id2 / 262144) 11 ++ [true, true]).length := by simp [conL, ofL_len]
    have := bfL_len _ _ [] hl hne (ofL id2 18 ++ [rem2])
    rw [List.append_nil] at this
    rw [this, bfL_len _ _ _ hl hne]
  · rw [conL_split]
    have hne : [false] ++ ofL (id / 262144) 11 ++ [true, true] ≠ conL id2 false rem2 := fun e => ends_ne _ _ _ (by simp [ofL_len]) e.symm
    have hl : ([false] ++ ofL (id / 262144) 11 ++ [true, true]).length = (conL id2 false rem2).length := by simp [conL, ofL_len]
    have := bfL_len _ _ (ofL id 18 ++ [rem]) hl hne []
    rw [List.append_nil] at this
    rw [this, bfL_len _ _ _ hl hne]

/-- Of two frames that one goes on whose key is the lesser one. -/
theorem key_before (id : Nat) (ext rem : Bool) (id2 : Nat) (ext2 rem2 : Bool) : bfL (conL id ext rem) (conL id2 ext2 rem2) = decide (keyF id ext rem < keyF id2 ext2 rem2) := by
  rw [keL_bf, bfL_numL _ _ (by rw [keL_length, keL_length])]; rfl

theorem zeros_num (n : Nat) : numL (List.replicate n false) = 0 := by
  induction n with
  | zero => rfl
  | succ n ih => rw [List.replicate_succ, numL_cons, ih]; simp

/-- A key, reckoned. -/
theorem key_base (id : Nat) (rem : Bool) : keyF id false rem = (id % 2048 * 2 + rem.toNat) * 1048576 := by
  unfold keyF keL conL
  simp only [if_false, Bool.false_eq_true]
  rw [numL_append, zeros_num, List.length_replicate, numL_append, numL_append, numL_ofL]
  cases rem <;> simp [numL, ofL_len] <;> omega
theorem key_ext (id : Nat) (rem : Bool) : keyF id true rem = ((id / 262144 % 2048 * 4 + 3) * 262144 + id % 262144) * 2 + rem.toNat := by
  unfold keyF keL conL
  simp only [if_true, List.append_nil]
  rw [numL_append, numL_append, numL_append, numL_append, numL_ofL, numL_ofL, ofL_len, ofL_len]
  cases rem <;> simp [numL] <;> omega
end Go.Proofs.YtdkgdjdhmonccaaDoor

namespace Go.Proofs.YtdkgdjdhmonccaaDoor
open Go.RowKit Go.Sort
set_option linter.unusedVariables false

/-- An ident. -/
structure Idt where
  k : Nat
  f : Nat
  s : Nat
  r : Nat
  deriving DecidableEq

def riI (i : Idt) : Bool := decide (i.k ≤ 9) && decide (i.f ≤ 31) && decide (i.r ≤ 15)
def mkI (i : Idt) : Nat := ((i.k * 32 + i.f) * 65536 + i.s) * 16 + i.r
def rdI (n : Nat) : Option Idt := if n < 335544320 then some ⟨n / 33554432, n / 1048576 % 32, n / 16 % 65536, n % 16⟩ else none
def lsI (a b : Idt) : Bool := if a.k ≠ b.k then decide (a.k < b.k) else if a.f ≠ b.f then decide (a.f < b.f) else if a.s ≠ b.s then decide (a.s < b.s) else decide (a.r < b.r)

theorem riI_iff {i : Idt} : riI i = true ↔ i.k ≤ 9 ∧ i.f ≤ 31 ∧ i.r ≤ 15 := by unfold riI; simp [and_assoc]
theorem mk_lt {i : Idt} (h : riI i = true) (hs : i.s < 65536) : mkI i < 335544320 := by
  have := riI_iff.1 h
  unfold mkI; omega
theorem rd_mk {i : Idt} (h : riI i = true) (hs : i.s < 65536) : rdI (mkI i) = some i := by
  have h1 := riI_iff.1 h
  have h2 := mk_lt h hs
  unfold rdI
  rw [if_pos h2]
  obtain ⟨k, f, s, r⟩ := i
  unfold mkI at h2 ⊢
  dsimp only at h1 h2 hs ⊢
  congr 2 <;> omega
theorem mk_rd {n : Nat} {i : Idt} (h : rdI n = some i) : mkI i = n ∧ riI i = true ∧ i.s < 65536 := by
  unfold rdI at h
  split at h
  · have h := Option.some.inj h
    subst h
    refine ⟨?_, riI_iff.2 ?_, ?_⟩
    · unfold mkI; dsimp only; omega
    · dsimp only; omega
    · dsimp only; omega
  · cases h
theorem mk_inj {a b : Idt} (ha : riI a = true) (hb : riI b = true) (hs : a.s < 65536) (ht : b.s < 65536) (h : mkI a = mkI b) : a = b := by
  have h1 := rd_mk ha hs
  rw [h, rd_mk hb ht] at h1
  exact (Option.some.inj h1).symm
theorem ls_mk {a b : Idt} (ha : riI a = true) (hb : riI b = true) (hs : a.s < 65536) (ht : b.s < 65536) : lsI a b = decide (mkI a < mkI b) := by
  have h1 := riI_iff.1 ha
  have h2 := riI_iff.1 hb
  obtain ⟨k, f, s, r⟩ := a
  obtain ⟨k2, f2, s2, r2⟩ := b
  unfold lsI mkI
  dsimp only at h1 h2 hs ht ⊢
  split
  · exact decide_eq_decide.2 (by omega)
  · split
    · exact decide_eq_decide.2 (by omega)
    · split
      · exact decide_eq_decide.2 (by omega)
      · exact decide_eq_decide.2 (by omega)
/-- Less, of any idents. -/
theorem ls_trans {a b c : Idt} (h : lsI a b = true) (k : lsI b c = true) : lsI a c = true := by
  obtain ⟨a1, a2, a3, a4⟩ := a
  obtain ⟨b1, b2, b3, b4⟩ := b
  obtain ⟨c1, c2, c3, c4⟩ := c
  unfold lsI at h k ⊢
  dsimp only at h k ⊢
  repeat' split at h
  all_goals (repeat' split at k)
  all_goals (repeat' split)
  all_goals (simp only [decide_eq_true_eq] at h k ⊢; omega)
theorem ls_asym {a b : Idt} (h : lsI a b = true) : lsI b a = false := by
  obtain ⟨a1, a2, a3, a4⟩ := a
  obtain ⟨b1, b2, b3, b4⟩ := b
  unfold lsI at h ⊢
  dsimp only at h ⊢
  repeat' split at h
  all_goals (repeat' split)
  all_goals (simp only [decide_eq_true_eq, decide_eq_false_iff_not] at h ⊢; omega)
theorem ls_tot {a b : Idt} (h : lsI a b = false) (k : lsI b a = false) : a = b := by
  obtain ⟨a1, a2, a3, a4⟩ := a
  obtain ⟨b1, b2, b3, b4⟩ := b
  unfold lsI at h k
  dsimp only at h k
  repeat' split at h
  all_goals (repeat' split at k)
  all_goals (simp only [decide_eq_false_iff_not] at h k)
  all_goals first
    | (exfalso; omega)
    | (congr 1 <;> omega)
/-- Of extended frames, not remote, the lesser identifier has the lesser key. -/
theorem key_mono {x y : Nat} (hx : x < 536870912) (hy : y < 536870912) : decide (keyF x true false < keyF y true false) = decide (x < y) := by
  rw [key_ext, key_ext]
  simp only [Bool.toNat_false]
  exact decide_eq_decide.2 (by omega)
end Go.Proofs.YtdkgdjdhmonccaaDoor

namespace Go.Proofs.YtdkgdjdhmonccaaDoor
open Go.RowKit
set_option linter.unusedVariables false

/-- What is there is kept but for the block g, and nothing else happens. -/
structure Wr (g : Nat) (w w' : World) : Prop where
  os : w'.os = w.os
  tape : w'.tape = w.tape
  output : w'.output = w.output
  size : w.heap.size ≤ w'.heap.size
  block : ∀ k, k < w.heap.size → k ≠ g → w'.heap[k]? = w.heap[k]?

section
variable {g : Nat} {w w0 w1 w2 : World}

theorem sz_set (w : World) (a : Addr) (v : Value) : (w.setCell a v).heap.size = w.heap.size := by simp [World.setCell]
theorem Wr.refl (g : Nat) (w : World) : Wr g w w := ⟨rfl, rfl, rfl, Nat.le_refl _, fun _ _ _ => rfl⟩
theorem Wr.trans (h : Wr g w w1) (k : Wr g w1 w2) : Wr g w w2 :=
  ⟨k.os.trans h.os, k.tape.trans h.tape, k.output.trans h.output, Nat.le_trans h.size k.size, fun i hi hg => (k.block i (Nat.lt_of_lt_of_le hi h.size) hg).trans (h.block i hi hg)⟩
theorem Wr.call (h : Wr g w w1) (k : Below w1.heap.size w1 w2) : Wr g w w2 :=
  h.trans ⟨k.os, k.tape, k.output, k.size, fun i hi _ => k.block i hi⟩
theorem Wr.alloc (h : Wr g w w1) (o : Obj) : Wr g w (w1.alloc o) := h.call (bnew0 w1 o)
/-- A store into the block, or into one that was laid since. -/
theorem Wr.setCell (h : Wr g w w1) {p : Addr} (hp : p.block = g ∨ w.heap.size ≤ p.block) (u : Value) : Wr g w (w1.setCell p u) :=
  ⟨h.os, h.tape, h.output, by simpa [World.setCell] using h.size, fun k hk hg => by
    rw [Below.heap_setCell _ _ _ _ (by rcases hp with e | e <;> omega)]
    exact h.block k hk hg⟩
theorem Wr.setRow (h : Wr g w w1) {p : Nat} (hp : p = g ∨ w.heap.size ≤ p) (cs : Array Value) : Wr g w (w1.setRow p cs) :=
  ⟨h.os, h.tape, h.output, by simpa using h.size, fun k hk hg => by
    rw [setRow_other _ _ _ _ (by rcases hp with e | e <;> omega)]
    exact h.block k hk hg⟩
theorem Wr.drew (h : Wr g w w1) : Wr g w w1.drew := ⟨h.os, h.tape, h.output, h.size, h.block⟩
/-- Behind a method that writes a block of the call's own. -/
theorem Wr.below {B : Nat} (k : Wr g w w1) (h : Below B w0 w) (hB : B ≤ g) (hg : g < w.heap.size) : Below B w0 w1 :=
  h.trans ⟨k.os, k.tape, k.output, k.size, fun i hi => k.block i (by omega) (by omega)⟩
end

/-- A type whose values are rows of so many cells. -/
structure RowT (P : Program) (T : TypeId) (n : Nat) : Prop where
  und : ∃ d, P.underlying T = some d ∧ (match d with | .struct _ | .array _ _ => true | _ => false) = true
  size : (P.info? T).map (·.size) = some n

theorem rowT_of {P : Program} {T : TypeId} {n : Nat} (h : (P.underlying T).any (fun d => match d with | .struct _ | .array _ _ => true | _ => false) = true) (hs : (P.info? T).map (·.size) = some n) : RowT P T n := by
  refine ⟨?_, hs⟩
  cases hh : P.underlying T with
  | none => rw [hh] at h; simp at h
  | some d => rw [hh] at h; exact ⟨d, rfl, by simpa using h⟩

theorem rowF : RowT Tryd.prog 28 5 := rowT_of (by kernel_rfl) (by kernel_rfl)

section
variable {P : Program} {ops : Array Oper} {rest : List Oper} {o : Oper} {a : Act} {w : World} {Q : Exit → Act → World → Prop} {T : TypeId} {n : Nat}

theorem wpList_loadR (hT : RowT P T n) (hgd : o.guard = none) (x : Operand) (ho : o.op = .load T x)
    (g : Nat) (hx : a.eval x = .pointer (some ⟨g, 0, none⟩)) {t : TypeId} {cs : Array Value} {fr : Nat × Nat} (hg : w.heap[g]? = some (.cells cs t fr)) (hn : cs.size = n)
    (h : wpList P ops Q rest (a.put o.dst (.agg cs)) w) : wpList P ops Q (o :: rest) a w := by
  obtain ⟨d, hu, hd⟩ := hT.und
  exact wpList_load_row hgd T x ho g hx t cs fr d hg hu (by cases d <;> simp_all) (by rw [hT.size, hn]) h

/-- .. behind a guard. -/
theorem wpList_loadW (hT : RowT P T n) (hw : Region.wanted o (yielded ops a.tmps) = true) (x : Operand) (ho : o.op = .load T x)
    (g : Nat) (hx : a.eval x = .pointer (some ⟨g, 0, none⟩)) {t : TypeId} {cs : Array Value} {fr : Nat × Nat} (hg : w.heap[g]? = some (.cells cs t fr)) (hn : cs.size = n)
    (h : wpList P ops Q rest (a.put o.dst (.agg cs)) w) : wpList P ops Q (o :: rest) a w := by
  obtain ⟨d, hu, hd⟩ := hT.und
  exact wpList_step fun _ hK => by
    rw [if_pos hw]
    exact wp_load_row T x ho g hx t cs fr d hg hu (by cases d <;> simp_all) (by rw [hT.size, hn]) (hK _ _ h)

theorem wpList_storeR (hT : RowT P T n) (hgd : o.guard = none) (x y : Operand) (ho : o.op = .store T x y)
    (g : Nat) (cells : Array Value) (hx : a.eval x = .pointer (some ⟨g, 0, none⟩)) (hy : a.eval y = .agg cells)
    {t : TypeId} {old : Array Value} (hg : w.heap[g]? = some (.cells old t (0, 0))) (hn : cells.size = n) (hold : old.size = n) (h1 : cells.all (·.oneCell') = true)
    (h : wpList P ops Q rest (a.put o.dst undef) (w.setRow g cells)) : wpList P ops Q (o :: rest) a w :=
  wpList_store_row hgd T x y ho g cells hx hy t old hg (by rw [hT.size, hn]) (by omega) h1 h

theorem results_row (hT : RowT P T n) {fn : Func} {p : Tmp} (h : fn.results = #[.cell p T]) (tmps : Array Value) (w : World) (g : Nat) {t : TypeId} {cs : Array Value} {fr : Nat × Nat}
    (hp : tmps.getD p undef = .pointer (some ⟨g, 0, none⟩)) (hg : w.heap[g]? = some (.cells cs t fr)) (hn : cs.size = n) : (results fn tmps).run P w = .ok (.agg cs) w := by
  obtain ⟨d, hu, hd⟩ := hT.und
  exact results_cell_row h tmps w g t cs fr d hp hg hu (by cases d <;> simp_all) (by rw [hT.size, hn])
end

section
variable {P : Program} {ops : Array Oper} {o : Oper} {a : Act} {w : World} {K : Act → World → Prop} {Q : Exit → Act → World → Prop} {T U : TypeId} {n m : Nat}

theorem draw_storeR (hT : RowT P T n) (hgd : o.guard = none) (x y : Operand) (ho : o.op = .store T x y)
    (g : Nat) (cells : Array Value) (hx : a.eval x = .pointer (some ⟨g, 0, none⟩)) (hy : a.eval y = .agg cells)
    {t : TypeId} {old : Array Value} (hg : w.heap[g]? = some (.cells old t (0, 0))) (hn : cells.size = n) (hold : old.size = n) (h1 : cells.all (·.oneCell') = true)
    (h : K (a.put o.dst undef) (w.setRow g cells)) : if Region.wanted o (yielded ops a.tmps) = true then Oper.wp P o a w K Q else K (a.put o.dst undef) w := by
  rw [if_pos (by simp [Region.wanted, hgd])]
  exact wp_store_row T x y ho g cells hx hy t old hg (by rw [hT.size, hn]) (by omega) h1 h

theorem results_row1 (hT : RowT P T n) {fn : Func} {p q : Tmp} (h : fn.results = #[.cell p T, .tmp q]) (tmps : Array Value) (w : World) (g : Nat) {t : TypeId} {cs : Array Value} {fr : Nat × Nat} {v : Value}
    (hp : tmps.getD p undef = .pointer (some ⟨g, 0, none⟩)) (hq : tmps.getD q undef = v) (hg : w.heap[g]? = some (.cells cs t fr)) (hn : cs.size = n) :
    (results fn tmps).run P w = .ok (.tuple #[.agg cs, v]) w := by
  obtain ⟨d, hu, hd⟩ := hT.und
  have hp' : tmps[p]?.getD undef = .pointer (some ⟨g, 0, none⟩) := by simpa using hp
  have hq' : tmps[q]?.getD undef = v := by simpa using hq
  have e1 := run_loadVar_row (P := P) w g t T cs fr d hg hu (by cases d <;> simp_all) (by rw [hT.size, hn])
  simp [results, h, hp', hq', asAddr, e1]
end

section
variable {α : Type} {enc : α → List Value} {k : Nat} {E : TypeId} {B : Nat} {w w' : World} {a : Option Addr} {n c : Nat} {l : List α}

theorem flat_set (hk : EnK enc k) (l : List α) (i : Nat) (hi : i < l.length) (x : α) : (l.set i x).flatMap enc = (l.flatMap enc).take (i * k) ++ enc x ++ (l.flatMap enc).drop (i * k + k) := by
  have e : l.flatMap enc = (l.take i).flatMap enc ++ (enc l[i] ++ (l.drop (i + 1)).flatMap enc) := by
    conv => lhs; rw [← List.take_append_drop i l, List.drop_eq_getElem_cons hi]
    rw [List.flatMap_append, List.flatMap_cons]
  have h1 : ((l.take i).flatMap enc).length = i * k := by rw [flat_len hk, List.length_take, Nat.min_eq_left (by omega)]
  have h2 := hk.len l[i]
  rw [List.set_eq_take_append_cons_drop, if_pos hi, List.flatMap_append, List.flatMap_cons, e]
  rw [List.take_left' h1, ← List.append_assoc (List.flatMap enc (List.take i l)) (enc l[i]), List.drop_left' (by rw [List.length_append, h1, h2]), List.append_assoc]

theorem take_splice {β : Type} (L V : List β) (o m : Nat) (h : o + V.length ≤ m) (hm : m ≤ L.length) : (L.take o ++ V ++ L.drop (o + V.length)).take m = (L.take m).take o ++ V ++ (L.take m).drop (o + V.length) := by
  apply List.ext_getElem?
  intro j
  simp only [List.getElem?_take, List.getElem?_append, List.getElem?_drop, List.length_append, List.length_take, Nat.min_eq_left (show o ≤ L.length by omega), Nat.min_eq_left hm, Nat.min_eq_left (show o ≤ m by omega)]
  by_cases h1 : j < o
  · simp [h1, show j < m by omega, show j < o + V.length by omega]
  · by_cases h2 : j < o + V.length
    · simp [h1, h2, show j < m by omega]
    · have e : o + V.length + (j - (o + V.length)) = j := by omega
      simp [h2, e]

/-- Cells written one behind the other. -/
def wrC (cur : Array Value) : Nat → List Value → Array Value
  | _, [] => cur
  | o, v :: r => wrC (cur.setIfInBounds o v) (o + 1) r

theorem wrC_size : ∀ (vs : List Value) (cur : Array Value) (o : Nat), (wrC cur o vs).size = cur.size
  | [], _, _ => rfl
  | v :: r, cur, o => by rw [wrC, wrC_size r]; simp

theorem wrC_list : ∀ (vs : List Value) (cur : Array Value) (o : Nat), o + vs.length ≤ cur.size → (wrC cur o vs).toList = cur.toList.take o ++ vs ++ cur.toList.drop (o + vs.length)
  | [], cur, o, h => by simp [wrC]
  | v :: r, cur, o, h => by
    have ho : o < cur.size := by simp at h; omega
    rw [wrC, wrC_list r _ _ (by simp at h ⊢; omega)]
    rw [Array.toList_setIfInBounds, List.take_succ_eq_append_getElem (by simpa using ho), List.take_set_of_le (Nat.le_refl _), List.drop_set_of_lt (by omega)]
    simp [Nat.add_assoc, Nat.add_comm 1]

theorem heap_setCells_same (b : Nat) (t : TypeId) : ∀ (vs : List Value) (o : Nat) (w : World) (cur : Array Value), w.heap[b]? = some (.cells cur t (0, 0)) → (w.setCells b o vs).heap[b]? = some (.cells (wrC cur o vs) t (0, 0))
  | [], _, _, _, h => h
  | v :: r, o, w, cur, h => heap_setCells_same b t r (o + 1) _ _ (heap_setCell_same w b o _ _ v h)

/-- An element written anew. -/
theorem OK.put (hk : EnK enc k) {g : Nat} (h : OK enc k E B w (some ⟨g, 0, none⟩) n c l) {i : Nat} (hi : i < n) (x : α) : OK enc k E B (w.setCells g (i * k) (enc x)) (some ⟨g, 0, none⟩) n c (l.set i x) := by
  rcases h.ex with ⟨h0, _⟩ | ⟨g', cur, h1, h2, h3, h4, h5, h6⟩
  · cases h0
  · cases h1
    have hnk : (i + 1) * k ≤ n * k := Nat.mul_le_mul_right k (by omega)
    have hck : n * k ≤ c * k := Nat.mul_le_mul_right k h.cap
    rw [Nat.add_mul] at hnk
    have hle := hk.len x
    refine ⟨by rw [List.length_set]; exact h.len, h.cap, by rw [flat_len hk, List.length_set, h.len], .inr ⟨g, c, _, rfl, h2, heap_setCells_same g E _ _ _ _ h3, h.cap, h6, by rw [wrC_size]; exact h4, ?_⟩⟩
    rw [wrC_list _ _ _ (by rw [hle, h4]; omega), flat_set hk l i (by rw [h.len]; exact hi) x, ← h5, hle]
    have hl : cur.toList.length = c * k := by rw [Array.length_toList, h4]
    have := take_splice cur.toList (enc x) (i * k) (n * k) (by rw [hle]; omega) (by rw [hl]; exact hck)
    rw [hle] at this
    exact this
end

theorem cloneY_any (w : World) (a : Option Addr) (n c : Nat) (l : List UInt8) (h : RL bv w a n c l) (hn : n ≤ 1000000) :
    Calls Tryd.prog 25 #[.slice a n c] w fun e w' => ∃ a' c', e = .returned (.slice a' n c') ∧ OL bv 5 w.heap.size w' a' n c' l ∧ Below w.heap.size w w' := by
  have q22 : ∀ (w : World) (a : Option Addr) (n c n' c' : Nat), (binOp .eql 26 (.slice a n c) (.slice none n' c')).run Tryd.prog w = .ok (.bool a.isNone) w := fun w a n c n' c' => Lib.run_eql_slice_nil w _ _ a n c n' c' tY.und
  cases a with
  | none =>
    obtain rfl : n = 0 := by
      by_cases h0 : n = 0
      · exact h0
      · obtain ⟨b, off, e, _⟩ := h.cell (by omega); cases e
    obtain rfl : l = [] := List.eq_nil_of_length_eq_zero h.len
    go_enter Tryd.func25, Tryd.ntmps25
    go_wp2
    go_ret
    exact ⟨none, 0, rfl, OL.nil _ _ _ _, Below.refl _ _⟩
  | some ad =>
    have h1 := h.below (bnew0 w (.cells #[] 5))
    have ho := ol_lit bv 5 w.heap.size w [] #[] 0 rfl rfl (by omega) (Nat.le_refl _)
    go_enter Tryd.func25, Tryd.ntmps25
    go_wp2_with (at_builtin; refine wpList_app (f := bv) tY rfl _ _ rfl rfl ho rfl h1 (fun _ => rfl) (by omega) (by omega) (by simp) ?_; intro w10 a10 c10 hol10 hb10)
    go_ret
    rw [Nat.zero_add, List.nil_append] at hol10
    exact ⟨a10, c10, rfl, hol10, (bnew0 w _).trans hb10⟩

end Go.Proofs.YtdkgdjdhmonccaaDoor

namespace Go.Proofs.YtdkgdjdhmonccaaDoor
open Go.RowKit Go.Sort
set_option linter.unusedVariables false

/-- A function of the program's own text. -/
noncomputable def plainFn (F : FuncId) : Bool := match Tryd.prog.funcs[F]? with
  | some fn => !(fn.name == "runtime.NumGoroutine") && !fn.body.isNone
  | none => false
theorem plain_fn {F : FuncId} (h : plainFn F = true) : ∃ fn, Tryd.prog.funcs[F]? = some fn ∧ (fn.name == "runtime.NumGoroutine") = false ∧ fn.body.isNone = false := by
  unfold plainFn at h
  cases hf : Tryd.prog.funcs[F]? with
  | none => rw [hf] at h; cases h
  | some fn => rw [hf] at h; simp at h; exact ⟨fn, rfl, by simpa using h.1, by simpa using h.2⟩

theorem call_plain {F : FuncId} (h : plainFn F = true) (args : Array Value) (w : World) : (callFunc F args).run Tryd.prog w = .ok (.enter F args) w := by
  obtain ⟨fn, h1, h2, h3⟩ := plain_fn h
  unfold callFunc
  rw [Sem.run_bind]
  have hp : (Go.program).run Tryd.prog w = .ok Tryd.prog w := rfl
  rw [hp]
  have n1 : ¬ fn.name = "runtime.NumGoroutine" := fun e => by rw [e] at h2; simp at h2
  have n2 : ¬ fn.body = none := fun e => by rw [e] at h3; simp at h3
  simp [h1, n1, n2]

section
variable {ops : Array Oper} {o : Oper} {a : Act} {w : World} {K : Act → World → Prop} {Q : Exit → Act → World → Prop} {T : TypeId} {n : Nat}

/-- A function called, in a region that draws its order. -/
theorem draw_callF (F : FuncId) (hpl : plainFn F = true) (hw : Region.wanted o (yielded ops a.tmps) = true) (x : Operand) (xs : Array Operand) (ts : Array TypeId) (ho : o.op = Op.call { callee := .value x, args := xs, argTypes := ts }) (hx : a.eval x = .func (.func F) #[] #[])
    (args : Array Value) (ha : xs.map a.eval = args) (R : Ending → World → Prop) (hc : Calls Tryd.prog F args w R) (h : ∀ e w', R e w' → ∃ v, e = .returned v ∧ K (a.put o.dst v) w') :
    if Region.wanted o (yielded ops a.tmps) = true then Oper.wp Tryd.prog o a w K Q else K (a.put o.dst undef) w := by
  rw [if_pos hw]
  unfold Oper.wp
  have e : (execOp a.eval o).run Tryd.prog w = .ok (.enter F args) w := by
    subst ha
    have := call_plain hpl (xs.map a.eval) w
    simp [execOp, ho, resolve, Deferred.ofValue, hx, invoke, this]
  rw [e]
  refine hc.mono fun e w' hR => ?_
  obtain ⟨v, rfl, hk⟩ := h e w' hR
  exact hk

end

section
variable {P : Program} {md : Region.Mode} {ops : Array Oper} {Q : Exit → Act → World → Prop} {S : World → Prop} {X : List Nat}

/-- Those of X are all through. -/
def Thru (X : List Nat) (l : Array Bool) : Prop := ∀ k ∈ X, l.getD k true = true

/-- Whatever order is picked: `S` holds behind each operation, until those of X are all through. -/
def Rest (P : Program) (md : Region.Mode) (ops : Array Oper) (Q : Exit → Act → World → Prop) (S : World → Prop) (X : List Nat) : Nat → Array Bool → Act → World → Prop
  | 0, l, a, w => Region.ready md ops l = [] ∧ Q .normal a w
  | m + 1, l, a, w => (Region.ready md ops l = [] → Q .normal a w) ∧
      ∀ i ∈ Region.ready md ops l, wpOp P ops Q i (fun a' w' => (S w' ∨ Thru X (l.setIfInBounds i true)) ∧ Rest P md ops Q S X m (l.setIfInBounds i true) a' w') a w

theorem Rest.any : ∀ (m : Nat) (l : Array Bool) (a : Act) (w : World), Rest P md ops Q S X m l a w → wpAny P md ops Q m l a w
  | 0, _, _, _, h => h
  | m + 1, _, _, _, h => ⟨h.1, fun i hi => wpOp_mono (fun a' w' h' => Rest.any m _ a' w' h'.2) (h.2 i hi)⟩

theorem thru_set {l : Array Bool} (h : Thru X l) (i : Nat) : Thru X (l.setIfInBounds i true) := fun k hk => by
  have := h k hk
  by_cases e : i = k
  · subst e
    simp only [Array.getD_eq_getD_getElem?, Array.getElem?_setIfInBounds_self] at *
    split <;> simp_all
  · rw [getD_set_ne true e]; exact this

theorem thru_of {l : Array Bool} (h : (X.all fun k => l.getD k true) = true) : Thru X l := fun k hk => List.all_eq_true.1 h k hk

/-- Once they are through it is the plain word. -/
theorem Rest.of_any : ∀ (m : Nat) (l : Array Bool) (a : Act) (w : World), Thru X l → wpAny P md ops Q m l a w → Rest P md ops Q S X m l a w
  | 0, _, _, _, _, h => h
  | m + 1, _, _, _, ht, h => ⟨h.1, fun i hi => wpOp_mono (fun a' w' h' => ⟨.inr (thru_set ht i), Rest.of_any m _ a' w' (thru_set ht i) h'⟩) (h.2 i hi)⟩

/-- One of X, not through yet, waits for i. -/
def waitsB (md : Region.Mode) (ops : Array Oper) (l : Array Bool) (X : List Nat) (i : Nat) : Bool :=
  X.any fun k => k != i && !l.getD k true && (match ops[k]? with | some o => o.after.any (fun e => Region.binds md e && e.on == i) | none => false)

theorem waitsB_spec {l : Array Bool} {i : Nat} (h : waitsB md ops l X i = true) : ∃ k o, k ∈ X ∧ k ≠ i ∧ l.getD k true = false ∧ ops[k]? = some o ∧ ∃ e ∈ o.after, Region.binds md e = true ∧ e.on = i := by
  obtain ⟨k, hk, h1⟩ := List.any_eq_true.1 h
  simp only [Bool.and_eq_true, bne_iff_ne, ne_eq, Bool.not_eq_true'] at h1
  obtain ⟨⟨h2, h3⟩, h4⟩ := h1
  cases ho : ops[k]? with
  | none => rw [ho] at h4; cases h4
  | some o =>
    rw [ho] at h4
    obtain ⟨e, he, hb⟩ := Array.any_eq_true'.1 h4
    simp only [Bool.and_eq_true, beq_iff_eq] at hb
    exact ⟨k, o, hk, h2, h3, ho, e, he, hb.1, hb.2⟩

theorem not_ready {l : Array Bool} {i : Nat} {oj : Oper} (hi : i ∈ Region.ready md ops l) (hall : ∀ e ∈ oj.after, Region.binds md e = true → l.getD e.on false = true) : ∀ e ∈ oj.after, Region.binds md e = true → e.on ≠ i := fun e he hb heq => by
  have h1 := hall e he hb
  have h0 := (mem_ready.1 hi).1
  rw [heq] at h1
  rcases Nat.lt_or_ge i l.size with h' | h'
  · simp [h'] at h0 h1; rw [h0] at h1; cases h1
  · simp [Array.getElem?_eq_none h'] at h1

/-- What yields its value in every world that meets S, and is waited for, may be taken first; and so may what is none of X and yields in every world. -/
theorem Rest.first {i : Nat} {oi : Oper} {v : Value} (hi : ops[i]? = some oi) (hsel : ∀ (j : Nat) (o : Oper) cs b, ops[j]? = some o → o.op ≠ .select cs b)
    (hQ : ∀ c a w, Q (.panic c) (a.put oi.dst v) w → Q (.panic c) a w) (pure : Bool) (hX : pure = true → i ∉ X) :
    ∀ (m : Nat) (l : Array Bool) (a : Act) (w : World),
      (∀ j oj, ops[j]? = some oj → j ≠ i → l.getD j true = false → (∀ e ∈ oj.after, Region.binds md e = true → e.on ≠ i) → oi.apart ops oj = true) →
      (pure = false → ∃ k o, k ∈ X ∧ k ≠ i ∧ l.getD k true = false ∧ ops[k]? = some o ∧ ∃ e ∈ o.after, Region.binds md e = true ∧ e.on = i) →
      i ∈ Region.ready md ops l → YieldsIf P ops (fun w => pure = true ∨ S w) oi v a → (pure = true ∨ S w) → (S w ∨ Thru X l) →
      Rest P md ops Q S X m (l.setIfInBounds i true) (a.put oi.dst v) w → Rest P md ops Q S X (m + 1) l a w := by
  intro m
  induction m with
  | zero =>
    intro l a w _ _ hr hy hS hT H
    refine ⟨fun h => (by rw [h] at hr; cases hr), fun j hj => ?_⟩
    by_cases hji : j = i
    · subst hji; exact hy.wpOp hi hS ⟨hT.imp id fun h => thru_set h j, H⟩
    · have := ready_mono hj hji
      rw [H.1] at this
      cases this
  | succ m ih =>
    intro l a w hfree hwait hr hy hS hT H
    refine ⟨fun h => (by rw [h] at hr; cases hr), fun j hj => ?_⟩
    by_cases hji : j = i
    · subst hji; exact hy.wpOp hi hS ⟨hT.imp id fun h => thru_set h j, H⟩
    · have h1 := H.2 j (ready_mono hj hji)
      obtain ⟨hjun, oj, hoj, hall⟩ := mem_ready.1 hj
      have hnot := not_ready hr hall
      have h2 := wpOp_putIf hoj (hfree j oj hoj hji hjun hnot) (fun cs b => hsel i oi cs b hi) (fun cs b => hsel j oj cs b hoj) hQ hy h1
      have hfree' : ∀ k ok, ops[k]? = some ok → k ≠ i → (l.setIfInBounds j true).getD k true = false →
          (∀ e ∈ ok.after, Region.binds md e = true → e.on ≠ i) → oi.apart ops ok = true := fun k ok hk hki hun hno => by
        refine hfree k ok hk hki ?_ hno
        by_cases hjk : j = k
        · subst hjk; exact hjun
        · rw [getD_set_ne true hjk] at hun; exact hun
      have hwait' : pure = false → ∃ k o, k ∈ X ∧ k ≠ i ∧ (l.setIfInBounds j true).getD k true = false ∧ ops[k]? = some o ∧ ∃ e ∈ o.after, Region.binds md e = true ∧ e.on = i := fun hp => by
        obtain ⟨k, o, k1, k2, k3, k4, e, he, hb, ho⟩ := hwait hp
        refine ⟨k, o, k1, k2, ?_, k4, e, he, hb, ho⟩
        have : j ≠ k := fun hjk => by
          subst hjk
          rw [hoj] at k4; cases k4
          exact hnot e he hb ho
        rw [getD_set_ne true this]; exact k3
      refine wpOp_mono (fun a' w' h3 => ?_) h2
      obtain ⟨hy', hd, hR⟩ := h3
      rw [Array.setIfInBounds_comm _ _ (Ne.symm hji)] at hR
      have key : (pure = true ∨ S w') ∧ (S w' ∨ Thru X (l.setIfInBounds j true)) := by
        rcases hd with hd | hd
        · exact ⟨.inr hd, .inl hd⟩
        · cases hp : pure with
          | true =>
            refine ⟨.inl rfl, .inr fun k hk => ?_⟩
            have hki : i ≠ k := fun e => hX hp (e ▸ hk)
            have := hd k hk
            rw [Array.setIfInBounds_comm _ _ (Ne.symm hji), getD_set_ne true hki] at this
            exact this
          | false =>
            obtain ⟨k, o, k1, k2, k3, _⟩ := hwait' hp
            have := hd k k1
            rw [Array.setIfInBounds_comm _ _ (Ne.symm hji), getD_set_ne true (Ne.symm k2), k3] at this
            cases this
      exact ⟨key.2, ih (l.setIfInBounds j true) a' w' hfree' hwait' (ready_mono hr (Ne.symm hji)) hy' key.1 key.2 hR⟩

variable {i m : Nat} {o oi : Oper} {v : Value} {l : Array Bool} {a : Act} {w : World}

/-- Take a load first. -/
theorem Rest.takeS (hi : ops[i]? = some oi) (hs : Region.noSelect ops = true) (hf : Region.free md ops l i = true) (hr : (Region.ready md ops l).contains i = true) (hw : waitsB md ops l X i = true)
    (hQ : ∀ c a w, Q (.panic c) (a.put oi.dst v) w → Q (.panic c) a w) (hS : S w) (hy : YieldsIf P ops S oi v a)
    (h : Rest P md ops Q S X m (l.setIfInBounds i true) (a.put oi.dst v) w) : Rest P md ops Q S X (m + 1) l a w :=
  Rest.first hi (Region.noSelect_spec hs) hQ false (fun h => by cases h) m l a w (Region.free_spec hi hf) (fun _ => waitsB_spec hw) (by simpa using hr)
    (hy.imp (fun ⟨k, g⟩ => ⟨k, fun w hw => g w (hw.resolve_left (by simp))⟩) id) (.inr hS) (.inl hS) h

/-- Take what hangs on no world first. -/
theorem Rest.take (hi : ops[i]? = some oi) (hs : Region.noSelect ops = true) (hf : Region.free md ops l i = true) (hr : (Region.ready md ops l).contains i = true) (hX : X.contains i = false)
    (hQ : ∀ c a w, Q (.panic c) (a.put oi.dst v) w → Q (.panic c) a w) (hS : S w ∨ Thru X l) (hy : Yields P ops oi v a)
    (h : Rest P md ops Q S X m (l.setIfInBounds i true) (a.put oi.dst v) w) : Rest P md ops Q S X (m + 1) l a w :=
  Rest.first hi (Region.noSelect_spec hs) hQ true (fun _ => by simpa using hX) m l a w (Region.free_spec hi hf) (fun h => by cases h) (by simpa using hr)
    hy.yieldsIf (.inl rfl) hS h

/-- The one that may come up now comes up. -/
theorem Rest.one (hr : Region.ready md ops l = [i]) (ho : ops[i]? = some o)
    (h : ∀ K' : Act → World → Prop, (∀ a w, (S w ∨ Thru X (l.setIfInBounds i true)) ∧ Rest P md ops Q S X m (l.setIfInBounds i true) a w → K' a w) → if Region.wanted o (yielded ops a.tmps) = true then Oper.wp P o a w K' Q else K' (a.put o.dst undef) w) :
    Rest P md ops Q S X (m + 1) l a w :=
  ⟨fun h0 => (by rw [hr] at h0; cases h0), fun j hj => by
    rw [hr] at hj
    have hji : j = i := by simpa using hj
    subst hji
    exact wpOp_step ho h⟩

theorem Rest.begin {id : Nat} (hm : P.follows .mixedOrders = true) (h : Rest P .any ops Q S X ops.size (Array.replicate ops.size false) a w.drew) : (Code.region id ops true).wp P Q a w :=
  wp_region_any hm (Rest.any _ _ _ _ h)

/-- A row that stands in every world that meets S. -/
theorem yields_loadR {T : TypeId} {n : Nat} (hT : RowT P T n) (hw : Region.wanted o (yielded ops a.tmps) = true) (x : Operand) (ho : o.op = .load T x) (g : Nat) (hx : a.eval x = .pointer (some ⟨g, 0, none⟩)) (cs : Array Value) (hn : cs.size = n)
    (hS : ∀ w, S w → ∃ t fr, w.heap[g]? = some (.cells cs t fr)) : YieldsIf P ops S o (.agg cs) a := by
  obtain ⟨d, hu, hd⟩ := hT.und
  refine .inl ⟨hw, fun w h => ?_⟩
  obtain ⟨t, fr, hg⟩ := hS w h
  have e := run_loadVar_row (P := P) w g t T cs fr d hg hu (by cases d <;> simp_all) (by rw [hT.size, hn])
  unfold execOp
  simp only [ho, hx, Instr.loadAt, Instr.sureAddr, Sem.run_bind, Sem.run_pure, Result.andThen_ok, e]
end
end Go.Proofs.YtdkgdjdhmonccaaDoor

namespace Go.Proofs.YtdkgdjdhmonccaaDoor
open Go.RowKit Go.Sort
set_option linter.unusedVariables false
set_option linter.unusedSimpArgs false

theorem bx4 {w : World} {g : Nat} {E : TypeId} {v0 v1 v2 v3 : Value} (h : w.heap[g]? = some (.cells #[v0, v1, v2, v3] E (0, 0))) :
    w.cell? ⟨g, 0, none⟩ = some v0 ∧ w.cell? ⟨g, 1, none⟩ = some v1 ∧ w.cell? ⟨g, 2, none⟩ = some v2 ∧ w.cell? ⟨g, 3, none⟩ = some v3 :=
  ⟨by rw [cell_of_row w g 0 _ _ _ h]; rfl, by rw [cell_of_row w g 1 _ _ _ h]; rfl, by rw [cell_of_row w g 2 _ _ _ h]; rfl, by rw [cell_of_row w g 3 _ _ _ h]; rfl⟩

theorem idRight_any (w : World) (k f s r : Nat) :
    Calls Tryd.prog 15 #[.agg #[.int .u8 (k : Int), .int .u8 (f : Int), .int .u16 (s : Int), .int .u8 (r : Int)]] w fun e w' => e = .returned (.bool (riI ⟨k, f, s, r⟩)) ∧ Below w.heap.size w w' := by
  unfold riI
  dsimp only
  by_cases h1 : k ≤ 9
  · by_cases h2 : f ≤ 31
    · rw [decide_eq_true h1, decide_eq_true h2]
      go_enter Tryd.func15, Tryd.ntmps15
      go_wp2
      go_ret
      exact ⟨ret_bool (by simp; omega), bnew0 w _⟩
    · rw [decide_eq_true h1, decide_eq_false h2]
      go_enter Tryd.func15, Tryd.ntmps15
      go_wp2
      go_ret
      exact ⟨ret_bool (by simp), bnew0 w _⟩
  · rw [decide_eq_false h1]
    go_enter Tryd.func15, Tryd.ntmps15
    go_wp2
    go_ret
    exact ⟨ret_bool (by simp), bnew0 w _⟩

theorem refIdRight_any (w : World) (k f s r : Nat) :
    Calls Tryd.prog 16 #[.agg #[.int .u8 (k : Int), .int .u8 (f : Int), .int .u16 (s : Int), .int .u8 (r : Int)]] w fun e w' => e = .returned (.bool (riI ⟨k, f, s, r⟩)) ∧ Below w.heap.size w w' := by
  unfold riI
  dsimp only
  by_cases h1 : k ≤ 9
  · by_cases h2 : f ≤ 31
    · rw [decide_eq_true h1, decide_eq_true h2]
      go_enter Tryd.func16, Tryd.ntmps16
      go_wp2
      go_ret
      exact ⟨ret_bool (by simp; omega), bnew0 w _⟩
    · rw [decide_eq_true h1, decide_eq_false h2]
      go_enter Tryd.func16, Tryd.ntmps16
      go_wp2
      go_ret
      exact ⟨ret_bool (by simp), bnew0 w _⟩
  · rw [decide_eq_false h1]
    go_enter Tryd.func16, Tryd.ntmps16
    go_wp2
    go_ret
    exact ⟨ret_bool (by simp), bnew0 w _⟩

theorem rowI : RowT Tryd.prog 24 4 := rowT_of (by kernel_rfl) (by kernel_rfl)
theorem rowI4 : RowT Tryd.prog 47 4 := rowT_of (by kernel_rfl) (by kernel_rfl)

theorem new2 (w : World) (o p : Obj) : ((w.alloc o).alloc p).heap[w.heap.size + 1]? = some p := by
  have := heap_alloc_new (w.alloc o) p
  rwa [heap_size_alloc] at this

theorem apart15_any (w : World) (k f s r : Nat) (hk : k < 256) (hf : f < 256) (hs : s < 65536) (hr : r < 256) :
    Calls Tryd.prog 24 #[.agg #[.int .u8 (k : Int), .int .u8 (f : Int), .int .u16 (s : Int), .int .u8 (r : Int)]] w fun e w' => e = .returned (.agg #[.int .u32 (k : Int), .int .u32 (f : Int), .int .u32 (s : Int), .int .u32 (r : Int)]) ∧ Below w.heap.size w w' := by
  go_enter Tryd.func24, Tryd.ntmps24
  go_wp2
  exact bodyPost_ret (v := .agg #[.int .u32 (k : Int), .int .u32 (f : Int), .int .u32 (s : Int), .int .u32 (r : Int)]) (results_row rowI4 rfl _ _ (w.heap.size + 1) (by simp) (new2 w _ _) rfl) rfl ⟨rfl, bnew (bnew0 w _) _⟩

/-- The variable's cells. -/
structure WdO (w : World) : Prop where
  c0 : w.cell? ⟨0, 0, none⟩ = some (.int .u64 4)
  c1 : w.cell? ⟨0, 1, none⟩ = some (.int .u64 5)
  c2 : w.cell? ⟨0, 2, none⟩ = some (.int .u64 16)
  c3 : w.cell? ⟨0, 3, none⟩ = some (.int .u64 4)
theorem WdO.below {w w' : World} (h : WdO w) (hb : Below w.heap.size w w') : WdO w' := by
  have hl := World.block_lt_of_cell? w _ h.c0
  have e : ∀ i, w'.cell? ⟨0, i, none⟩ = w.cell? ⟨0, i, none⟩ := fun i => by
    simp only [World.cell?, hb.block _ hl]
  exact ⟨(e 0).trans h.c0, (e 1).trans h.c1, (e 2).trans h.c2, (e 3).trans h.c3⟩
theorem WdO.at {w w' : World} (h : WdO w) (hb : Below w.heap.size w w') (i : Nat) (hi : i < 4) : w'.cell? ⟨0, i, none⟩ = some (.int .u64 (([4, 5, 16, 4][i]! : Nat) : Int)) := by
  have h := h.below hb
  match i, hi with
  | 0, _ => exact h.c0
  | 1, _ => exact h.c1
  | 2, _ => exact h.c2
  | 3, _ => exact h.c3

/-- What is put together of the first parts. -/
def mkP (i : Idt) : Nat → Nat
  | 0 => 0
  | 1 => i.k
  | 2 => i.k * 32 + i.f
  | 3 => (i.k * 32 + i.f) * 65536 + i.s
  | _ => mkI i

theorem or_u32 (m x c C : Nat) (hC : C = 2 ^ c) (h : x < C) (hm : m * C + x < 4294967296) : bits .or .u32 ((m : Int) * (C : Int) % 4294967296) (x : Int) = ((m * C + x : Nat) : Int) := by
  have e : (m : Int) * (C : Int) % 4294967296 = ((m * C : Nat) : Int) := by
    rw [← Int.natCast_mul]
    omega
  have e2 : m * C ||| x = m * C + x := by
    subst hC
    rw [← Nat.shiftLeft_eq, Nat.shiftLeft_add_eq_or_of_lt h]
  rw [e, (u32_bits _ _ (by omega) (by omega)).2, e2]

theorem ix4 (a b c d : Int) (w : World) : (Instr.index 47 (.agg #[.int .u32 a, .int .u32 b, .int .u32 c, .int .u32 d]) (.int .i64 0)).run Tryd.prog w = .ok (.int .u32 a) w ∧
    (Instr.index 47 (.agg #[.int .u32 a, .int .u32 b, .int .u32 c, .int .u32 d]) (.int .i64 1)).run Tryd.prog w = .ok (.int .u32 b) w ∧
    (Instr.index 47 (.agg #[.int .u32 a, .int .u32 b, .int .u32 c, .int .u32 d]) (.int .i64 2)).run Tryd.prog w = .ok (.int .u32 c) w ∧
    (Instr.index 47 (.agg #[.int .u32 a, .int .u32 b, .int .u32 c, .int .u32 d]) (.int .i64 3)).run Tryd.prog w = .ok (.int .u32 d) w := by
  refine ⟨?_, ?_, ?_, ?_⟩ <;> kernel_rfl

set_option maxHeartbeats 1000000 in
theorem idMake_any (w : World) (hw : WdO w) (k f s r : Nat) (hk : k < 256) (hf : f < 256) (hs : s < 65536) (hr : r < 256) :
    Calls Tryd.prog 7 #[.agg #[.int .u8 (k : Int), .int .u8 (f : Int), .int .u16 (s : Int), .int .u8 (r : Int)]] w fun e w' => e = .returned (if riI ⟨k, f, s, r⟩ then .tuple #[.int .u32 (mkI ⟨k, f, s, r⟩ : Int), .int .i64 0] else .tuple #[.int .u32 0, .int .i64 150]) ∧ Below w.heap.size w w' := by
  have hb := heap_alloc_new w (.cells #[.int .u8 (k : Int), .int .u8 (f : Int), .int .u16 (s : Int), .int .u8 (r : Int)] 24)
  cases hR : riI ⟨k, f, s, r⟩
  · have cR := fun w' => idRight_any w' k f s r
    simp only [hR] at cR
    go_enter Tryd.func7, Tryd.ntmps7
    go_wp2_with (first
      | (with_reducible refine wpList_loadR rowI rfl _ rfl _ rfl hb rfl ?_)
      | (go_at_call 15; (with_reducible refine (cR _).mono ?_); rintro e w1 ⟨rfl, g1⟩))
    exact bodyPost_ret (v := .tuple #[.int .u32 0, .int .i64 150]) (by simp [results, Tryd.results7]) rfl ⟨rfl, (bnew0 w _).trans (g1.mono (by simp))⟩
  · have cR := fun w' => idRight_any w' k f s r
    simp only [hR] at cR
    have hri := riI_iff.1 hR
    dsimp only at hri
    go_enter Tryd.func7, Tryd.ntmps7
    go_wp2_with (first
      | (with_reducible refine wpList_loadR rowI rfl _ rfl _ rfl hb rfl ?_)
      | (go_at_call 15; (with_reducible refine (cR _).mono ?_); rintro e w1 ⟨rfl, g1⟩; replace hb := bx_below hb g1)
      | (go_at_call 24; (with_reducible refine (apart15_any _ k f s r hk hf hs hr).mono ?_); rintro e w2 ⟨rfl, g2⟩))
    have gg2 := ((bnew0 w (.cells #[.int .u8 (k : Int), .int .u8 (f : Int), .int .u16 (s : Int), .int .u8 (r : Int)] 24)).trans (g1.mono (by simp))).trans (g2.mono (by have := g1.size; simp at this; omega))
    clear g1 g2 hb
    obtain ⟨x0, x1, x2, x3⟩ := hw.below gg2
    go_loopg [4, 12] 4 (fun gn va vi wr => ∃ j : Nat, j ≤ 4 ∧ gn = 4 - j ∧ va = .int .u32 (mkP ⟨k, f, s, r⟩ j : Int) ∧ vi = .int .i64 (j : Int) ∧ w2 = wr)
    case atStart => exact ⟨0, by omega, by omega, rfl, rfl, rfl⟩
    case round =>
      obtain ⟨j, hj, rfl, rfl, rfl, rfl⟩ := hrel
      clear hw hR cR
      have hs0 := x0
      by_cases h4 : j < 4
      · have hj4 : j = 0 ∨ j = 1 ∨ j = 2 ∨ j = 3 := by omega
        clear hj
        obtain ⟨i0, i1, i2, i3⟩ := ix4 (k : Int) (f : Int) (s : Int) (r : Int) w2
        rcases hj4 with rfl | rfl | rfl | rfl
        · have x := x0
          clear x0 x1 x2 x3 hs0 i1 i2 i3 h4
          go_wp2
          go_roundg (4 - (0 + 1))
          case measure => omega
          case rel => exact ⟨1, by omega, by rfl, congrArg (Value.int .u32) ((or_u32 (0) k 4 16 (by decide) (by omega) (by omega)).trans (by simp [mkP, mkI])), rfl, rfl⟩
        · have x := x1
          clear x0 x1 x2 x3 hs0 i0 i2 i3 h4
          go_wp2
          go_roundg (4 - (1 + 1))
          case measure => omega
          case rel => exact ⟨2, by omega, by rfl, congrArg (Value.int .u32) ((or_u32 (k) f 5 32 (by decide) (by omega) (by omega)).trans (by simp [mkP, mkI])), rfl, rfl⟩
        · have x := x2
          clear x0 x1 x2 x3 hs0 i0 i1 i3 h4
          go_wp2
          go_roundg (4 - (2 + 1))
          case measure => omega
          case rel => exact ⟨3, by omega, by rfl, congrArg (Value.int .u32) ((or_u32 (k * 32 + f) s 16 65536 (by decide) (by omega) (by omega)).trans (by simp [mkP, mkI])), rfl, rfl⟩
        · have x := x3
          clear x0 x1 x2 x3 hs0 i0 i1 i2 h4
          go_wp2
          go_roundg (4 - (3 + 1))
          case measure => omega
          case rel => exact ⟨4, by omega, by rfl, congrArg (Value.int .u32) ((or_u32 ((k * 32 + f) * 65536 + s) r 4 16 (by decide) (by omega) (by omega)).trans (by simp [mkP, mkI])), rfl, rfl⟩
      · obtain rfl : j = 4 := by omega
        go_wp2
        exact bodyPost_ret (v := .tuple #[.int .u32 (mkP ⟨k, f, s, r⟩ 4 : Int), .int .i64 0]) (by simp [results, Tryd.results7]) rfl ⟨rfl, gg2⟩
end Go.Proofs.YtdkgdjdhmonccaaDoor

namespace Go.Proofs.YtdkgdjdhmonccaaDoor
open Go.RowKit Go.Sort
set_option linter.unusedVariables false
set_option linter.unusedSimpArgs false

theorem and_u32 (m c C : Nat) (hC : C = 2 ^ c) (h0 : 0 < C) (hC2 : C ≤ 65536) (hm : m < 4294967296) : bits .and .u32 (m : Int) (((C - 1 : Nat) : Int)) = ((m % C : Nat) : Int) := by
  rw [(u32_bits _ _ hm (by omega)).1, hC, Nat.and_two_pow_sub_one_eq_mod]

/-- What is read, part by part; noughts where there is none. -/
def rK (n : Nat) : Nat := if n < 335544320 then n / 33554432 else 0
def rF (n : Nat) : Nat := if n < 335544320 then n / 1048576 % 32 else 0
def rS (n : Nat) : Nat := if n < 335544320 then n / 16 % 65536 else 0
def rR (n : Nat) : Nat := if n < 335544320 then n % 16 else 0
def rB (n : Nat) : Bool := decide (n < 335544320)

def lfR (n : Nat) : Nat → Nat
  | 0 => n
  | 1 => n / 16
  | 2 => n / 1048576
  | 3 => n / 33554432
  | _ => n / 536870912
def tbR (n : Nat) : Nat → Array Value
  | 0 => #[.int .u32 0, .int .u32 0, .int .u32 0, .int .u32 0]
  | 1 => #[.int .u32 0, .int .u32 0, .int .u32 0, .int .u32 ((n % 16 : Nat) : Int)]
  | 2 => #[.int .u32 0, .int .u32 0, .int .u32 ((n / 16 % 65536 : Nat) : Int), .int .u32 ((n % 16 : Nat) : Int)]
  | 3 => #[.int .u32 0, .int .u32 ((n / 1048576 % 32 : Nat) : Int), .int .u32 ((n / 16 % 65536 : Nat) : Int), .int .u32 ((n % 16 : Nat) : Int)]
  | _ => #[.int .u32 ((n / 33554432 % 16 : Nat) : Int), .int .u32 ((n / 1048576 % 32 : Nat) : Int), .int .u32 ((n / 16 % 65536 : Nat) : Int), .int .u32 ((n % 16 : Nat) : Int)]

set_option maxHeartbeats 2000000 in
theorem idRead_any (w : World) (hw : WdO w) (n : Nat) (hn : n < 4294967296) :
    Calls Tryd.prog 9 #[.int .u32 (n : Int)] w fun e w' => e = .returned (.tuple #[.agg #[.int .u8 (rK n : Int), .int .u8 (rF n : Int), .int .u16 (rS n : Int), .int .u8 (rR n : Int)], .bool (rB n)]) ∧ Below w.heap.size w w' := by
  obtain ⟨w0, hw0, hb0, hb1, gg0, hsz⟩ : ∃ w0, Hid ((w.alloc (.cells #[.int .u8 0, .int .u8 0, .int .u16 0, .int .u8 0] 24)).alloc (.cells #[.int .u32 0, .int .u32 0, .int .u32 0, .int .u32 0] 47) = w0) ∧ w0.heap[w.heap.size]? = some (.cells #[.int .u8 0, .int .u8 0, .int .u16 0, .int .u8 0] 24 (0, 0)) ∧
      w0.heap[w.heap.size + 1]? = some (.cells #[.int .u32 0, .int .u32 0, .int .u32 0, .int .u32 0] 47 (0, 0)) ∧ Below w.heap.size w w0 ∧ w0.heap.size = w.heap.size + 2 := ⟨_, rfl, bx_alloc _ (heap_alloc_new w _), new2 w _ _, bnew (bnew0 w _) _, by simp⟩
  go_enter Tryd.func9, Tryd.ntmps9
  go_wp2
  rw [hw0.out]
  go_loopg [5, 6] 4 (fun gn v5 v6 wr => ∃ j : Nat, j ≤ 4 ∧ gn = 4 - j ∧ v5 = .int .u32 (lfR n j : Int) ∧ v6 = .int .i64 (3 - (j : Int)) ∧ wr.heap[w.heap.size]? = some (.cells #[.int .u8 0, .int .u8 0, .int .u16 0, .int .u8 0] 24 (0, 0)) ∧ wr.heap[w.heap.size + 1]? = some (.cells (tbR n j) 47 (0, 0)) ∧ Below w.heap.size w wr ∧ wr.heap.size = w.heap.size + 2)
  case atStart => exact ⟨0, by omega, by omega, rfl, rfl, hb0, hb1, gg0, hsz⟩
  case round =>
    clear hb0 hb1 gg0 hsz hw0
    obtain ⟨j, hj, rfl, rfl, rfl, hb0, hb1, gg, hsz⟩ := hrel
    obtain ⟨x0, x1, x2, x3⟩ := hw.below gg
    clear hw
    by_cases h4 : j < 4
    · have hj4 : j = 0 ∨ j = 1 ∨ j = 2 ∨ j = 3 := by omega
      clear hj h4
      rcases hj4 with rfl | rfl | rfl | rfl
      · clear x0 x1 x2
        have th := bx_thaw hb1 3
        have ha := and_u32 (n) 4 16 (by decide) (by decide) (by decide) (by omega)
        have hd : lfR n 0 = n := rfl
        rw [show ((16 - 1 : Nat) : Int) = 15 by decide, ← hd] at ha
        have HA := hid ha
        clear ha hd
        have hb1' := hb1
        unfold tbR at hb1'
        obtain ⟨y0, y1, y2, y3⟩ := bx4 hb1'
        clear hb1'
        generalize hl : lfR n 0 = L at *
        have HL := hid hl
        clear hl
        go_wp2
        go_roundg (4 - (0 + 1))
        case measure => omega
        case rel =>
          rw [HA.out]
          exact ⟨1, by omega, by rfl, congrArg (Value.int .u32) (by rw [← HL.out]; simp only [lfR]; omega), by rfl, (heap_setCell_other _ _ _ _ (by show w.heap.size ≠ w.heap.size + 1; omega)).trans hb0, (heap_setCell_same _ _ 3 _ _ _ hb1).trans (by rw [← HL.out]; rfl), gg.setCell (by show w.heap.size ≤ w.heap.size + 1; omega) _, (sz_set _ _ _).trans hsz⟩
      · clear x0 x1 x3
        have th := bx_thaw hb1 2
        have ha := and_u32 (n / 16) 16 65536 (by decide) (by decide) (by decide) (by omega)
        have hd : lfR n 1 = n / 16 := rfl
        rw [show ((65536 - 1 : Nat) : Int) = 65535 by decide, ← hd] at ha
        have HA := hid ha
        clear ha hd
        have hb1' := hb1
        unfold tbR at hb1'
        obtain ⟨y0, y1, y2, y3⟩ := bx4 hb1'
        clear hb1'
        generalize hl : lfR n 1 = L at *
        have HL := hid hl
        clear hl
        go_wp2
        go_roundg (4 - (1 + 1))
        case measure => omega
        case rel =>
          rw [HA.out]
          exact ⟨2, by omega, by rfl, congrArg (Value.int .u32) (by rw [← HL.out]; simp only [lfR]; omega), by rfl, (heap_setCell_other _ _ _ _ (by show w.heap.size ≠ w.heap.size + 1; omega)).trans hb0, (heap_setCell_same _ _ 2 _ _ _ hb1).trans (by rw [← HL.out]; rfl), gg.setCell (by show w.heap.size ≤ w.heap.size + 1; omega) _, (sz_set _ _ _).trans hsz⟩
      · clear x0 x2 x3
        have th := bx_thaw hb1 1
        have ha := and_u32 (n / 1048576) 5 32 (by decide) (by decide) (by decide) (by omega)
        have hd : lfR n 2 = n / 1048576 := rfl
        rw [show ((32 - 1 : Nat) : Int) = 31 by decide, ← hd] at ha
        have HA := hid ha
        clear ha hd
        have hb1' := hb1
        unfold tbR at hb1'
        obtain ⟨y0, y1, y2, y3⟩ := bx4 hb1'
        clear hb1'
        generalize hl : lfR n 2 = L at *
        have HL := hid hl
        clear hl
        go_wp2
        go_roundg (4 - (2 + 1))
        case measure => omega
        case rel =>
          rw [HA.out]
          exact ⟨3, by omega, by rfl, congrArg (Value.int .u32) (by rw [← HL.out]; simp only [lfR]; omega), by rfl, (heap_setCell_other _ _ _ _ (by show w.heap.size ≠ w.heap.size + 1; omega)).trans hb0, (heap_setCell_same _ _ 1 _ _ _ hb1).trans (by rw [← HL.out]; rfl), gg.setCell (by show w.heap.size ≤ w.heap.size + 1; omega) _, (sz_set _ _ _).trans hsz⟩
      · clear x1 x2 x3
        have th := bx_thaw hb1 0
        have ha := and_u32 (n / 33554432) 4 16 (by decide) (by decide) (by decide) (by omega)
        have hd : lfR n 3 = n / 33554432 := rfl
        rw [show ((16 - 1 : Nat) : Int) = 15 by decide, ← hd] at ha
        have HA := hid ha
        clear ha hd
        have hb1' := hb1
        unfold tbR at hb1'
        obtain ⟨y0, y1, y2, y3⟩ := bx4 hb1'
        clear hb1'
        generalize hl : lfR n 3 = L at *
        have HL := hid hl
        clear hl
        go_wp2
        go_roundg (4 - (3 + 1))
        case measure => omega
        case rel =>
          rw [HA.out]
          exact ⟨4, by omega, by rfl, congrArg (Value.int .u32) (by rw [← HL.out]; simp only [lfR]; omega), by rfl, (heap_setCell_other _ _ _ _ (by show w.heap.size ≠ w.heap.size + 1; omega)).trans hb0, (heap_setCell_same _ _ 0 _ _ _ hb1).trans (by rw [← HL.out]; rfl), gg.setCell (by show w.heap.size ≤ w.heap.size + 1; omega) _, (sz_set _ _ _).trans hsz⟩
    · obtain rfl : j = 4 := by omega
      unfold tbR at hb1
      obtain ⟨y0, y1, y2, y3⟩ := bx4 hb1
      clear x0 x1 x2 x3 hj h4
      have m0 : n / 33554432 % 16 < 16 := by omega
      have m1 : n / 1048576 % 32 < 32 := by omega
      have m2 : n / 16 % 65536 < 65536 := by omega
      have m3 : n % 16 < 16 := by omega
      obtain ⟨A, hA⟩ : ∃ A, n / 33554432 % 16 = A := ⟨_, rfl⟩
      obtain ⟨B, hB⟩ : ∃ B, n / 1048576 % 32 = B := ⟨_, rfl⟩
      obtain ⟨C, hC⟩ : ∃ C, n / 16 % 65536 = C := ⟨_, rfl⟩
      obtain ⟨D, hD⟩ : ∃ D, n % 16 = D := ⟨_, rfl⟩
      rw [hA] at m0 y0
      rw [hB] at m1 y1
      rw [hC] at m2 y2
      rw [hD] at m3 y3
      have hres : (n ≤ 536870911 ∧ riI ⟨A, B, C, D⟩ = true ∧ rK n = A ∧ rF n = B ∧ rS n = C ∧ rR n = D ∧ rB n = true) ∨ ((536870911 < n ∨ riI ⟨A, B, C, D⟩ = false) ∧ rK n = 0 ∧ rF n = 0 ∧ rS n = 0 ∧ rR n = 0 ∧ rB n = false) := by
        by_cases h : n < 335544320
        · refine .inl ⟨by omega, riI_iff.2 (by dsimp only; omega), ?_, ?_, ?_, ?_, ?_⟩ <;> simp only [rK, rF, rS, rR, rB, h, if_true, decide_true] <;> omega
        · refine .inr ⟨?_, ?_, ?_, ?_, ?_, ?_⟩
          · by_cases h2 : 536870911 < n
            · exact .inl h2
            · right
              cases hh : riI ⟨A, B, C, D⟩
              · rfl
              · have := riI_iff.1 hh
                dsimp only at this
                omega
          all_goals simp [rK, rF, rS, rR, rB, h]
      have HB1 := hid hb1
      clear hb1 hA hB hC hD
      have cR := fun w' => idRight_any w' A B C D
      go_upto_region 9 with fail
      have hi := heap_alloc_new wr (.cells #[.int .u8 (A : Int), .int .u8 (B : Int), .int .u16 (C : Int), .int .u8 (D : Int)] 24)
      replace hb0 := bx_alloc (.cells #[.int .u8 (A : Int), .int .u8 (B : Int), .int .u16 (C : Int), .int .u8 (D : Int)] 24) hb0
      have gg1 := bnew gg (.cells #[.int .u8 (A : Int), .int .u8 (B : Int), .int .u16 (C : Int), .int .u8 (D : Int)] 24)
      generalize wr.alloc (.cells #[.int .u8 (A : Int), .int .u8 (B : Int), .int .u16 (C : Int), .int .u8 (D : Int)] 24) = W1 at *
      rw [hsz] at hi
      clear y0 y1 y2 y3 gg
      rcases hres with ⟨h1, h2, e1, e2, e3, e4, e5⟩ | ⟨h1, e1, e2, e3, e4, e5⟩
      · have HE := hid (And.intro e1 (And.intro e2 (And.intro e3 (And.intro e4 e5))))
        rw [h2] at cR
        clear e1 e2 e3 e4 e5 h2
        have d1 : decide ((n : Int) > 536870911) = false := by simp; omega
        go_wp2_with (first
          | ((with_reducible refine wpList_loadW rowI ?_ _ rfl _ rfl hi rfl ?_); focus (simp [Region.wanted, yielded, Act.put]; done))
          | (with_reducible refine wpList_loadR rowI rfl _ rfl _ rfl hi rfl ?_)
          | (go_at_call 15; (with_reducible refine (cR _).mono ?_); rintro q w2 ⟨rfl, g2⟩; replace hi := bx_below hi g2; replace hb0 := bx_below hb0 g2; replace gg1 := bstep gg1 g2)
          | (with_reducible refine wpList_storeR rowI rfl _ _ rfl w.heap.size _ rfl rfl hb0 rfl rfl (by kernel_rfl) ?_))
        exact bodyPost_ret (v := .tuple #[.agg #[.int .u8 (A : Int), .int .u8 (B : Int), .int .u16 (C : Int), .int .u8 (D : Int)], .bool true]) (results_row1 rowI rfl _ _ w.heap.size rfl rfl (setRow_heap _ _ _ _ _ _ hb0) rfl) rfl ⟨by rw [HE.out.1, HE.out.2.1, HE.out.2.2.1, HE.out.2.2.2.1, HE.out.2.2.2.2], below_setRow gg1 (Nat.le_refl _) _⟩
      · have HE := hid (And.intro e1 (And.intro e2 (And.intro e3 (And.intro e4 e5))))
        clear e1 e2 e3 e4 e5
        by_cases hn2 : 536870911 < n
        · have d1 : (n : Int) > 536870911 := by omega
          clear h1 cR
          go_wp2_with (first
            | (with_reducible refine wpList_storeR rowI rfl _ _ rfl w.heap.size _ rfl rfl hb0 rfl rfl (by kernel_rfl) ?_))
          exact bodyPost_ret (v := .tuple #[.agg #[.int .u8 0, .int .u8 0, .int .u16 0, .int .u8 0], .bool false]) (results_row1 rowI rfl _ _ w.heap.size rfl rfl (setRow_heap _ _ _ _ _ _ hb0) rfl) rfl ⟨by rw [HE.out.1, HE.out.2.1, HE.out.2.2.1, HE.out.2.2.2.1, HE.out.2.2.2.2]; rfl, below_setRow gg1 (Nat.le_refl _) _⟩
        · have h2 := h1.resolve_left hn2
          rw [h2] at cR
          have d1 : ¬ (n : Int) > 536870911 := by omega
          clear h1 h2
          go_wp2_with (first
            | ((with_reducible refine wpList_loadW rowI ?_ _ rfl _ rfl hi rfl ?_); focus (simp [Region.wanted, yielded, Act.put]; done))
            | (go_at_call 15; (with_reducible refine (cR _).mono ?_); rintro q w2 ⟨rfl, g2⟩; replace hi := bx_below hi g2; replace hb0 := bx_below hb0 g2; replace gg1 := bstep gg1 g2)
            | (with_reducible refine wpList_storeR rowI rfl _ _ rfl w.heap.size _ rfl rfl hb0 rfl rfl (by kernel_rfl) ?_))
          exact bodyPost_ret (v := .tuple #[.agg #[.int .u8 0, .int .u8 0, .int .u16 0, .int .u8 0], .bool false]) (results_row1 rowI rfl _ _ w.heap.size rfl rfl (setRow_heap _ _ _ _ _ _ hb0) rfl) rfl ⟨by rw [HE.out.1, HE.out.2.1, HE.out.2.2.1, HE.out.2.2.2.1, HE.out.2.2.2.2]; rfl, below_setRow gg1 (Nat.le_refl _) _⟩
end Go.Proofs.YtdkgdjdhmonccaaDoor

namespace Go.Proofs.YtdkgdjdhmonccaaDoor
open Go.RowKit Go.Sort
set_option linter.unusedVariables false
set_option linter.unusedSimpArgs false

set_option maxRecDepth 100000 in
theorem refIdMake_any (w : World) (k f s r : Nat) (hk : k < 256) (hf : f < 256) (hs : s < 65536) (hr : r < 256) :
    Calls Tryd.prog 8 #[.agg #[.int .u8 (k : Int), .int .u8 (f : Int), .int .u16 (s : Int), .int .u8 (r : Int)]] w fun e w' => e = .returned (if riI ⟨k, f, s, r⟩ then .tuple #[.int .u32 (mkI ⟨k, f, s, r⟩ : Int), .int .i64 0] else .tuple #[.int .u32 0, .int .i64 150]) ∧ Below w.heap.size w w' := by
  have hb := heap_alloc_new w (.cells #[.int .u8 (k : Int), .int .u8 (f : Int), .int .u16 (s : Int), .int .u8 (r : Int)] 24)
  have cR := fun w' => refIdRight_any w' k f s r
  cases hR : riI ⟨k, f, s, r⟩
  · simp only [hR] at cR
    go_enter Tryd.func8, Tryd.ntmps8
    go_wp2_with (first
      | (with_reducible refine wpList_loadR rowI rfl _ rfl _ rfl hb rfl ?_)
      | (go_at_call 16; (with_reducible refine (cR _).mono ?_); rintro e w1 ⟨rfl, g1⟩))
    exact bodyPost_ret (v := .tuple #[.int .u32 0, .int .i64 150]) (by simp [results, Tryd.results8]) rfl ⟨rfl, (bnew0 w _).trans (g1.mono (by simp))⟩
  · simp only [hR] at cR
    have hri := riI_iff.1 hR
    dsimp only at hri
    obtain ⟨S1, e1⟩ : ∃ S : Nat, k * 32 + f = S := ⟨_, rfl⟩
    obtain ⟨S2, e2⟩ : ∃ S : Nat, S1 * 65536 + s = S := ⟨_, rfl⟩
    obtain ⟨S3, e3⟩ : ∃ S : Nat, S2 * 16 + r = S := ⟨_, rfl⟩
    have HM : Hid (mkI ⟨k, f, s, r⟩ = S3) := by unfold mkI; dsimp only; rw [e1, e2, e3]; exact rfl
    have b1 : S1 < 4096 := by omega
    have b2 : S2 < 268435456 := by omega
    have b3 : S3 < 4294967296 := by omega
    have f1 : (k : Int) * 32 + f = S1 := by omega
    have f2 : (S1 : Int) * 65536 + s = S2 := by omega
    have f3 : (S2 : Int) * 16 + r = S3 := by omega
    clear hR e1 e2 e3
    go_enter Tryd.func8, Tryd.ntmps8
    go_wp2_with (first
      | (with_reducible refine wpList_loadR rowI rfl _ rfl _ rfl hb rfl ?_)
      | (go_at_call 16; (with_reducible refine (cR _).mono ?_); rintro e w1 ⟨rfl, g1⟩; obtain ⟨x0, x1, x2, x3⟩ := bx4 (bx_below hb g1)))
    exact bodyPost_ret (v := .tuple #[.int .u32 (S3 : Int), .int .i64 0]) (by simp [results, Tryd.results8]) rfl ⟨by rw [HM.out], (bnew0 w _).trans (g1.mono (by simp))⟩

theorem refIdRead_any (w : World) (n : Nat) (hn : n < 4294967296) :
    Calls Tryd.prog 10 #[.int .u32 (n : Int)] w fun e w' => e = .returned (.tuple #[.agg #[.int .u8 (rK n : Int), .int .u8 (rF n : Int), .int .u16 (rS n : Int), .int .u8 (rR n : Int)], .bool (rB n)]) ∧ Below w.heap.size w w' := by
  have m1 : n / 1048576 % 32 < 32 := by omega
  have m2 : n / 16 % 65536 < 65536 := by omega
  have m3 : n % 16 < 16 := by omega
  by_cases hl : n < 335544320
  · have e1 : rK n = n / 33554432 := by simp [rK, hl]
    have e2 : rF n = n / 1048576 % 32 := by simp [rF, hl]
    have e3 : rS n = n / 16 % 65536 := by simp [rS, hl]
    have e4 : rR n = n % 16 := by simp [rR, hl]
    have e5 : rB n = true := by simp [rB, hl]
    rw [e1, e2, e3, e4, e5]
    clear e1 e2 e3 e4 e5
    have m0 : n / 33554432 < 10 := by omega
    obtain ⟨A, hA⟩ : ∃ A, n / 33554432 = A := ⟨_, rfl⟩
    obtain ⟨B, hB⟩ : ∃ B, n / 1048576 % 32 = B := ⟨_, rfl⟩
    obtain ⟨C, hC⟩ : ∃ C, n / 16 % 65536 = C := ⟨_, rfl⟩
    obtain ⟨D, hD⟩ : ∃ D, n % 16 = D := ⟨_, rfl⟩
    rw [hA] at m0 ⊢
    rw [hB] at m1 ⊢
    rw [hC] at m2 ⊢
    rw [hD] at m3 ⊢
    have a1 : (n : Int) % 16 = (D : Int) := by omega
    have a2 : (n : Int) / 16 % 65536 = (C : Int) := by omega
    have a3 : (n : Int) / 1048576 % 32 = (B : Int) := by omega
    have a0 : (n : Int) / 33554432 = (A : Int) := by omega
    clear hA hB hC hD hl
    go_enter Tryd.func10, Tryd.ntmps10
    go_upto_region 6 with fail
    have b0 := bx_alloc (.cells #[.int .u8 (A : Int), .int .u8 (B : Int), .int .u16 (C : Int), .int .u8 (D : Int)] 24) (heap_alloc_new w (.cells #[.int .u8 0, .int .u8 0, .int .u16 0, .int .u8 0] 24))
    have b1 := new2 w (.cells #[.int .u8 0, .int .u8 0, .int .u16 0, .int .u8 0] 24) (.cells #[.int .u8 (A : Int), .int .u8 (B : Int), .int .u16 (C : Int), .int .u8 (D : Int)] 24)
    have gg := bnew (bnew0 w (.cells #[.int .u8 0, .int .u8 0, .int .u16 0, .int .u8 0] 24)) (.cells #[.int .u8 (A : Int), .int .u8 (B : Int), .int .u16 (C : Int), .int .u8 (D : Int)] 24)
    generalize (w.alloc (.cells #[.int .u8 0, .int .u8 0, .int .u16 0, .int .u8 0] 24)).alloc _ = W1 at *
    go_wp2_with (first
      | (with_reducible refine wpList_loadR rowI rfl _ rfl _ rfl b1 rfl ?_)
      | (with_reducible refine wpList_storeR rowI rfl _ _ rfl w.heap.size _ rfl rfl b0 rfl rfl (by kernel_rfl) ?_))
    exact bodyPost_ret (v := .tuple #[.agg #[.int .u8 (A : Int), .int .u8 (B : Int), .int .u16 (C : Int), .int .u8 (D : Int)], .bool true]) (results_row1 rowI rfl _ _ w.heap.size rfl rfl (setRow_heap _ _ _ _ _ _ b0) rfl) rfl ⟨rfl, below_setRow gg (Nat.le_refl _) _⟩
  · have e1 : rK n = 0 := by simp [rK, hl]
    have e2 : rF n = 0 := by simp [rF, hl]
    have e3 : rS n = 0 := by simp [rS, hl]
    have e4 : rR n = 0 := by simp [rR, hl]
    have e5 : rB n = false := by simp [rB, hl]
    rw [e1, e2, e3, e4, e5]
    clear e1 e2 e3 e4 e5
    have m0 : ¬ (n : Int) / 33554432 ≤ 9 := by omega
    go_enter Tryd.func10, Tryd.ntmps10
    go_upto_region 4 with fail
    have b0 := bx_alloc (.cells #[.int .u8 0, .int .u8 ((n : Int) / 1048576 % 32), .int .u16 ((n : Int) / 16 % 65536), .int .u8 ((n : Int) % 16)] 24) (heap_alloc_new w (.cells #[.int .u8 0, .int .u8 0, .int .u16 0, .int .u8 0] 24))
    have gg := bnew (bnew0 w (.cells #[.int .u8 0, .int .u8 0, .int .u16 0, .int .u8 0] 24)) (.cells #[.int .u8 0, .int .u8 ((n : Int) / 1048576 % 32), .int .u16 ((n : Int) / 16 % 65536), .int .u8 ((n : Int) % 16)] 24)
    generalize (w.alloc (.cells #[.int .u8 0, .int .u8 0, .int .u16 0, .int .u8 0] 24)).alloc _ = W1 at *
    go_wp2_with (first
      | (with_reducible refine wpList_storeR rowI rfl _ _ rfl w.heap.size _ rfl rfl b0 rfl rfl (by kernel_rfl) ?_))
    exact bodyPost_ret (v := .tuple #[.agg #[.int .u8 0, .int .u8 0, .int .u16 0, .int .u8 0], .bool false]) (results_row1 rowI rfl _ _ w.heap.size rfl rfl (setRow_heap _ _ _ _ _ _ b0) rfl) rfl ⟨rfl, below_setRow gg (Nat.le_refl _) _⟩

theorem refIdLess_any (w : World) (k f s r k2 f2 s2 r2 : Nat) :
    Calls Tryd.prog 19 #[.agg #[.int .u8 (k : Int), .int .u8 (f : Int), .int .u16 (s : Int), .int .u8 (r : Int)], .agg #[.int .u8 (k2 : Int), .int .u8 (f2 : Int), .int .u16 (s2 : Int), .int .u8 (r2 : Int)]] w fun e w' => e = .returned (.bool (lsI ⟨k, f, s, r⟩ ⟨k2, f2, s2, r2⟩)) ∧ Below w.heap.size w w' := by
  have gg := bnew (bnew0 w (.cells #[.int .u8 (k : Int), .int .u8 (f : Int), .int .u16 (s : Int), .int .u8 (r : Int)] 24)) (.cells #[.int .u8 (k2 : Int), .int .u8 (f2 : Int), .int .u16 (s2 : Int), .int .u8 (r2 : Int)] 24)
  unfold lsI
  dsimp only
  by_cases h1 : k = k2
  · subst h1
    by_cases h2 : f = f2
    · subst h2
      by_cases h3 : s = s2
      · subst h3
        go_enter Tryd.func19, Tryd.ntmps19
        go_wp2
        go_ret
        exact ⟨ret_bool (by simp), gg⟩
      · have d : ((s : Int) != s2) = true := by simp; omega
        have H := hid h3
        clear h3
        go_enter Tryd.func19, Tryd.ntmps19
        go_wp2
        go_ret
        exact ⟨ret_bool (by simp [H.out]), gg⟩
    · have d : ((f : Int) != f2) = true := by simp; omega
      have H := hid h2
      clear h2
      go_enter Tryd.func19, Tryd.ntmps19
      go_wp2
      go_ret
      exact ⟨ret_bool (by simp [H.out]), gg⟩
  · have d : ((k : Int) != k2) = true := by simp; omega
    have H := hid h1
    clear h1
    go_enter Tryd.func19, Tryd.ntmps19
    go_wp2
    go_ret
    exact ⟨ret_bool (by simp [H.out]), gg⟩
end Go.Proofs.YtdkgdjdhmonccaaDoor
