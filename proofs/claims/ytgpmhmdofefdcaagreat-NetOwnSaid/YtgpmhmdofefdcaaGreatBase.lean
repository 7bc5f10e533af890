/-
  Words and laws that all proofs of this seat use: a slice of one-cell elements that reads as a list ('RL'), one that the call itself owns ('OL'),
  and laws for the walk on cutting, making, appending to and copying such slices. Nothing here speaks of one function of the program.
-/
import Derived.Test.YtgpmhmdofefdcaaGreatRows
import Derived.WalkKit
import Derived.ProofKit
import Derived.OpenShut
import Derived.Laws.AppendOwnNone
import Derived.Laws.CopyOwn
import Derived.Deep.Grids
import Derived.Deep.DeepAppendRoom
import Derived.Deep.LoopGhost
import Derived.Deep.RegionHeld3
import Derived.Deep.RegionWith
import Derived.Deep.Cut
namespace Go.Proofs.YtgpmhmdofefdcaaGreat
open Go.RowKit

theorem hid {p : Prop} (h : p) : Hid p := h
theorem u32_bits (a b : Nat) (ha : a < 4294967296) (hb : b < 4294967296) : bits .and .u32 a b = ((a &&& b : Nat) : Int) ∧ bits .or .u32 a b = ((a ||| b : Nat) : Int) :=
  bits_nat .u32 32 (by decide) (fun n h0 h1 => IntWalk.u32_in n (by omega)) a b ha hb
theorem u8_bits (a b : Nat) (ha : a < 256) (hb : b < 256) : bits .and .u8 a b = ((a &&& b : Nat) : Int) ∧ bits .or .u8 a b = ((a ||| b : Nat) : Int) :=
  bits_nat .u8 8 (by decide) (fun n h0 h1 => IntWalk.u8_in n (by omega)) a b ha hb
theorem ret_bool {a b : Bool} (h : a = b) : Ending.returned (.bool a) = .returned (.bool b) := by rw [h]
theorem ret_int {k : IntKind} {a b : Int} (h : a = b) : Ending.returned (.int k a) = .returned (.int k b) := by rw [h]
theorem ret_str {a b : ByteArray} (h : a = b) : Ending.returned (.string a) = .returned (.string b) := by rw [h]

theorem bstep {w w' w'' : World} (h : Below w.heap.size w w') (h2 : Below w'.heap.size w' w'') : Below w.heap.size w w'' := h.trans (h2.mono h.size)
theorem bnew {w w' : World} (h : Below w.heap.size w w') (o : Obj) : Below w.heap.size w (w'.alloc o) := h.alloc h.size o
theorem bnew0 (w : World) (o : Obj) : Below w.heap.size w (w.alloc o) := (Below.refl _ _).alloc (Nat.le_refl _) o

/-- What is known of an element type and of the slices of it: one closed fact per type. -/
structure ElT (P : Program) (T E : TypeId) (z : Value) (bytes : Nat) : Prop where
  und : P.underlying T = some (.slice E)
  el : P.elem T = E
  size : P.cellsOf E = 1
  info : (P.info? E).map (fun i => (i.zero, i.size, i.bytes)) = some (some z, 1, bytes)
  zc : z.cells.size = 1

/-- '.slice a n c' reads, at w, as the list l of elements that f writes. -/
structure RL {α : Type} (f : α → Value) (w : World) (a : Option Addr) (n c : Nat) (l : List α) : Prop where
  len : l.length = n
  cap : n ≤ c
  cell : 0 < n → ∃ b off, a = some ⟨b, off, none⟩ ∧ b < w.heap.size ∧ ∀ i x, l[i]? = some x → w.cell? ⟨b, off + i, none⟩ = some (f x)

/-- '.slice a n c' is a row of the call's own, from block B on, that reads as l. -/
def OL {α : Type} (f : α → Value) (E : TypeId) (B : Nat) (w : World) (a : Option Addr) (n c : Nat) (l : List α) : Prop :=
  l.length = n ∧ n ≤ c ∧ w.ownsRow B E 1 (.slice a n c) n (l.map f)

section
variable {α : Type} {f : α → Value} {E : TypeId} {B : Nat} {w w' : World} {a : Option Addr} {n c : Nat} {l : List α}

theorem RL.at (h : RL f w a n c l) {k : Nat} (hk : k < n) :
    ∃ b off x, a = some ⟨b, off, none⟩ ∧ l[k]? = some x ∧ w.cell? ⟨b, off + k, none⟩ = some (f x) := by
  obtain ⟨b, off, ha, hb, hc⟩ := h.cell (by omega)
  have hl : k < l.length := by rw [h.len]; exact hk
  exact ⟨b, off, l[k], ha, by simp [hl], hc k _ (by simp [hl])⟩

theorem RL.nil (f : α → Value) (w : World) (a : Option Addr) (c : Nat) : RL f w a 0 c [] := ⟨rfl, Nat.zero_le _, fun h => absurd h (by omega)⟩

/-- What reads below B reads on. -/
theorem RL.below (h : RL f w a n c l) (hb : Below w.heap.size w w') : RL f w' a n c l :=
  ⟨h.len, h.cap, fun hn => by
    obtain ⟨b, off, ha, hlt, hc⟩ := h.cell hn
    exact ⟨b, off, ha, Nat.lt_of_lt_of_le hlt hb.size, fun i x hx => (hb.cell (p := ⟨b, off + i, none⟩) hlt).trans (hc i x hx)⟩⟩

theorem RL.drew (h : RL f w a n c l) : RL f w.drew a n c l := ⟨h.len, h.cap, h.cell⟩

theorem OL.drew (h : OL f E B w a n c l) : OL f E B w.drew a n c l := h

theorem OL.len (h : OL f E B w a n c l) : l.length = n := h.1
theorem OL.cap (h : OL f E B w a n c l) : n ≤ c := h.2.1
theorem OL.own (h : OL f E B w a n c l) : w.ownsRow B E 1 (.slice a n c) n (l.map f) := h.2.2

theorem OL.rl (h : OL f E B w a n c l) : RL f w a n c l := by
  refine ⟨h.len, h.cap, fun hn => ?_⟩
  have ho := h.own
  rcases ho.2 with ⟨h', h0⟩ | ⟨g, cap, cur, h', hb, hg, hnc, hcm, hcs, htake⟩
  · omega
  · simp only [Value.slice.injEq, true_and] at h'
    obtain ⟨rfl, rfl⟩ := h'
    refine ⟨g, 0, rfl, (Array.getElem?_eq_some_iff.1 hg).1, fun i x hx => ?_⟩
    have hi : i < l.length := (List.getElem?_eq_some_iff.1 hx).1
    rw [Nat.zero_add, ho.cellAt i (by rw [Nat.mul_one, ← h.len]; exact hi), List.getElem?_map, hx]
    rfl

theorem OL.mono {B' : Nat} (h : OL f E B w a n c l) (hB : B' ≤ B) : OL f E B' w a n c l := by
  refine ⟨h.len, h.cap, h.own.1, ?_⟩
  rcases h.own.2 with hn | ⟨g, cap, cur, hv, hb, rest⟩
  · exact .inl hn
  · exact .inr ⟨g, cap, cur, hv, Nat.le_trans hB hb, rest⟩

/-- What the call owns is still owned behind whatever leaves all blocks of now as they are. -/
theorem OL.below (h : OL f E B w a n c l) (hb : Below w.heap.size w w') : OL f E B w' a n c l := by
  refine ⟨h.len, h.cap, h.own.1, ?_⟩
  rcases h.own.2 with hn | ⟨g, cap, cur, hv, hB, hg, rest⟩
  · exact .inl hn
  · exact .inr ⟨g, cap, cur, hv, hB, by rw [hb.block g (Array.getElem?_eq_some_iff.1 hg).1]; exact hg, rest⟩

theorem OL.alloc (h : OL f E B w a n c l) (o : Obj) : OL f E B (w.alloc o) a n c l := ⟨h.len, h.cap, h.own.alloc o⟩

theorem OL.nil (f : α → Value) (E : TypeId) (B : Nat) (w : World) : OL f E B w none 0 0 [] := ⟨rfl, Nat.le_refl _, World.ownsRow_nil _ _ _ _⟩

/-- The address of what is owned: nil, or the head of a block. -/
theorem OL.ex (h : OL f E B w a n c l) : (a = none ∧ n = 0 ∧ c = 0 ∧ l = []) ∨ ∃ g cur, a = some ⟨g, 0, none⟩ ∧ B ≤ g ∧ w.heap[g]? = some (.cells cur E (0, 0)) ∧ cur.size = c := by
  rcases h.own.2 with ⟨h', h0⟩ | ⟨g, cap, cur, h', hb, hg, hnc, hcm, hcs, htake⟩
  · simp only [Value.slice.injEq] at h'
    obtain ⟨rfl, _, rfl⟩ := h'
    subst h0
    exact .inl ⟨rfl, rfl, rfl, List.eq_nil_of_length_eq_zero h.len⟩
  · simp only [Value.slice.injEq, true_and] at h'
    obtain ⟨rfl, rfl⟩ := h'
    exact .inr ⟨g, cur, rfl, hb, hg, by simpa using hcs⟩

theorem of_ownsRow {v : Value} {xs : List Value} (h : w.ownsRow B E 1 v n xs) (hx : xs = l.map f) : ∃ a c, v = .slice a n c ∧ OL f E B w a n c l := by
  subst hx
  have hl : l.length = n := by simpa using h.1
  rcases h.2 with ⟨rfl, h0⟩ | ⟨g, cap, cur, rfl, hb, hg, hnc, hcm, hcs, htake⟩
  · subst h0
    exact ⟨none, 0, rfl, hl, Nat.le_refl _, h⟩
  · exact ⟨some ⟨g, 0, none⟩, cap, rfl, hl, hnc, h⟩
end

section
variable {α : Type} {f : α → Value} {E T : TypeId} {z : Value} {bytes : Nat} {B : Nat} {w : World} {P : Program} {l m : List α} {n c : Nat} {a : Option Addr}

theorem run_len_sl (hT : ElT P T E z bytes) (ty : TypeId) (v : Option Addr) (n c : Nat) (w : World) : (Builtin.len_ #[T] ty #[.slice v n c]).run P w = .ok (goInt n) w :=
  run_len_slice w T ty v n c (by rw [hT.und, hT.el])

/-- 'append(v, x...)', v of the call's own, x whatever reads as a list. -/
theorem wp_app {o : Oper} {ac : Act} {K : Act → World → Prop} {Q : Exit → Act → World → Prop} (hT : ElT P T E z bytes) (s x : Operand)
    (ho : o.op = .call { callee := .builtin .append, args := #[s, x], argTypes := #[T, T] })
    {a2 : Option Addr} {n2 c2 : Nat} (hs : ac.eval s = .slice a n c) (hown : OL f E B w a n c l) (hx : ac.eval x = .slice a2 n2 c2) (hr : RL f w a2 n2 c2 m)
    (h1 : ∀ u, (f u).oneCell' = true) (h63 : n + n2 ≤ 1000000000) (hby : bytes ≤ 64) (hbase : B ≤ w.heap.size)
    (h : ∀ w' a' c', OL f E B w' a' (n + n2) c' (l ++ m) → Below B w w' → K (ac.put o.dst (.slice a' (n + n2) c')) w') : o.wp P ac w K Q := by
  obtain ⟨i, hi, hz0, hz1, hz2⟩ := info_parts hT.info
  have hbl : ∀ k, (Value.slice a n c).ownBlock = some k → B ≤ k := fun k hk => (hown.own.lt k hk).1
  by_cases h0 : n2 = 0
  · subst h0
    have hm : m = [] := List.eq_nil_of_length_eq_zero hr.len
    subst hm
    have hrun : (Builtin.append_ #[T, T] o.type #[.slice a n c, .slice a2 0 c2]).run P w = .ok (.slice a n c) w := by
      rcases hown.own.2 with ⟨h', h0⟩ | ⟨g, cap, cur, h', _, _, hnc, _⟩
      · simp only [Value.slice.injEq] at h'
        obtain ⟨rfl, rfl, rfl⟩ := h'
        cases a2 <;> simp [Builtin.append_, run_underlying hT.und, sizeOf, typeInfo, hi, Builtin.lenOf, Builtin.firstCells, loadCells, loadCellsFrom]
      · simp only [Value.slice.injEq, true_and] at h'
        obtain ⟨rfl, rfl⟩ := h'
        cases a2 <;> simp [Builtin.append_, run_underlying hT.und, sizeOf, typeInfo, hi, Builtin.lenOf, Builtin.firstCells, hnc, storeCells, loadCells, loadCellsFrom]
    unfold Oper.wp
    simp [execOp, ho, resolve, invoke, builtin, hs, hx, hrun, Result.andThen]
    show K _ _
    simpa using h w a c (by simpa using hown) (Below.refl _ _)
  · obtain ⟨b, off, rfl, hb, hc⟩ := hr.cell (by omega)
    refine wp_append_own _ s x T ho B E i z 1 bytes hT.und hi hz0 hz1 hz2 hT.zc (by decide) (.slice a n c) n (l.map f) hs hown.own ⟨b, off, none⟩ n2 c2 (m.map f) hx (by simp [hr.len]) ?_ ?_ (by unfold maxLen; omega) ?_ hbase ?_
    · intro j u hu
      rw [List.getElem?_map] at hu
      cases hj : m[j]? with
      | none => rw [hj] at hu; cases hu
      | some y =>
        rw [hj] at hu
        simp only [Option.map_some, Option.some.injEq] at hu
        subst hu
        rw [Addr.add_lit]
        exact hc j y hj
    · intro u hu
      obtain ⟨y, _, rfl⟩ := List.mem_map.1 hu
      exact h1 y
    · have := Nat.mul_le_mul h63 hby
      omega
    · intro v' w' hown' hg _
      obtain ⟨a', c', rfl, hol⟩ := of_ownsRow (f := f) (l := l ++ m) hown' (by simp)
      exact h w' a' c' hol ((Below.refl B w).grown hg hbase hbl)

theorem wpList_app {ops : Array Oper} {rest : List Oper} {o : Oper} {ac : Act} {Q : Exit → Act → World → Prop} (hT : ElT P T E z bytes) (hgd : o.guard = none) (s x : Operand)
    (ho : o.op = .call { callee := .builtin .append, args := #[s, x], argTypes := #[T, T] })
    {a2 : Option Addr} {n2 c2 : Nat} (hs : ac.eval s = .slice a n c) (hown : OL f E B w a n c l) (hx : ac.eval x = .slice a2 n2 c2) (hr : RL f w a2 n2 c2 m)
    (h1 : ∀ u, (f u).oneCell' = true) (h63 : n + n2 ≤ 1000000000) (hby : bytes ≤ 64) (hbase : B ≤ w.heap.size)
    (h : ∀ w' a' c', OL f E B w' a' (n + n2) c' (l ++ m) → Below B w w' → wpList P ops Q rest (ac.put o.dst (.slice a' (n + n2) c')) w') : wpList P ops Q (o :: rest) ac w :=
  wpList_plain hgd fun _ hK => wp_app hT s x ho hs hown hx hr h1 h63 hby hbase fun w' a' c' h2 h3 => hK _ _ (h w' a' c' h2 h3)

/-- The same as one step of a region that draws its order. -/
theorem step_app {ops : Array Oper} {o : Oper} {ac : Act} {K : Act → World → Prop} {Q : Exit → Act → World → Prop} {R : Prop} (hT : ElT P T E z bytes) (hgd : o.guard = none) (s x : Operand)
    (ho : o.op = .call { callee := .builtin .append, args := #[s, x], argTypes := #[T, T] })
    {a2 : Option Addr} {n2 c2 : Nat} (hs : ac.eval s = .slice a n c) (hown : OL f E B w a n c l) (hx : ac.eval x = .slice a2 n2 c2) (hr : RL f w a2 n2 c2 m)
    (h1 : ∀ u, (f u).oneCell' = true) (h63 : n + n2 ≤ 1000000000) (hby : bytes ≤ 64) (hbase : B ≤ w.heap.size)
    (h : ∀ w' a' c', OL f E B w' a' (n + n2) c' (l ++ m) → Below B w w' → K (ac.put o.dst (.slice a' (n + n2) c')) w') :
    if Region.wanted o (yielded ops ac.tmps) = true then Oper.wp P o ac w K Q else R := by
  rw [if_pos (by simp [Region.wanted, hgd])]
  exact wp_app hT s x ho hs hown hx hr h1 h63 hby hbase h

/-- 'make([]T, n)': n zero elements, all of the call's own. -/
theorem wpList_mk {ops : Array Oper} {rest : List Oper} {o : Oper} {ac : Act} {Q : Exit → Act → World → Prop} (hT : ElT P T E z bytes) (z0 : α) (hz : z.cells = #[f z0])
    (hgd : o.guard = none) (lo co : Operand) (ho : o.op = Op.makeSlice T lo co) (L C : Int) (kl kc : IntKind) (hl : ac.eval lo = .int kl L) (hc : ac.eval co = .int kc C) (hL : L = (n : Int)) (hC : C = (n : Int))
    (h63 : n ≤ 1000000000) (hby : bytes ≤ 64)
    (h : ∀ w', OL f E w.heap.size w' (some ⟨w.heap.size, 0, none⟩) n n (List.replicate n z0) → Below w.heap.size w w' → w'.heap.size = w.heap.size + 1 → wpList P ops Q rest (ac.put o.dst (.slice (some ⟨w.heap.size, 0, none⟩) n n)) w') :
    wpList P ops Q (o :: rest) ac w := by
  obtain ⟨i, hi, hz0, hz1, hz2⟩ := info_parts hT.info
  subst hL
  subst hC
  refine wpList_plain hgd fun K hK' => ?_
  have hb2 : ((i.bytes * n : Nat) : Int) ≤ 281474976710656 := by
    have := Nat.mul_le_mul hby h63
    rw [hz2]; omega
  have hr := run_make (P := P) w T E i z hT.und hi hz0 kl kc n n (by omega) (Int.le_refl _) (by rw [Int.natCast_mul] at hb2; exact hb2) (by omega)
  unfold Oper.wp
  simp [execOp, ho, hl, hc, hr, Result.andThen]
  have hcz : (madeCells z.cells (n * i.size)).toList = (List.replicate n z0).map f := by rw [hz, toList_madeCells_one]; simp [hz1]
  have ho := World.ownsRow_lit (base := w.heap.size) (e := E) (size := 1) w (madeCells z.cells (n * i.size)) n (Nat.le_refl _) (by unfold maxLen; omega) (by rw [size_madeCells, hz1])
  have hk := h (w.alloc (.cells (madeCells z.cells (n * i.size)) E)) ⟨by simp, Nat.le_refl _, by rw [← hcz]; exact ho⟩ ((Below.refl _ _).alloc (Nat.le_refl _) _) (by simp)
  exact hK' _ _ hk

/-- A cut of what reads as a list reads as the part. -/
theorem RL.sliced (hr : RL f w a n c l) (lo hi s : Nat) (hs : s = 1) (h1 : lo ≤ hi) (h2 : hi ≤ n) :
    ∃ a', Go.sliced a lo hi c s = .slice a' (hi - lo) (c - lo) ∧ RL f w a' (hi - lo) (c - lo) ((l.take hi).drop lo) := by
  subst hs
  refine ⟨_, rfl, by simp [hr.len]; omega, by have := hr.cap; omega, fun hp => ?_⟩
  obtain ⟨b, off, rfl, hb, hc⟩ := hr.cell (by omega)
  have hne : ¬ c = lo := by have := hr.cap; omega
  rw [if_neg hne]
  refine ⟨b, off + lo, by simp [Addr.add_lit], hb, fun i x hx => ?_⟩
  rw [List.getElem?_drop, List.getElem?_take] at hx
  split at hx
  · rw [Nat.add_assoc]; exact hc _ _ hx
  · cases hx

theorem run_sizeOf_el (hT : ElT P T E z bytes) (w : World) : (sizeOf (P.elem T)).run P w = .ok 1 w := by
  obtain ⟨i, hi, hz0, hz1, hz2⟩ := info_parts hT.info
  rw [hT.el]
  simp [sizeOf, typeInfo, hi, hz1]

/-- 'v[lo:hi]', 'v[:hi]', 'v[lo:]' of what reads as a list. -/
theorem wpList_cut {ops : Array Oper} {rest : List Oper} {o : Oper} {ac : Act} {Q : Exit → Act → World → Prop} (hT : ElT P T E z bytes) (hgd : o.guard = none) (s lo hi : Operand)
    (ho : o.op = .slice T s (some lo) (some hi) none) (kl kh : IntKind) (L H : Int) (l0 h0 : Nat) (hs : ac.eval s = .slice a n c) (hl : ac.eval lo = .int kl L) (hh : ac.eval hi = .int kh H) (hL : L = (l0 : Int)) (hH : H = (h0 : Int))
    (hr : RL f w a n c l) (h1 : l0 ≤ h0) (h2 : h0 ≤ n) (N : Nat) (hN : h0 - l0 = N)
    (h : ∀ a' c', RL f w a' N c' ((l.take h0).drop l0) → wpList P ops Q rest (ac.put o.dst (.slice a' N c')) w) : wpList P ops Q (o :: rest) ac w := by
  subst hL
  subst hH
  subst hN
  refine wpList_plain hgd fun K hK => ?_
  obtain ⟨a', he, hr'⟩ := hr.sliced l0 h0 1 rfl h1 h2
  have hu : P.underlying T = some (.slice (P.elem T)) := by rw [hT.und, hT.el]
  have hrun := run_slice_lh (P := P) w T a n c hu kl kh l0 h0 (by omega) (by omega) (by have := hr.cap; omega)
  unfold Oper.wp
  simp only [Int.toNat_natCast, run_sizeOf_el hT, Result.andThen] at hrun
  simp [execOp, ho, hs, hl, hh, run_sliceAt_slice w T _ _ _ _ hu, hrun, he, Result.andThen]
  exact hK _ _ (h a' _ hr')

/-- The runs of 'v[:hi]' and 'v[lo:]', as equations: for a region that draws its order. -/
theorem run_cutTo (hT : ElT P T E z bytes) (hr : RL f w a n c l) (kh : IntKind) (h0 : Nat) (h2 : h0 ≤ n) :
    ∃ a', (∀ w', (Instr.sliceAt T (.slice a n c) none (some (.int kh (h0 : Int))) none).run P w' = .ok (.slice a' h0 c) w') ∧ (∀ w', (Instr.slice T (.slice a n c) none (some (.int kh (h0 : Int))) none).run P w' = .ok (.slice a' h0 c) w') ∧ RL f w a' h0 c (l.take h0) := by
  obtain ⟨a', he, hr'⟩ := hr.sliced 0 h0 1 rfl (Nat.zero_le _) h2
  have hu : P.underlying T = some (.slice (P.elem T)) := by rw [hT.und, hT.el]
  have key : ∀ w', (Instr.slice T (.slice a n c) none (some (.int kh (h0 : Int))) none).run P w' = .ok (.slice a' h0 c) w' := fun w' => by
    have hrun := run_slice_h (P := P) w' T a n c hu kh h0 (by omega) (by have := hr.cap; omega)
    simp only [Int.toNat_natCast, run_sizeOf_el hT, Result.andThen] at hrun
    rw [hrun, he]; simp
  exact ⟨a', fun w' => by rw [run_sliceAt_slice w' T _ _ _ _ hu]; exact key w', key, by simpa using hr'⟩

theorem run_cutFrom (hT : ElT P T E z bytes) (hr : RL f w a n c l) (kl : IntKind) (l0 : Nat) (h2 : l0 ≤ n) :
    ∃ a' c', (∀ w', (Instr.sliceAt T (.slice a n c) (some (.int kl (l0 : Int))) none none).run P w' = .ok (.slice a' (n - l0) c') w') ∧ (∀ w', (Instr.slice T (.slice a n c) (some (.int kl (l0 : Int))) none none).run P w' = .ok (.slice a' (n - l0) c') w') ∧ RL f w a' (n - l0) c' (l.drop l0) := by
  obtain ⟨a', he, hr'⟩ := hr.sliced l0 n 1 rfl h2 (Nat.le_refl _)
  rw [← hr.len, List.take_length, hr.len] at hr'
  have hu : P.underlying T = some (.slice (P.elem T)) := by rw [hT.und, hT.el]
  have key : ∀ w', (Instr.slice T (.slice a n c) (some (.int kl (l0 : Int))) none none).run P w' = .ok (.slice a' (n - l0) (c - l0)) w' := fun w' => by
    have hrun := run_slice_l (P := P) w' T a n c hu kl l0 (by omega) (by omega)
    simp only [Int.toNat_natCast, run_sizeOf_el hT, Result.andThen] at hrun
    rw [hrun, he]
  exact ⟨a', _, fun w' => by rw [run_sliceAt_slice w' T _ _ _ _ hu]; exact key w', key, hr'⟩

theorem wpList_cutTo {ops : Array Oper} {rest : List Oper} {o : Oper} {ac : Act} {Q : Exit → Act → World → Prop} (hT : ElT P T E z bytes) (hgd : o.guard = none) (s hi : Operand)
    (ho : o.op = .slice T s none (some hi) none) (kh : IntKind) (H : Int) (h0 : Nat) (hs : ac.eval s = .slice a n c) (hh : ac.eval hi = .int kh H) (hH : H = (h0 : Int))
    (hr : RL f w a n c l) (h2 : h0 ≤ n)
    (h : ∀ a', RL f w a' h0 c (l.take h0) → wpList P ops Q rest (ac.put o.dst (.slice a' h0 c)) w) : wpList P ops Q (o :: rest) ac w := by
  subst hH
  refine wpList_plain hgd fun K hK => ?_
  obtain ⟨a', he, hr'⟩ := hr.sliced 0 h0 1 rfl (Nat.zero_le _) h2
  have hu : P.underlying T = some (.slice (P.elem T)) := by rw [hT.und, hT.el]
  have hrun := run_slice_h (P := P) w T a n c hu kh h0 (by omega) (by have := hr.cap; omega)
  unfold Oper.wp
  simp only [Int.toNat_natCast, run_sizeOf_el hT, Result.andThen] at hrun
  simp [execOp, ho, hs, hh, run_sliceAt_slice w T _ _ _ _ hu, hrun, he, Result.andThen]
  exact hK _ _ (h a' (by simpa using hr'))

theorem wpList_cutFrom {ops : Array Oper} {rest : List Oper} {o : Oper} {ac : Act} {Q : Exit → Act → World → Prop} (hT : ElT P T E z bytes) (hgd : o.guard = none) (s lo : Operand)
    (ho : o.op = .slice T s (some lo) none none) (kl : IntKind) (L : Int) (l0 : Nat) (hs : ac.eval s = .slice a n c) (hl : ac.eval lo = .int kl L) (hL : L = (l0 : Int))
    (hr : RL f w a n c l) (h2 : l0 ≤ n) (N : Nat) (hN : n - l0 = N)
    (h : ∀ a' c', RL f w a' N c' (l.drop l0) → wpList P ops Q rest (ac.put o.dst (.slice a' N c')) w) : wpList P ops Q (o :: rest) ac w := by
  subst hL
  subst hN
  refine wpList_plain hgd fun K hK => ?_
  obtain ⟨a', he, hr'⟩ := hr.sliced l0 n 1 rfl h2 (Nat.le_refl _)
  rw [← hr.len, List.take_length, hr.len] at hr'
  have hu : P.underlying T = some (.slice (P.elem T)) := by rw [hT.und, hT.el]
  have hrun := run_slice_l (P := P) w T a n c hu kl l0 (by omega) (by omega)
  unfold Oper.wp
  simp only [Int.toNat_natCast, run_sizeOf_el hT, Result.andThen] at hrun
  simp [execOp, ho, hs, hl, run_sliceAt_slice w T _ _ _ _ hu, hrun, he, Result.andThen]
  exact hK _ _ (h a' _ hr')

theorem cur_of {cur : Array Value} {E : TypeId} {g : Nat} {c : Nat} (h : OL f E B w (some ⟨g, 0, none⟩) c c l) (hg : w.heap[g]? = some (.cells cur E (0, 0))) (hs : cur.size = c) : cur.toList = l.map f := by
  rcases h.own.2 with ⟨h', _⟩ | ⟨g', cap', cur', h', _, hg', _, _, hcs, htake⟩
  · simp at h'
  · simp only [Value.slice.injEq, Option.some.injEq, Addr.mk.injEq, and_true, true_and] at h'
    obtain ⟨rfl, rfl⟩ := h'
    rw [hg] at hg'
    simp only [Option.some.injEq, Obj.cells.injEq, and_true] at hg'
    subst hg'
    rw [← htake, List.take_of_length_le (by simp [hs])]

/-- 'copy(v, x)', v a full row of the call's own as long as x. -/
theorem wpList_cp {ops : Array Oper} {rest : List Oper} {o : Oper} {ac : Act} {Q : Exit → Act → World → Prop} (hT : ElT P T E z bytes) (hgd : o.guard = none) (d s : Operand)
    (ho : o.op = .call { callee := .builtin .copy, args := #[d, s], argTypes := #[T, T] }) {g : Nat} {a2 : Option Addr} {c2 : Nat}
    (hd : ac.eval d = .slice (some ⟨g, 0, none⟩) n n) (hs : ac.eval s = .slice a2 n c2) (hown : OL f E B w (some ⟨g, 0, none⟩) n n l) (hr : RL f w a2 n c2 m) (h1 : ∀ u, (f u).oneCell' = true)
    (h : ∀ w', OL f E B w' (some ⟨g, 0, none⟩) n n m → Below B w w' → wpList P ops Q rest (ac.put o.dst (goInt n)) w') : wpList P ops Q (o :: rest) ac w := by
  obtain ⟨i, hi, hz0, hz1, hz2⟩ := info_parts hT.info
  have hsz : (P.info? E).map (·.size) = some 1 := by simp [hi, hz1]
  rcases hown.ex with ⟨h0, _⟩ | ⟨g', cur, hg, hBg, hh, hcs⟩
  · cases h0
  simp only [Option.some.injEq, Addr.mk.injEq, and_true] at hg
  subst hg
  by_cases h0 : n = 0
  · subst h0
    refine wpList_copy_nothing hgd d s T T ho E hT.und hsz _ _ 0 0 0 c2 hd hs (by simp) ?_
    have hm : m = [] := List.eq_nil_of_length_eq_zero hr.len
    have hl : l = [] := List.eq_nil_of_length_eq_zero hown.len
    subst hm; subst hl
    exact h w hown (Below.refl _ _)
  · obtain ⟨b, off, rfl, hb, hc⟩ := hr.cell (by omega)
    have hmn : (m.map f).length = n := by simp [hr.len]
    refine wpList_copy_own hgd d s T T ho E hT.und hsz g 0 n n ⟨b, off, none⟩ n c2 hd hs cur E hh (m.map f) (by rw [hmn]; exact (Nat.min_self n).symm) ?_ (by omega) ?_ ?_
    · intro j u hu
      rw [List.getElem?_map] at hu
      cases hj : m[j]? with
      | none => rw [hj] at hu; cases hu
      | some y =>
        rw [hj] at hu
        simp only [Option.map_some, Option.some.injEq] at hu
        subst hu
        rw [Addr.add_lit]
        exact hc j y hj
    · intro u hu
      obtain ⟨y, _, rfl⟩ := List.mem_map.1 hu
      exact h1 y
    · have e : cur.toList.take 0 ++ (m.map f ++ cur.toList.drop (0 + (m.map f).length)) = m.map f := by
        rw [List.drop_eq_nil_of_le (by simp [hcs, hr.len])]; simp
      rw [e, hmn]
      refine h _ ⟨hr.len, Nat.le_refl _, by simp [hr.len], .inr ⟨g, n, (m.map f).toArray, rfl, hBg, setRow_heap w g cur _ E _ hh, Nat.le_refl _, ?_, by simp [hr.len], by rw [List.take_of_length_le (by simp [hr.len])]⟩⟩ (below_setRow (Below.refl _ _) hBg _)
      rcases hown.own.2 with ⟨h', _⟩ | ⟨_, _, _, h', _, _, _, hm, _⟩
      · simp at h'
      · simp only [Value.slice.injEq, true_and] at h'
        obtain ⟨_, rfl⟩ := h'
        exact hm
end

theorem ol_of_cells {α : Type} {f : α → Value} {E : TypeId} {B : Nat} {w : World} {g n : Nat} {cur : Array Value} {l : List α} (hh : w.heap[g]? = some (.cells cur E (0, 0))) (hB : B ≤ g) (hs : cur.size = n) (hm : n ≤ 1000000000) (hl : l.length = n)
    (hc : ∀ (j : Nat) (x : α), l[j]? = some x → cur[j]? = some (f x)) : OL f E B w (some ⟨g, 0, none⟩) n n l := by
  refine ⟨hl, Nat.le_refl _, by simp [hl], .inr ⟨g, n, cur, rfl, hB, hh, Nat.le_refl _, by unfold maxLen; omega, by simpa using hs, ?_⟩⟩
  rw [List.take_of_length_le (by simp [hs])]
  apply List.ext_getElem?
  intro j
  rw [Array.getElem?_toList, List.getElem?_map]
  by_cases hj : j < n
  · obtain ⟨x, hx⟩ : ∃ x, l[j]? = some x := ⟨l[j]'(by omega), by simp [hl, hj]⟩
    rw [hc j _ hx, hx]; rfl
  · rw [List.getElem?_eq_none (show l.length ≤ j by omega), Array.getElem?_eq_none (by omega)]; rfl

theorem ol_lit {α : Type} (f : α → Value) (E : TypeId) (B : Nat) (w : World) (l : List α) (cs : Array Value) (n : Nat) (hcs : cs = (l.map f).toArray) (hn : l.length = n) (hm : n ≤ 1000000000) (hB : B ≤ w.heap.size) :
    OL f E B (w.alloc (.cells cs E)) (some ⟨w.heap.size, 0, none⟩) n n l := by
  subst hcs
  exact ol_of_cells (heap_alloc_new w _) hB (by simp [hn]) hm hn (fun j x hx => by simp [hx])

/-- What is owned, in the block's own words. -/
theorem OL.full {α : Type} {f : α → Value} {E : TypeId} {B : Nat} {w : World} {g n : Nat} {l : List α} (h : OL f E B w (some ⟨g, 0, none⟩) n n l) :
    ∃ cur, B ≤ g ∧ w.heap[g]? = some (.cells cur E (0, 0)) ∧ cur.size = n ∧ n ≤ maxLen ∧ cur.toList = l.map f := by
  rcases h.ex with ⟨h0, _⟩ | ⟨g', cur, hg, hBg, hh, hcs⟩
  · cases h0
  simp only [Option.some.injEq, Addr.mk.injEq, and_true] at hg
  subst hg
  refine ⟨cur, hBg, hh, hcs, ?_, cur_of h hh hcs⟩
  rcases h.own.2 with ⟨h', _⟩ | ⟨_, _, _, h', _, _, _, hm, _⟩
  · simp at h'
  · simp only [Value.slice.injEq, true_and] at h'
    obtain ⟨_, rfl⟩ := h'
    exact hm

/-- A byte as a cell. -/
def bv (x : UInt8) : Value := .int .u8 (x.toNat : Int)

theorem byte_back (x : UInt8) : UInt8.ofNat ((x.toNat : Int)).toNat = x := by simp

/-- A number of 16 bits as a cell. -/
def uv (x : UInt16) : Value := .int .u16 (x.toNat : Int)

/-- 'string(b)', b whatever reads as bytes. -/
theorem run_bstr {P : Program} {T E S : TypeId} {z : Value} {bytes : Nat} {w : World} {a : Option Addr} {n c : Nat} {l : List UInt8} (hT : ElT P T E z bytes) (he : P.underlying E = some (.int .u8)) (hd : P.underlying S = some .string) (h : RL bv w a n c l) :
    (convert T S (.slice a n c)).run P w = .ok (.string ⟨l.toArray⟩) w := by
  rw [run_convert_bytes_string w T S E a n c hT.und he hd]
  by_cases h0 : n = 0
  · subst h0
    have hl : l = [] := List.eq_nil_of_length_eq_zero h.len
    subst hl
    cases a with
    | none => simp [Conv.bytesToString]; rfl
    | some ad =>
      rw [run_bytesToString w ad 0 c [] (by simp [loadCells, loadCellsFrom])]
      rfl
  · obtain ⟨b, off, rfl, hb, hc⟩ := h.cell (by omega)
    have hl : (loadCells ⟨b, off, none⟩ n).run P w = .ok ((l.map fun x => (x.toNat : Int)).map (Value.int .u8)).toArray w := by
      have := run_loadCells_list (P := P) w ⟨b, off, none⟩ ((l.map fun x => (x.toNat : Int)).map (Value.int .u8)) (fun j v hj => by
        rw [List.map_map, List.getElem?_map] at hj
        cases hx : l[j]? with
        | none => rw [hx] at hj; cases hj
        | some y =>
          rw [hx] at hj
          simp only [Option.map_some, Option.some.injEq] at hj
          subst hj
          rw [Addr.add_lit]
          exact hc j y hx)
      simpa [h.len] using this
    rw [run_bytesToString w _ n c _ hl, foldl_push_bytes]
    simp [ByteArray.empty, ByteArray.emptyWithCapacity, List.map_map, Function.comp_def]
    rfl

end Go.Proofs.YtgpmhmdofefdcaaGreat
