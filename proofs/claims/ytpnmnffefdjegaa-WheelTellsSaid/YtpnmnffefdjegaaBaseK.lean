/-
  Words and laws for slices of structs (elements of k cells): a slice that reads as a list ('RK'), one that the call itself owns ('OK'), and laws for the walk on cutting, appending to and building such slices.
-/
import Derived.Test.YtpnmnffefdjegaaBase
import Derived.BigQuiet
namespace Go.Proofs.Ytpnmnffefdjegaa
open Go.RowKit

/-- What is known of an element type of k cells and of the slices of it. -/
structure ElK (P : Program) (T E : TypeId) (k : Nat) (z : Value) (bytes : Nat) : Prop where
  und : P.underlying T = some (.slice E)
  el : P.elem T = E
  size : P.cellsOf E = k
  info : (P.info? E).map (fun i => (i.zero, i.size, i.bytes)) = some (some z, k, bytes)
  zc : z.cells.size = k
  pos : 0 < k

/-- How an element stands in memory: k cells. -/
structure EnK {α : Type} (enc : α → List Value) (k : Nat) : Prop where
  len : ∀ x, (enc x).length = k
  one : ∀ x, ∀ v ∈ enc x, v.oneCell' = true

section
variable {α : Type} {enc : α → List Value} {k : Nat}

theorem flat_len (hk : EnK enc k) (l : List α) : (l.flatMap enc).length = l.length * k := by
  induction l with
  | nil => simp
  | cons x l ih => rw [List.flatMap_cons, List.length_append, hk.len, ih, List.length_cons, Nat.add_mul]; omega

theorem flat_at (hk : EnK enc k) : ∀ (l : List α) (i j : Nat) (x : α) (v : Value), l[i]? = some x → (enc x)[j]? = some v → (l.flatMap enc)[i * k + j]? = some v
  | [], i, j, x, v, h, _ => by simp at h
  | y :: l, 0, j, x, v, h, hv => by
    simp at h
    subst h
    have hj := (List.getElem?_eq_some_iff.1 hv).1
    rw [List.flatMap_cons, Nat.zero_mul, Nat.zero_add, List.getElem?_append_left hj, hv]
  | y :: l, i + 1, j, x, v, h, hv => by
    simp at h
    rw [List.flatMap_cons, List.getElem?_append_right (by rw [hk.len, Nat.add_mul]; omega), hk.len]
    have e : (i + 1) * k + j - k = i * k + j := by rw [Nat.add_mul]; omega
    rw [e]
    exact flat_at hk l i j x v h hv

theorem flat_back (hk : EnK enc k) : ∀ (l : List α) (p : Nat) (v : Value), (l.flatMap enc)[p]? = some v → ∃ i j x, l[i]? = some x ∧ (enc x)[j]? = some v ∧ p = i * k + j
  | [], p, v, h => by simp at h
  | y :: l, p, v, h => by
    rw [List.flatMap_cons] at h
    by_cases hp : p < (enc y).length
    · rw [List.getElem?_append_left hp] at h
      exact ⟨0, p, y, rfl, h, by omega⟩
    · rw [List.getElem?_append_right (by omega)] at h
      obtain ⟨i, j, x, h1, h2, h3⟩ := flat_back hk l _ v h
      rw [hk.len] at h3 hp
      exact ⟨i + 1, j, x, by simpa using h1, h2, by rw [Nat.add_mul]; omega⟩

theorem flat_one (hk : EnK enc k) (l : List α) : ∀ v ∈ l.flatMap enc, v.oneCell' = true := fun v hv => by
  obtain ⟨x, _, hx⟩ := List.mem_flatMap.1 hv
  exact hk.one x v hx
end

/-- '.slice a n c' reads, at w, as the list l of elements of k cells. -/
structure RK {α : Type} (enc : α → List Value) (k : Nat) (w : World) (a : Option Addr) (n c : Nat) (l : List α) : Prop where
  len : l.length = n
  cap : n ≤ c
  cell : 0 < n → ∃ b off, a = some ⟨b, off, none⟩ ∧ b < w.heap.size ∧ ∀ i x j v, l[i]? = some x → (enc x)[j]? = some v → w.cell? ⟨b, off + (i * k + j), none⟩ = some v

/-- '.slice a n c' is a row of the call's own, from block B on, that reads as l. -/
def OK {α : Type} (enc : α → List Value) (k : Nat) (E : TypeId) (B : Nat) (w : World) (a : Option Addr) (n c : Nat) (l : List α) : Prop :=
  l.length = n ∧ n ≤ c ∧ w.ownsRow B E k (.slice a n c) n (l.flatMap enc)

section
variable {α : Type} {enc : α → List Value} {k : Nat} {E : TypeId} {B : Nat} {w w' : World} {a : Option Addr} {n c : Nat} {l m : List α}

theorem RK.nil (enc : α → List Value) (k : Nat) (w : World) (a : Option Addr) (c : Nat) : RK enc k w a 0 c [] := ⟨rfl, Nat.zero_le _, fun h => absurd h (by omega)⟩

theorem RK.below (h : RK enc k w a n c l) (hb : Below w.heap.size w w') : RK enc k w' a n c l :=
  ⟨h.len, h.cap, fun hn => by
    obtain ⟨b, off, ha, hlt, hc⟩ := h.cell hn
    exact ⟨b, off, ha, Nat.lt_of_lt_of_le hlt hb.size, fun i x j v hx hv => (hb.cell (p := ⟨b, _, none⟩) hlt).trans (hc i x j v hx hv)⟩⟩

theorem RK.drew (h : RK enc k w a n c l) : RK enc k w.drew a n c l := ⟨h.len, h.cap, h.cell⟩

theorem OK.len (h : OK enc k E B w a n c l) : l.length = n := h.1
theorem OK.cap (h : OK enc k E B w a n c l) : n ≤ c := h.2.1
theorem OK.own (h : OK enc k E B w a n c l) : w.ownsRow B E k (.slice a n c) n (l.flatMap enc) := h.2.2

theorem OK.rk (hk : EnK enc k) (h : OK enc k E B w a n c l) : RK enc k w a n c l := by
  refine ⟨h.len, h.cap, fun hn => ?_⟩
  have ho := h.own
  rcases ho.2 with ⟨h', h0⟩ | ⟨g, cap, cur, h', hb, hg, hnc, hcm, hcs, htake⟩
  · omega
  · simp only [Value.slice.injEq, true_and] at h'
    obtain ⟨rfl, rfl⟩ := h'
    refine ⟨g, 0, rfl, (Array.getElem?_eq_some_iff.1 hg).1, fun i x j v hx hv => ?_⟩
    have hi : i < l.length := (List.getElem?_eq_some_iff.1 hx).1
    have hj : j < k := by have := (List.getElem?_eq_some_iff.1 hv).1; rwa [hk.len] at this
    have hlt : i * k + j < n * k := by
      have : (i + 1) * k ≤ n * k := Nat.mul_le_mul_right k (by rw [← h.len]; exact hi)
      rw [Nat.add_mul] at this
      omega
    rw [Nat.zero_add, ho.cellAt _ hlt]
    exact flat_at hk l i j x v hx hv

theorem OK.mono {B' : Nat} (h : OK enc k E B w a n c l) (hB : B' ≤ B) : OK enc k E B' w a n c l := by
  refine ⟨h.len, h.cap, h.own.1, ?_⟩
  rcases h.own.2 with hn | ⟨g, cap, cur, hv, hb, rest⟩
  · exact .inl hn
  · exact .inr ⟨g, cap, cur, hv, Nat.le_trans hB hb, rest⟩

theorem OK.below (h : OK enc k E B w a n c l) (hb : Below w.heap.size w w') : OK enc k E B w' a n c l := by
  refine ⟨h.len, h.cap, h.own.1, ?_⟩
  rcases h.own.2 with hn | ⟨g, cap, cur, hv, hB, hg, rest⟩
  · exact .inl hn
  · exact .inr ⟨g, cap, cur, hv, hB, by rw [hb.block g (Array.getElem?_eq_some_iff.1 hg).1]; exact hg, rest⟩

theorem OK.alloc (h : OK enc k E B w a n c l) (o : Obj) : OK enc k E B (w.alloc o) a n c l := ⟨h.len, h.cap, h.own.alloc o⟩

theorem OK.nil (enc : α → List Value) (k : Nat) (E : TypeId) (B : Nat) (w : World) : OK enc k E B w none 0 0 [] := ⟨rfl, Nat.le_refl _, World.ownsRow_nil _ _ _ _⟩

/-- The address of what is owned: nil, or the head of a block. -/
theorem OK.ex (h : OK enc k E B w a n c l) : (a = none ∧ n = 0 ∧ c = 0 ∧ l = []) ∨ ∃ g cur, a = some ⟨g, 0, none⟩ ∧ B ≤ g ∧ w.heap[g]? = some (.cells cur E (0, 0)) ∧ cur.size = c * k ∧ cur.toList.take (n * k) = l.flatMap enc ∧ c ≤ maxLen := by
  rcases h.own.2 with ⟨h', h0⟩ | ⟨g, cap, cur, h', hb, hg, hnc, hcm, hcs, htake⟩
  · simp only [Value.slice.injEq] at h'
    obtain ⟨rfl, _, rfl⟩ := h'
    subst h0
    exact .inl ⟨rfl, rfl, rfl, List.eq_nil_of_length_eq_zero h.len⟩
  · simp only [Value.slice.injEq, true_and] at h'
    obtain ⟨rfl, rfl⟩ := h'
    exact .inr ⟨g, cur, rfl, hb, hg, hcs, htake, hcm⟩

theorem OK.kept (h : OK enc k E B w a n c l) (hk : ∀ g, a = some ⟨g, 0, none⟩ → w'.heap[g]? = w.heap[g]?) : OK enc k E B w' a n c l := by
  refine ⟨h.len, h.cap, h.own.1, ?_⟩
  rcases h.own.2 with hn | ⟨g, cap, cur, hv, hB, hg, rest⟩
  · exact .inl hn
  · refine .inr ⟨g, cap, cur, hv, hB, ?_, rest⟩
    simp only [Value.slice.injEq] at hv
    rw [hk g hv.1]; exact hg

theorem OK.drewN (h : OK enc k E B w a n c l) (q : Nat) : OK enc k E B (w.drewN q) a n c l := h.kept fun g _ => by simp

theorem OK.ltB (h : OK enc k E B w a n c l) {q : Addr} (hq : a = some q) : q.block < w.heap.size ∧ B ≤ q.block := by
  rcases h.ex with ⟨h0, _⟩ | ⟨g, cur, hg, hBg, hh, _⟩
  · rw [h0] at hq; cases hq
  · rw [hg] at hq; cases hq; exact ⟨(Array.getElem?_eq_some_iff.1 hh).1, hBg⟩

theorem ok_of_ownsRow {v : Value} {xs : List Value} (h : w.ownsRow B E k v n xs) (hx : xs = l.flatMap enc) (hl : l.length = n) : ∃ a c, v = .slice a n c ∧ OK enc k E B w a n c l := by
  subst hx
  rcases h.2 with ⟨rfl, h0⟩ | ⟨g, cap, cur, rfl, hb, hg, hnc, hcm, hcs, htake⟩
  · subst h0
    exact ⟨none, 0, rfl, hl, Nat.le_refl _, h⟩
  · exact ⟨some ⟨g, 0, none⟩, cap, rfl, hl, hnc, h⟩

variable {T : TypeId} {z : Value} {bytes : Nat} {P : Program}

theorem run_len_k (hT : ElK P T E k z bytes) (ty : TypeId) (v : Option Addr) (n c : Nat) (w : World) : (Builtin.len_ #[T] ty #[.slice v n c]).run P w = .ok (goInt n) w :=
  run_len_slice w T ty v n c (by rw [hT.und, hT.el])

/-- 'append(v, x...)', v of the call's own, x whatever reads as a list. -/
theorem wp_appK {o : Oper} {ac : Act} {K : Act → World → Prop} {Q : Exit → Act → World → Prop} (hT : ElK P T E k z bytes) (hk : EnK enc k) (s x : Operand)
    (ho : o.op = .call { callee := .builtin .append, args := #[s, x], argTypes := #[T, T] })
    {a2 : Option Addr} {n2 c2 : Nat} (hs : ac.eval s = .slice a n c) (hown : OK enc k E B w a n c l) (hx : ac.eval x = .slice a2 n2 c2) (hr : RK enc k w a2 n2 c2 m)
    (h63 : n + n2 ≤ 1000000000) (hby : bytes ≤ 64) (hbase : B ≤ w.heap.size)
    (h : ∀ w' a' c', OK enc k E B w' a' (n + n2) c' (l ++ m) → Below B w w' → K (ac.put o.dst (.slice a' (n + n2) c')) w') : o.wp P ac w K Q := by
  obtain ⟨i, hi, hz0, hz1, hz2⟩ := info_parts hT.info
  have hbl : ∀ q, (Value.slice a n c).ownBlock = some q → B ≤ q := fun q hq => (hown.own.lt q hq).1
  by_cases h0 : n2 = 0
  · subst h0
    have hm : m = [] := List.eq_nil_of_length_eq_zero hr.len
    subst hm
    have hrun : (Builtin.append_ #[T, T] o.type #[.slice a n c, .slice a2 0 c2]).run P w = .ok (.slice a n c) w := by
      rcases hown.own.2 with ⟨h', h0⟩ | ⟨g, cap, cur, h', _, _, hnc, _⟩
      · simp only [Value.slice.injEq] at h'
        obtain ⟨rfl, rfl, rfl⟩ := h'
        cases a2 <;> simp [Builtin.append_, run_underlying hT.und, sizeOf, typeInfo, hi, Builtin.lenOf, Builtin.firstCells, loadCells, loadCellsFrom]
      · simp only [Value.slice.injEq, true_and] at h'
        obtain ⟨rfl, rfl⟩ := h'
        cases a2 <;> simp [Builtin.append_, run_underlying hT.und, sizeOf, typeInfo, hi, Builtin.lenOf, Builtin.firstCells, hnc, storeCells, loadCells, loadCellsFrom]
    unfold Oper.wp
    simp [execOp, ho, resolve, invoke, builtin, hs, hx, hrun, Result.andThen]
    show K _ _
    simpa using h w a c (by simpa using hown) (Below.refl _ _)
  · obtain ⟨b, off, rfl, hb, hc⟩ := hr.cell (by omega)
    refine wp_append_own _ s x T ho B E i z k bytes hT.und hi hz0 hz1 hz2 hT.zc hT.pos (.slice a n c) n (l.flatMap enc) hs hown.own ⟨b, off, none⟩ n2 c2 (m.flatMap enc) hx (by rw [flat_len hk, hr.len]) ?_ (flat_one hk m) (by unfold maxLen; omega) ?_ hbase ?_
    · intro j u hu
      obtain ⟨i', j', y, h1, h2, rfl⟩ := flat_back hk m j u hu
      rw [Addr.add_lit]
      exact hc i' y j' u h1 h2
    · have := Nat.mul_le_mul h63 hby
      omega
    · intro v' w' hown' hg _
      obtain ⟨a', c', rfl, hol⟩ := ok_of_ownsRow (enc := enc) (l := l ++ m) hown' (by simp) (by rw [List.length_append, hown.len, hr.len])
      exact h w' a' c' hol ((Below.refl B w).grown hg hbase hbl)

theorem wpList_appK {ops : Array Oper} {rest : List Oper} {o : Oper} {ac : Act} {Q : Exit → Act → World → Prop} (hT : ElK P T E k z bytes) (hk : EnK enc k) (hgd : o.guard = none) (s x : Operand)
    (ho : o.op = .call { callee := .builtin .append, args := #[s, x], argTypes := #[T, T] })
    {a2 : Option Addr} {n2 c2 : Nat} (hs : ac.eval s = .slice a n c) (hown : OK enc k E B w a n c l) (hx : ac.eval x = .slice a2 n2 c2) (hr : RK enc k w a2 n2 c2 m)
    (h63 : n + n2 ≤ 1000000000) (hby : bytes ≤ 64) (hbase : B ≤ w.heap.size)
    (h : ∀ w' a' c', OK enc k E B w' a' (n + n2) c' (l ++ m) → Below B w w' → wpList P ops Q rest (ac.put o.dst (.slice a' (n + n2) c')) w') : wpList P ops Q (o :: rest) ac w :=
  wpList_plain hgd fun _ hK => wp_appK hT hk s x ho hs hown hx hr h63 hby hbase fun w' a' c' h2 h3 => hK _ _ (h w' a' c' h2 h3)

/-- A cut of what reads as a list reads as the part. -/
theorem RK.sliced (hr : RK enc k w a n c l) (lo hi s : Nat) (hs : s = k) (h1 : lo ≤ hi) (h2 : hi ≤ n) :
    ∃ a', Go.sliced a lo hi c s = .slice a' (hi - lo) (c - lo) ∧ RK enc k w a' (hi - lo) (c - lo) ((l.take hi).drop lo) := by
  subst hs
  refine ⟨_, rfl, by simp [hr.len]; omega, by have := hr.cap; omega, fun hp => ?_⟩
  obtain ⟨b, off, rfl, hb, hc⟩ := hr.cell (by omega)
  have hne : ¬ c = lo := by have := hr.cap; omega
  rw [if_neg hne]
  refine ⟨b, off + lo * s, by simp [Addr.add_lit], hb, fun i x j v hx hv => ?_⟩
  rw [List.getElem?_drop, List.getElem?_take] at hx
  split at hx
  · have e : off + lo * s + (i * s + j) = off + ((lo + i) * s + j) := by rw [Nat.add_mul]; omega
    rw [e]; exact hc _ _ _ _ hx hv
  · cases hx

theorem run_sizeOf_k (hT : ElK P T E k z bytes) (w : World) : (sizeOf (P.elem T)).run P w = .ok k w := by
  obtain ⟨i, hi, hz0, hz1, hz2⟩ := info_parts hT.info
  rw [hT.el]
  simp [sizeOf, typeInfo, hi, hz1]

theorem wpList_cutToK {ops : Array Oper} {rest : List Oper} {o : Oper} {ac : Act} {Q : Exit → Act → World → Prop} (hT : ElK P T E k z bytes) (hgd : o.guard = none) (s hi : Operand)
    (ho : o.op = .slice T s none (some hi) none) (kh : IntKind) (H : Int) (h0 : Nat) (hs : ac.eval s = .slice a n c) (hh : ac.eval hi = .int kh H) (hH : H = (h0 : Int))
    (hr : RK enc k w a n c l) (h2 : h0 ≤ n)
    (h : ∀ a', RK enc k w a' h0 c (l.take h0) → wpList P ops Q rest (ac.put o.dst (.slice a' h0 c)) w) : wpList P ops Q (o :: rest) ac w := by
  subst hH
  refine wpList_plain hgd fun K hK => ?_
  obtain ⟨a', he, hr'⟩ := hr.sliced 0 h0 k rfl (Nat.zero_le _) h2
  have hu : P.underlying T = some (.slice (P.elem T)) := by rw [hT.und, hT.el]
  have hrun := run_slice_h (P := P) w T a n c hu kh h0 (by omega) (by have := hr.cap; omega)
  unfold Oper.wp
  simp only [Int.toNat_natCast, run_sizeOf_k hT, Result.andThen] at hrun
  simp [execOp, ho, hs, hh, run_sliceAt_slice w T _ _ _ _ hu, hrun, he, Result.andThen]
  exact hK _ _ (h a' (by simpa using hr'))

theorem wpList_cutFromK {ops : Array Oper} {rest : List Oper} {o : Oper} {ac : Act} {Q : Exit → Act → World → Prop} (hT : ElK P T E k z bytes) (hgd : o.guard = none) (s lo : Operand)
    (ho : o.op = .slice T s (some lo) none none) (kl : IntKind) (L : Int) (l0 : Nat) (hs : ac.eval s = .slice a n c) (hl : ac.eval lo = .int kl L) (hL : L = (l0 : Int))
    (hr : RK enc k w a n c l) (h2 : l0 ≤ n) (N : Nat) (hN : n - l0 = N)
    (h : ∀ a' c', RK enc k w a' N c' (l.drop l0) → wpList P ops Q rest (ac.put o.dst (.slice a' N c')) w) : wpList P ops Q (o :: rest) ac w := by
  subst hL
  subst hN
  refine wpList_plain hgd fun K hK => ?_
  obtain ⟨a', he, hr'⟩ := hr.sliced l0 n k rfl h2 (Nat.le_refl _)
  rw [← hr.len, List.take_length, hr.len] at hr'
  have hu : P.underlying T = some (.slice (P.elem T)) := by rw [hT.und, hT.el]
  have hrun := run_slice_l (P := P) w T a n c hu kl l0 (by omega) (by omega)
  unfold Oper.wp
  simp only [Int.toNat_natCast, run_sizeOf_k hT, Result.andThen] at hrun
  simp [execOp, ho, hs, hl, run_sliceAt_slice w T _ _ _ _ hu, hrun, he, Result.andThen]
  exact hK _ _ (h a' _ hr')

/-- A row of the call's own, by its cells. -/
theorem ok_of_cells (hk : EnK enc k) {g : Nat} {cur : Array Value} (hh : w.heap[g]? = some (.cells cur E (0, 0))) (hB : B ≤ g) (hm : n ≤ 1000000000) (hl : l.length = n) (hcur : cur.toList = l.flatMap enc) : OK enc k E B w (some ⟨g, 0, none⟩) n n l := by
  have hs : cur.size = n * k := by rw [← Array.length_toList, hcur, flat_len hk, hl]
  refine ⟨hl, Nat.le_refl _, by rw [flat_len hk, hl], .inr ⟨g, n, cur, rfl, hB, hh, Nat.le_refl _, by unfold maxLen; omega, hs, ?_⟩⟩
  rw [List.take_of_length_le (by rw [Array.length_toList, hs]; exact Nat.le_refl _), hcur]

theorem ok_lit (hk : EnK enc k) (E : TypeId) (B : Nat) (w : World) (l : List α) (cs : Array Value) (n : Nat) (hcs : cs.toList = l.flatMap enc) (hn : l.length = n) (hm : n ≤ 1000000000) (hB : B ≤ w.heap.size) :
    OK enc k E B (w.alloc (.cells cs E)) (some ⟨w.heap.size, 0, none⟩) n n l :=
  ok_of_cells hk (heap_alloc_new w _) hB hm hn hcs
end
end Go.Proofs.Ytpnmnffefdjegaa
