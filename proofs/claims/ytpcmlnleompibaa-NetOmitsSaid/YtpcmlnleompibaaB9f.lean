/-
  Words on nets: rows of controllers (26 cells each) and of what happens (6 cells each), read and owned; whole elements loaded out of, and stored into, the middle of a block.
  Contracts of net's small functions: which numbers are nodes, which ones are up; whether a number is among the flips.
  Contract: a net in memory of its own (apart).
  Contract: what the nodes of a net drive.
  Contracts: the closures of net.Step (whether a flip is the number of a node, whether a node is among the flips), and the search through the flips.
  Contracts: a net with another controller at a node (with); a new net; a crash.
-/
import Derived.Test.YtpcmlnleompibaaB8r
import Derived.Test.YtpcmlnleompibaaBase2K
import Derived.Deep.MidRow
import Derived.Test.YtpcmlnleompibaaB8u
namespace Go.Proofs.Ytpcmlnleompibaa
open Go.RowKit Go.Sort
set_option linter.unusedVariables false

section
variable {α : Type} {enc : α → List Value} {k : Nat} {E : TypeId} {B : Nat} {w w' : World} {a : Option Addr} {n c : Nat} {l : List α}

theorem flat_set (hk : EnK enc k) (l : List α) (i : Nat) (hi : i < l.length) (x : α) : (l.set i x).flatMap enc = (l.flatMap enc).take (i * k) ++ enc x ++ (l.flatMap enc).drop (i * k + k) := by
  have e : l.flatMap enc = (l.take i).flatMap enc ++ (enc l[i] ++ (l.drop (i + 1)).flatMap enc) := by
    conv => lhs; rw [← List.take_append_drop i l, List.drop_eq_getElem_cons hi]
    rw [List.flatMap_append, List.flatMap_cons]
  have h1 : ((l.take i).flatMap enc).length = i * k := by rw [flat_len hk, List.length_take, Nat.min_eq_left (by omega)]
  have h2 := hk.len l[i]
  rw [List.set_eq_take_append_cons_drop, if_pos hi, List.flatMap_append, List.flatMap_cons, e]
  rw [List.take_left' h1, ← List.append_assoc (List.flatMap enc (List.take i l)) (enc l[i]), List.drop_left' (by rw [List.length_append, h1, h2]), List.append_assoc]

theorem take_splice {β : Type} (L V : List β) (o m : Nat) (h : o + V.length ≤ m) (hm : m ≤ L.length) : (L.take o ++ V ++ L.drop (o + V.length)).take m = (L.take m).take o ++ V ++ (L.take m).drop (o + V.length) := by
  apply List.ext_getElem?
  intro j
  simp only [List.getElem?_take, List.getElem?_append, List.getElem?_drop, List.length_append, List.length_take, Nat.min_eq_left (show o ≤ L.length by omega), Nat.min_eq_left hm, Nat.min_eq_left (show o ≤ m by omega)]
  by_cases h1 : j < o
  · simp [h1, show j < m by omega, show j < o + V.length by omega]
  · by_cases h2 : j < o + V.length
    · simp [h1, h2, show j < m by omega]
    · have e : o + V.length + (j - (o + V.length)) = j := by omega
      simp [h2, e]

/-- Cells written one behind the other. -/
def wrC (cur : Array Value) : Nat → List Value → Array Value
  | _, [] => cur
  | o, v :: r => wrC (cur.setIfInBounds o v) (o + 1) r

theorem wrC_size : ∀ (vs : List Value) (cur : Array Value) (o : Nat), (wrC cur o vs).size = cur.size
  | [], _, _ => rfl
  | v :: r, cur, o => by rw [wrC, wrC_size r]; simp

theorem wrC_list : ∀ (vs : List Value) (cur : Array Value) (o : Nat), o + vs.length ≤ cur.size → (wrC cur o vs).toList = cur.toList.take o ++ vs ++ cur.toList.drop (o + vs.length)
  | [], cur, o, h => by simp [wrC]
  | v :: r, cur, o, h => by
    have ho : o < cur.size := by simp at h; omega
    rw [wrC, wrC_list r _ _ (by simp at h ⊢; omega)]
    rw [Array.toList_setIfInBounds, List.take_succ_eq_append_getElem (by simpa using ho), List.take_set_of_le (Nat.le_refl _), List.drop_set_of_lt (by omega)]
    simp [Nat.add_assoc, Nat.add_comm 1]

theorem heap_setCells_same (b : Nat) (t : TypeId) : ∀ (vs : List Value) (o : Nat) (w : World) (cur : Array Value), w.heap[b]? = some (.cells cur t (0, 0)) → (w.setCells b o vs).heap[b]? = some (.cells (wrC cur o vs) t (0, 0))
  | [], _, _, _, h => h
  | v :: r, o, w, cur, h => heap_setCells_same b t r (o + 1) _ _ (heap_setCell_same w b o _ _ v h)

theorem wr_setCells (b : Nat) : ∀ (vs : List Value) (o : Nat) (w : World), Wr b w (w.setCells b o vs)
  | [], _, w => Wr.refl b w
  | v :: r, o, w => by
    have h1 : Wr b w (w.setCell ⟨b, o, none⟩ v) := (Wr.refl b w).setCell (.inl rfl) v
    exact h1.trans (wr_setCells b r (o + 1) _)

/-- An element's cells, as a range. -/
theorem RK.range (h : RK enc k w a n c l) {i : Nat} {x : α} (hx : l[i]? = some x) : ∃ b off, a = some ⟨b, off, none⟩ ∧ b < w.heap.size ∧ w.rangeAt b (off + i * k) (enc x) := by
  have hi : i < l.length := (List.getElem?_eq_some_iff.1 hx).1
  obtain ⟨b, off, ha, hb, hc⟩ := h.cell (by rw [← h.len]; omega)
  exact ⟨b, off, ha, hb, fun j v hv => by rw [Nat.add_assoc]; exact hc i x j v hx hv⟩

theorem OK.addr (h : OK enc k E B w a n c l) (hn : 0 < n) : ∃ g, a = some ⟨g, 0, none⟩ ∧ B ≤ g ∧ g < w.heap.size := by
  rcases h.ex with ⟨_, h0, _⟩ | ⟨g, cur, h1, h2, h3, _⟩
  · omega
  · exact ⟨g, h1, h2, bx_lt h3⟩

theorem OK.range (hk : EnK enc k) {g : Nat} (h : OK enc k E B w (some ⟨g, 0, none⟩) n c l) {i : Nat} {x : α} (hx : l[i]? = some x) : w.rangeAt g (i * k) (enc x) := by
  obtain ⟨b, off, e, _, hr⟩ := (h.rk hk).range hx
  cases e
  rwa [Nat.zero_add] at hr

theorem OK.there (hk : EnK enc k) {g : Nat} (h : OK enc k E B w (some ⟨g, 0, none⟩) n c l) {i : Nat} (hi : i < n) : w.there g (i * k) k := by
  rcases h.ex with ⟨h0, _⟩ | ⟨g', cur, h1, h2, h3, h4, h5, h6⟩
  · cases h0
  · cases h1
    intro j hj
    have hb : i * k + j < cur.size := by
      have : (i + 1) * k ≤ c * k := Nat.mul_le_mul_right k (by have := h.cap; omega)
      rw [Nat.add_mul] at this
      omega
    exact ⟨by rw [cell_of_row w g _ _ _ _ h3]; simp [hb], bx_thaw h3 _⟩

/-- An element written anew. -/
theorem OK.put (hk : EnK enc k) {g : Nat} (h : OK enc k E B w (some ⟨g, 0, none⟩) n c l) {i : Nat} (hi : i < n) (x : α) : OK enc k E B (w.setCells g (i * k) (enc x)) (some ⟨g, 0, none⟩) n c (l.set i x) := by
  rcases h.ex with ⟨h0, _⟩ | ⟨g', cur, h1, h2, h3, h4, h5, h6⟩
  · cases h0
  · cases h1
    have hnk : (i + 1) * k ≤ n * k := Nat.mul_le_mul_right k (by omega)
    have hck : n * k ≤ c * k := Nat.mul_le_mul_right k h.cap
    rw [Nat.add_mul] at hnk
    have hle := hk.len x
    refine ⟨by rw [List.length_set]; exact h.len, h.cap, by rw [flat_len hk, List.length_set, h.len], .inr ⟨g, c, _, rfl, h2, heap_setCells_same g E _ _ _ _ h3, h.cap, h6, by rw [wrC_size]; exact h4, ?_⟩⟩
    rw [wrC_list _ _ _ (by rw [hle, h4]; omega), flat_set hk l i (by rw [h.len]; exact hi) x, ← h5, hle]
    have hl : cur.toList.length = c * k := by rw [Array.length_toList, h4]
    have := take_splice cur.toList (enc x) (i * k) (n * k) (by rw [hle]; omega) (by rw [hl]; exact hck)
    rw [hle] at this
    exact this
end

theorem sz_setCells (b : Nat) : ∀ (vs : List Value) (o : Nat) (w : World), (w.setCells b o vs).heap.size = w.heap.size
  | [], _, _ => rfl
  | v :: r, o, w => by rw [World.setCells, sz_setCells b r]; exact sz_set w _ v

section
variable {P : Program} {ops : Array Oper} {rest : List Oper} {o : Oper} {ac : Act} {w : World} {K : Act → World → Prop} {Q : Exit → Act → World → Prop} {T E : TypeId} {n : Nat}
variable {α : Type} {enc : α → List Value} {k B c : Nat} {l : List α}

theorem wp_loadM (hT : RowT P T n) (x : Operand) (ho : o.op = .load T x) (b off : Nat) (hx : ac.eval x = .pointer (some ⟨b, off, none⟩)) (cs : Array Value) (hr : w.rangeAt b off cs.toList) (hn : cs.size = n)
    (h : K (ac.put o.dst (.agg cs)) w) : o.wp P ac w K Q := by
  obtain ⟨d, hu, hd⟩ := hT.und
  exact wp_load_mid T x ho b off hx cs.toList d hr hu (by cases d <;> simp_all) (by rw [hT.size, Array.length_toList, hn]) (by rw [Array.toArray_toList]; exact h)

/-- A whole element is loaded, in the middle of a block. -/
theorem wpList_loadM (hT : RowT P T n) (hgd : o.guard = none) (x : Operand) (ho : o.op = .load T x) (b off : Nat) (hx : ac.eval x = .pointer (some ⟨b, off, none⟩)) (cs : Array Value) (hr : w.rangeAt b off cs.toList) (hn : cs.size = n)
    (h : wpList P ops Q rest (ac.put o.dst (.agg cs)) w) : wpList P ops Q (o :: rest) ac w :=
  wpList_plain hgd fun _ hK => wp_loadM hT x ho b off hx cs hr hn (hK _ _ h)
theorem wpList_loadMW (hT : RowT P T n) (hw : Region.wanted o (yielded ops ac.tmps) = true) (x : Operand) (ho : o.op = .load T x) (b off : Nat) (hx : ac.eval x = .pointer (some ⟨b, off, none⟩)) (cs : Array Value) (hr : w.rangeAt b off cs.toList) (hn : cs.size = n)
    (h : wpList P ops Q rest (ac.put o.dst (.agg cs)) w) : wpList P ops Q (o :: rest) ac w :=
  wpList_step fun _ hK => by
    rw [if_pos hw]
    exact wp_loadM hT x ho b off hx cs hr hn (hK _ _ h)

theorem wp_putM (hk : EnK enc k) (hT : RowT P T k) (x y : Operand) (ho : o.op = .store T x y) {g : Nat} (hown : OK enc k E B w (some ⟨g, 0, none⟩) n c l) (i : Nat) (hi : i < n) (p : α) (cells : Array Value) (hcs : cells.toList = enc p)
    (hx : ac.eval x = .pointer (some ⟨g, i * k, none⟩)) (hy : ac.eval y = .agg cells) (h1 : cells.all (·.oneCell') = true)
    (h : ∀ w', OK enc k E B w' (some ⟨g, 0, none⟩) n c (l.set i p) → Wr g w w' → w'.heap.size = w.heap.size → K (ac.put o.dst undef) w') : o.wp P ac w K Q := by
  have hs : cells.size = k := by rw [← Array.length_toList, hcs, hk.len]
  refine wp_store_mid T x y ho g (i * k) cells hx hy (by rw [hs]; exact hown.there hk hi) (by rw [hT.size, hs]) h1 ?_
  rw [hcs]
  exact h _ (hown.put hk hi p) (wr_setCells g _ _ _) (sz_setCells g _ _ _)

/-- A whole element is stored, in a row that the call owns. -/
theorem wpList_putM (hk : EnK enc k) (hT : RowT P T k) (hgd : o.guard = none) (x y : Operand) (ho : o.op = .store T x y) {g : Nat} (hown : OK enc k E B w (some ⟨g, 0, none⟩) n c l) (i : Nat) (hi : i < n) (p : α) (cells : Array Value) (hcs : cells.toList = enc p)
    (hx : ac.eval x = .pointer (some ⟨g, i * k, none⟩)) (hy : ac.eval y = .agg cells) (h1 : cells.all (·.oneCell') = true)
    (h : ∀ w', OK enc k E B w' (some ⟨g, 0, none⟩) n c (l.set i p) → Wr g w w' → w'.heap.size = w.heap.size → wpList P ops Q rest (ac.put o.dst undef) w') : wpList P ops Q (o :: rest) ac w :=
  wpList_plain hgd fun _ hK => wp_putM hk hT x y ho hown i hi p cells hcs hx hy h1 fun w' a b c => hK _ _ (h w' a b c)
theorem draw_putM (hk : EnK enc k) (hT : RowT P T k) (hgd : o.guard = none) (x y : Operand) (ho : o.op = .store T x y) {g : Nat} (hown : OK enc k E B w (some ⟨g, 0, none⟩) n c l) (i : Nat) (hi : i < n) (p : α) (cells : Array Value) (hcs : cells.toList = enc p)
    (hx : ac.eval x = .pointer (some ⟨g, i * k, none⟩)) (hy : ac.eval y = .agg cells) (h1 : cells.all (·.oneCell') = true)
    (h : ∀ w', OK enc k E B w' (some ⟨g, 0, none⟩) n c (l.set i p) → Wr g w w' → w'.heap.size = w.heap.size → K (ac.put o.dst undef) w') : if Region.wanted o (yielded ops ac.tmps) = true then Oper.wp P o ac w K Q else K (ac.put o.dst undef) w := by
  rw [if_pos (by simp [Region.wanted, hgd])]
  exact wp_putM hk hT x y ho hown i hi p cells hcs hx hy h1 h

variable {z : Value} {bytes : Nat}
theorem made_flat (hk : EnK enc k) (hp : 0 < k) (zs : Array Value) (z0 : α) (hz : zs.toList = enc z0) (n : Nat) : (madeCells zs (n * k)).toList = (List.replicate n z0).flatMap enc := by
  have hzs : zs.size = k := by rw [← Array.length_toList, hz, hk.len]
  apply List.ext_getElem?
  intro p
  by_cases hlt : p < n * k
  · have hq : p / k < n := (Nat.div_lt_iff_lt_mul hp).2 hlt
    have hm : p % k < k := Nat.mod_lt _ hp
    have he : p / k * k + p % k = p := by rw [Nat.mul_comm]; exact Nat.div_add_mod p k
    obtain ⟨v, hv⟩ : ∃ v, (enc z0)[p % k]? = some v := ⟨_, List.getElem?_eq_getElem (by rw [hk.len]; exact hm)⟩
    have h2 := flat_at hk (List.replicate n z0) (p / k) (p % k) z0 v (by simp [hq]) hv
    rw [he] at h2
    rw [h2]
    unfold madeCells
    rw [← hz] at hv
    have hv' : zs[p % zs.size]? = some v := by rw [hzs]; simpa using hv
    have : (zs[p % zs.size]!) = v := by rw [Array.getElem!_eq_getD, Array.getD_eq_getD_getElem?, hv']; rfl
    simp [hlt, this]
  · rw [List.getElem?_eq_none (by rw [Array.length_toList, size_madeCells]; omega), List.getElem?_eq_none (by rw [flat_len hk, List.length_replicate]; omega)]

theorem run_mkK {P : Program} (hT : ElK P T E k z bytes) (hk : EnK enc k) (z0 : α) (hz : z.cells.toList = enc z0) (w : World) (kl kc : IntKind) (n : Nat) (h63 : n ≤ 1000000) (hby : bytes ≤ 1000) :
    (Instr.makeSlice T (.int kl (n : Int)) (.int kc (n : Int))).run P w = .ok (.slice (some ⟨w.heap.size, 0, none⟩) n n) (w.alloc (.cells (madeCells z.cells (n * k)) E)) ∧
      OK enc k E w.heap.size (w.alloc (.cells (madeCells z.cells (n * k)) E)) (some ⟨w.heap.size, 0, none⟩) n n (List.replicate n z0) := by
  obtain ⟨i, hi, hz0, hz1, hz2⟩ := info_parts hT.info
  have hb2 : ((i.bytes * n : Nat) : Int) ≤ 281474976710656 := by
    have := Nat.mul_le_mul hby h63
    rw [hz2]; omega
  have hr := run_make (P := P) w T E i z hT.und hi hz0 kl kc n n (by omega) (Int.le_refl _) (by rw [Int.natCast_mul] at hb2; exact hb2) (by omega)
  rw [hz1] at hr
  simp only [Int.toNat_natCast] at hr
  exact ⟨hr, ok_of_cells hk (heap_alloc_new w _) (Nat.le_refl _) (by omega) (by simp) (made_flat hk hT.pos _ z0 hz n)⟩

/-- 'make([]T, n)', elements of k cells. -/
theorem wpList_mkK (hT : ElK P T E k z bytes) (hk : EnK enc k) (z0 : α) (hz : z.cells.toList = enc z0) (hgd : o.guard = none) (lo co : Operand) (ho : o.op = Op.makeSlice T lo co) (n : Nat) (L C : Int) (kl kc : IntKind)
    (hl : ac.eval lo = .int kl L) (hc : ac.eval co = .int kc C) (hL : L = (n : Int)) (hC : C = (n : Int)) (h63 : n ≤ 1000000) (hby : bytes ≤ 1000)
    (h : ∀ w', OK enc k E w.heap.size w' (some ⟨w.heap.size, 0, none⟩) n n (List.replicate n z0) → Below w.heap.size w w' → w'.heap.size = w.heap.size + 1 → wpList P ops Q rest (ac.put o.dst (.slice (some ⟨w.heap.size, 0, none⟩) n n)) w') :
    wpList P ops Q (o :: rest) ac w := by
  subst hL
  subst hC
  refine wpList_plain hgd fun K hK' => ?_
  obtain ⟨hr, hok⟩ := run_mkK hT hk z0 hz w kl kc n h63 hby
  unfold Oper.wp
  simp [execOp, ho, hl, hc, hr, Result.andThen]
  exact hK' _ _ (h _ hok ((Below.refl _ _).alloc (Nat.le_refl _) _) (by simp))
end

/-- A node: a controller, and where its slices lie. -/
abbrev Nd := Ct × Sl
def enC (p : Nd) : List Value := (ctA p.1 p.2).toList
theorem enC_k : EnK enC 26 := ⟨fun _ => rfl, fun p v hv => (Array.all_eq_true_iff_forall_mem.1 (ct_ones p.1 p.2)) v (by simpa [enC] using hv)⟩
theorem elC : ElK Try.prog 57 37 26 (.agg ctZ) 184 := ⟨by kernel_rfl, by kernel_rfl, by kernel_rfl, by kernel_rfl, rfl, by omega⟩
/-- What happened, and where its data lie. -/
abbrev Hd := Hp × (Option Addr × Nat)
def enH (p : Hd) : List Value := (hapA p.1 p.2.1 p.2.2).toList
theorem enH_k : EnK enH 6 := ⟨fun _ => rfl, fun p v hv => (Array.all_eq_true_iff_forall_mem.1 (hap_ones p.1 p.2.1 p.2.2)) v (by simpa [enH] using hv)⟩
theorem elH : ElK Try.prog 64 44 6 (.agg hap0) 40 := ⟨by kernel_rfl, by kernel_rfl, by kernel_rfl, by kernel_rfl, rfl, by omega⟩
theorem rowN : RowT Try.prog 59 3 := rowT_of (by kernel_rfl) (by kernel_rfl)
theorem rowLn : RowT Try.prog 66 4 := rowT_of (by kernel_rfl) (by kernel_rfl)
end Go.Proofs.Ytpcmlnleompibaa

namespace Go.Proofs.Ytpcmlnleompibaa
open Go.RowKit Go.Sort
set_option linter.unusedVariables false

/-- Where a net's lists lie. -/
structure Na where
  na : Option Addr
  nc : Nat
  ca : Option Addr
  cc : Nat
/-- The cells of a net. -/
def ntA (s : Na) (n m : Nat) (z : Int) : Array Value := #[.slice s.na n s.nc, .slice s.ca m s.cc, .int .i64 z]
theorem nt_ones (s : Na) (n m : Nat) (z : Int) : (ntA s n m z).all (·.oneCell') = true := by kernel_rfl

/-- A net, read: its nodes, and which of them are crashed. -/
structure NtR (w : World) (s : Na) (ps : List Nd) (cr : List Bool) : Prop where
  nod : RK enC 26 w s.na ps.length s.nc ps
  cra : RL .bool w s.ca cr.length s.cc cr
  sl : ∀ p ∈ ps, CtR w p.1 p.2
/-- .. in memory of its own, from B on; its lists lie in blocks of their own. -/
structure NtO (B : Nat) (w : World) (s : Na) (ps : List Nd) (cr : List Bool) : Prop where
  nod : OK enC 26 37 B w s.na ps.length s.nc ps
  cra : OL .bool 4 B w s.ca cr.length s.cc cr
  sl : ∀ p ∈ ps, CtO B w p.1 p.2
  sn : ∀ g, s.na = some ⟨g, 0, none⟩ → (∀ p ∈ ps, NBs p.2 g) ∧ NB s.ca g
  sc : ∀ g, s.ca = some ⟨g, 0, none⟩ → (∀ p ∈ ps, NBs p.2 g) ∧ NB s.na g

section
variable {B : Nat} {w w1 : World} {s : Na} {ps : List Nd} {cr : List Bool}
theorem NtR.below (h : NtR w s ps cr) (k : Below w.heap.size w w1) : NtR w1 s ps cr := ⟨h.nod.below k, h.cra.below k, fun p hp => (h.sl p hp).below k⟩
theorem NtO.r (h : NtO B w s ps cr) : NtR w s ps cr := ⟨h.nod.rk enC_k, h.cra.rl, fun p hp => (h.sl p hp).r⟩
theorem NtO.below (h : NtO B w s ps cr) (k : Below w.heap.size w w1) : NtO B w1 s ps cr := ⟨h.nod.below k, h.cra.below k, fun p hp => (h.sl p hp).below k, h.sn, h.sc⟩
theorem NtO.mono {B' : Nat} (h : NtO B w s ps cr) (hB : B' ≤ B) : NtO B' w s ps cr := ⟨h.nod.mono hB, h.cra.mono hB, fun p hp => (h.sl p hp).mono hB, h.sn, h.sc⟩
/-- A block below is written. -/
theorem NtO.setRow (h : NtO B w s ps cr) {g : Nat} (hg : g < B) (cs : Array Value) : NtO B (w.setRow g cs) s ps cr :=
  ⟨h.nod.kept fun q hq => setRow_other _ _ _ _ (by have := (h.nod.ltB hq).2; simp at this; omega), h.cra.kept fun q hq => setRow_other _ _ _ _ (by have := (h.cra.ltB hq).2; simp at this; omega), fun p hp => (h.sl p hp).setRow ((h.sl p hp).nbs hg) cs, h.sn, h.sc⟩
end

/-- A box of three cells. -/
theorem bx3 {w : World} {g : Nat} {E : TypeId} {v0 v1 v2 : Value} (h : w.heap[g]? = some (.cells #[v0, v1, v2] E (0, 0))) :
    w.cell? ⟨g, 0, none⟩ = some v0 ∧ w.cell? ⟨g, 1, none⟩ = some v1 ∧ w.cell? ⟨g, 2, none⟩ = some v2 :=
  ⟨by rw [cell_of_row w g 0 _ _ _ h]; rfl, by rw [cell_of_row w g 1 _ _ _ h]; rfl, by rw [cell_of_row w g 2 _ _ _ h]; rfl⟩
theorem bx4 {w : World} {g : Nat} {E : TypeId} {v0 v1 v2 v3 : Value} (h : w.heap[g]? = some (.cells #[v0, v1, v2, v3] E (0, 0))) :
    w.cell? ⟨g, 0, none⟩ = some v0 ∧ w.cell? ⟨g, 1, none⟩ = some v1 ∧ w.cell? ⟨g, 2, none⟩ = some v2 ∧ w.cell? ⟨g, 3, none⟩ = some v3 :=
  ⟨by rw [cell_of_row w g 0 _ _ _ h]; rfl, by rw [cell_of_row w g 1 _ _ _ h]; rfl, by rw [cell_of_row w g 2 _ _ _ h]; rfl, by rw [cell_of_row w g 3 _ _ _ h]; rfl⟩

theorem has_any (w : World) (s : Na) (n m : Nat) (z k : Int) : Calls Try.prog 45 #[.agg (ntA s n m z), .int .i64 k] w fun e w' => e = .returned (.bool (decide (0 ≤ k ∧ k < (n : Int)))) ∧ Below w.heap.size w w' := by
  have g0 := bnew0 w (.cells (ntA s n m z) 59)
  have q0 := (bx3 (heap_alloc_new w (.cells (ntA s n m z) 59))).1
  by_cases h0 : 0 ≤ k
  · by_cases h1 : k < (n : Int)
    · go_enter Try.func45, Try.ntmps45
      go_wp2
      go_ret
      exact ⟨ret_bool (a := true) (by simp [h0, h1]), g0⟩
    · go_enter Try.func45, Try.ntmps45
      go_wp2
      go_ret
      exact ⟨ret_bool (a := false) (by simp [h1]), g0⟩
  · go_enter Try.func45, Try.ntmps45
    go_wp2
    go_ret
    exact ⟨ret_bool (a := false) (by simp; omega), g0⟩

/-- Is there a node with that number that has not crashed? -/
def upB (n : Nat) (cr : List Bool) (k : Int) : Bool := decide (0 ≤ k ∧ k < (n : Int)) && (decide ((cr.length : Int) ≤ k) || !(cr[k.toNat]?.getD false))

theorem up_any (w : World) (s : Na) (n : Nat) (cr : List Bool) (z k : Int) (h : RL .bool w s.ca cr.length s.cc cr) (hn : n ≤ 1000000) (hm : cr.length ≤ 1000000) :
    Calls Try.prog 50 #[.agg (ntA s n cr.length z), .int .i64 k] w fun e w' => e = .returned (.bool (upB n cr k)) ∧ Below w.heap.size w w' := by
  obtain ⟨sna, snc, sca, scc⟩ := s
  have g0 := bnew0 w (.cells (ntA ⟨sna, snc, sca, scc⟩ n cr.length z) 59)
  have hb0 := heap_alloc_new w (.cells (ntA ⟨sna, snc, sca, scc⟩ n cr.length z) 59)
  have hH := fun w1 => has_any w1 ⟨sna, snc, sca, scc⟩ n cr.length z k
  obtain ⟨x, hx⟩ : ∃ x, x = upB n cr k := ⟨_, rfl⟩
  rw [← hx]
  by_cases h0 : 0 ≤ k ∧ k < (n : Int)
  · rw [decide_eq_true h0] at hH
    obtain ⟨j, rfl⟩ : ∃ j : Nat, k = (j : Int) := ⟨k.toNat, by omega⟩
    by_cases h1 : j < cr.length
    · obtain ⟨b, off, y, hca, hy, hcy⟩ := h.at h1
      have hxy : x = !y := by rw [hx]; unfold upB; rw [decide_eq_true h0, decide_eq_false (by omega), Int.toNat_natCast, hy]; simp
      have HX := hid hxy
      simp only at hca
      subst hca
      have hcy0 : (w.alloc (.cells (ntA ⟨sna, snc, some ⟨b, off, none⟩, scc⟩ n cr.length z) 59)).cell? ⟨b, off + j, none⟩ = some (.bool y) := (g0.cell (p := ⟨b, _, none⟩) (block_lt_of_cell hcy)).trans hcy
      generalize cr.length = m at *
      clear hx hxy hy h h0 hcy
      go_enter Try.func50, Try.ntmps50
      go_wp2_with (first | (with_reducible refine wpList_loadR rowN rfl _ rfl _ rfl hb0 rfl ?_) | (go_at_call 45; (with_reducible refine (hH _).mono ?_); rintro e w1 ⟨rfl, g1⟩; have hb1 := bx_below hb0 g1; have q1 := (bx3 hb1).2.1; have hcy1 := (g1.cell (p := ⟨b, _, none⟩) (block_lt_of_cell hcy0)).trans hcy0; have gg := bstep g0 g1))
      go_ret
      exact ⟨ret_bool (a := decide (m ≤ j) || !y) (by rw [HX.out, decide_eq_false (by omega)]; rfl), gg⟩
    · have hxy : x = true := by rw [hx]; unfold upB; rw [decide_eq_true h0, decide_eq_true (by omega)]; simp
      have HX := hid hxy
      generalize cr.length = m at *
      clear hx hxy h h0
      go_enter Try.func50, Try.ntmps50
      go_wp2_with (first | (with_reducible refine wpList_loadR rowN rfl _ rfl _ rfl hb0 rfl ?_) | (go_at_call 45; (with_reducible refine (hH _).mono ?_); rintro e w1 ⟨rfl, g1⟩; have hb1 := bx_below hb0 g1; have q1 := (bx3 hb1).2.1; have gg := bstep g0 g1))
      go_ret
      exact ⟨by rw [HX.out]; rfl, gg⟩
  · rw [decide_eq_false h0] at hH
    have hxy : x = false := by rw [hx]; unfold upB; rw [decide_eq_false h0]; simp
    have HX := hid hxy
    generalize cr.length = m at *
    clear hx hxy h h0
    go_enter Try.func50, Try.ntmps50
    go_wp2_with (first | (with_reducible refine wpList_loadR rowN rfl _ rfl _ rfl hb0 rfl ?_) | (go_at_call 45; (with_reducible refine (hH _).mono ?_); rintro e w1 ⟨rfl, g1⟩; have gg := bstep g0 g1))
    go_ret
    exact ⟨by rw [HX.out]; rfl, gg⟩

/-- Numbers in memory. -/
abbrev zv (x : Int) : Value := .int .i64 x

theorem index_any (w : World) (a : Option Addr) (n c : Nat) (l : List Int) (x : Int) (h : RL zv w a n c l) (hn : n ≤ 1000000) :
    Calls Try.prog 72 #[.slice a n c, .int .i64 x] w fun e w' => ∃ r : Int, e = .returned (.int .i64 r) ∧ (0 ≤ r ↔ x ∈ l) ∧ w = w' := by
  go_enter Try.func72, Try.ntmps72
  go_wp2
  go_loop [8] (fun i => ∃ k : Nat, k ≤ n ∧ i = .int .i64 k ∧ Hid (x ∉ l.take k)) (fun i => n - (intOf i).toNat)
  case atStart => exact ⟨0, Nat.zero_le _, rfl, hid (by simp)⟩
  case round =>
    obtain ⟨k, hk, rfl, hno⟩ := hrel
    by_cases hlt : k < n
    · obtain ⟨b, off, y, rfl, hx, hck⟩ := h.at hlt
      have HX := hid hx; clear hx
      by_cases hxy : x = y
      · subst hxy
        go_wp2
        go_ret
        exact ⟨k, rfl, ⟨fun _ => List.mem_of_getElem? HX.out, fun _ => by omega⟩, rfl⟩
      · go_wp2
        go_round
        case rel => exact ⟨k + 1, by omega, by go_num, hid (by rw [take_snoc HX.out]; simp [hno.out, hxy])⟩
        case measure => simp [intOf]; omega
    · have hkn : Hid (l.take k = l) := hid (List.take_of_length_le (by rw [h.len]; omega))
      go_wp2
      go_ret
      exact ⟨-1, rfl, ⟨fun e => by omega, fun e => by have := hno.out; rw [hkn.out] at this; exact absurd e this⟩, rfl⟩

theorem contains_any (w : World) (a : Option Addr) (n c : Nat) (l : List Int) (x : Int) (h : RL zv w a n c l) (hn : n ≤ 1000000) :
    Calls Try.prog 47 #[.slice a n c, .int .i64 x] w fun e w' => e = .returned (.bool (decide (x ∈ l))) ∧ w = w' := by
  go_enter Try.func47, Try.ntmps47
  go_wp2_with (go_at_call 72; (with_reducible refine (index_any _ _ _ _ _ _ h hn).mono ?_); rintro e w1 ⟨r, rfl, hr, rfl⟩)
  go_ret
  exact ⟨rfl, rfl⟩
end Go.Proofs.Ytpcmlnleompibaa

namespace Go.Proofs.Ytpcmlnleompibaa
open Go.RowKit Go.Sort
set_option linter.unusedVariables false

/-- No lists. -/
def na0 : Na := ⟨none, 0, none, 0⟩
abbrev ntZ : Array Value := #[.slice none 0 0, .slice none 0 0, .int .i64 0]
/-- Controllers alone. -/
def cts (ps : List Nd) : List Ct := ps.map Prod.fst
theorem cts_len (ps : List Nd) : (cts ps).length = ps.length := by unfold cts; rw [List.length_map]

theorem set_mid {α : Type} (qs : List α) (n : Nat) (z x : α) (h : qs.length < n) : (qs ++ List.replicate (n - qs.length) z).set qs.length x = (qs ++ [x]) ++ List.replicate (n - (qs.length + 1)) z := by
  have e : n - qs.length = (n - (qs.length + 1)) + 1 := by omega
  rw [List.set_append_right _ _ (Nat.le_refl _), Nat.sub_self, e, List.replicate_succ]
  simp

/-- Behind k copies. -/
structure Ap (w wr : World) (s : Na) (n : Nat) (z : Int) (gC gN : Nat) (cr : List Bool) (ps qs : List Nd) (k : Nat) : Prop where
  box : wr.heap[w.heap.size]? = some (.cells (ntA s n n z) 59 (0, 0))
  res : wr.heap[w.heap.size + 1]? = some (.cells ntZ 59 (0, 0))
  cra : OL .bool 4 (w.heap.size + 2) wr (some ⟨gC, 0, none⟩) n n cr
  nod : OK enC 26 37 (gC + 1) wr (some ⟨gN, 0, none⟩) n n (qs ++ List.replicate (n - k) (c0, sl0))
  len : qs.length = k
  eqs : cts qs = cts (ps.take k)
  sl : ∀ p ∈ qs, CtO (gN + 1) wr p.1 p.2
  bel : Below w.heap.size w wr
  lt : w.heap.size + 2 ≤ gC ∧ gC < gN ∧ gN < wr.heap.size

section
variable {w wr w1 : World} {s : Na} {n : Nat} {z : Int} {gC gN : Nat} {cr : List Bool} {ps qs : List Nd} {k : Nat}
theorem Ap.call (h : Ap w wr s n z gC gN cr ps qs k) (g : Below wr.heap.size wr w1) : Ap w w1 s n z gC gN cr ps qs k :=
  ⟨bx_below h.box g, bx_below h.res g, h.cra.below g, h.nod.below g, h.len, h.eqs, fun p hp => (h.sl p hp).below g, bstep h.bel g, h.lt.1, h.lt.2.1, Nat.lt_of_lt_of_le h.lt.2.2 g.size⟩

theorem Ap.put (h : Ap w wr s n z gC gN cr ps qs k) (hk : k < n) (hn : ps.length = n) {c : Ct} {s0 s1 : Sl} (hx : ps[k]? = some (c, s0)) (ho : CtO (gN + 1) wr c s1)
    (hp : OK enC 26 37 (gC + 1) w1 (some ⟨gN, 0, none⟩) n n ((qs ++ List.replicate (n - k) (c0, sl0)).set k (c, s1))) (hw : Wr gN wr w1) (hs : w1.heap.size = wr.heap.size) : Ap w w1 s n z gC gN cr ps (qs ++ [(c, s1)]) (k + 1) := by
  obtain ⟨l1, l2, l3⟩ := h.lt
  have key : ∀ q, q < wr.heap.size → q ≠ gN → w1.heap[q]? = wr.heap[q]? := hw.block
  have kept : ∀ {c : Ct} {s : Sl}, CtO (gN + 1) wr c s → CtO (gN + 1) w1 c s := fun {c s} h' => h'.kept fun q => by
    by_cases e : q = gN
    · subst e; exact .inl (h'.nbs (by omega))
    · by_cases hq : q < wr.heap.size
      · exact .inr (key q hq e)
      · exact .inl (h'.fresh (by omega))
  have hl := h.len
  subst hl
  refine ⟨by rw [key _ (by have := h.box; exact bx_lt this) (by omega)]; exact h.box, by rw [key _ (bx_lt h.res) (by omega)]; exact h.res,
    h.cra.kept fun q hq => key q (by have := (h.cra.ltB hq).1; exact this) (by cases hq; omega), ?_, by simp, ?_, ?_, hw.below h.bel (by omega) l3, l1, l2, by omega⟩
  · rw [set_mid qs n (c0, sl0) (c, s1) hk] at hp
    exact hp
  · unfold cts
    rw [take_snoc hx, List.map_append, List.map_append]
    have := h.eqs
    unfold cts at this
    rw [this]; rfl
  · intro p hp2
    rw [List.mem_append, List.mem_singleton] at hp2
    rcases hp2 with hp2 | rfl
    · exact kept (h.sl p hp2)
    · exact kept ho
end

/-- What a copy asks of a controller: its lists are no longer than this. -/
def Shr (c : Ct) : Prop := c.give.data.length ≤ 1000000 ∧ c.wire.length ≤ 1000000 ∧ c.tk.l.length ≤ 1000000

set_option maxRecDepth 100000 in
set_option maxHeartbeats 4000000 in
theorem netApart_any (w : World) (s : Na) (ps : List Nd) (cr : List Bool) (n : Nat) (z : Int) (h : NtR w s ps cr) (hn : ps.length = n) (hm : cr.length = n) (hle : n ≤ 100000) (hS : ∀ p ∈ ps, Shr p.1) :
    Calls Try.prog 48 #[.agg (ntA s n n z)] w fun e w' => ∃ s', e = .returned (.agg (ntA s' n n z)) ∧ ∃ qs, qs.length = n ∧ cts qs = cts ps ∧ NtO w.heap.size w' s' qs cr ∧ Below w.heap.size w w' := by
  obtain ⟨sna, snc, sca, scc⟩ := s
  have hN := h.nod
  have hC := h.cra
  have hL := h.sl
  rw [hn] at hN
  rw [hm] at hC
  clear h
  simp only at hN hC
  have hb0 : ((w.alloc (.cells (ntA ⟨sna, snc, sca, scc⟩ n n z) 59)).alloc (.cells ntZ 59)).heap[w.heap.size]? = some (.cells (ntA ⟨sna, snc, sca, scc⟩ n n z) 59 (0, 0)) := bx_alloc _ (heap_alloc_new w _)
  have hr0 : ((w.alloc (.cells (ntA ⟨sna, snc, sca, scc⟩ n n z) 59)).alloc (.cells ntZ 59)).heap[w.heap.size + 1]? = some (.cells ntZ 59 (0, 0)) := by
    have := heap_alloc_new (w.alloc (.cells (ntA ⟨sna, snc, sca, scc⟩ n n z) 59)) (.cells ntZ 59); rwa [heap_size_alloc] at this
  have g0 : Below w.heap.size w ((w.alloc (.cells (ntA ⟨sna, snc, sca, scc⟩ n n z) 59)).alloc (.cells ntZ 59)) := bnew (bnew0 w _) _
  have z0 : ((w.alloc (.cells (ntA ⟨sna, snc, sca, scc⟩ n n z) 59)).alloc (.cells ntZ 59)).heap.size = w.heap.size + 2 := by simp
  have q0 := (bx3 hb0).1
  go_enter Try.func48, Try.ntmps48
  go_wp2_with (first
    | (at_make; refine wpList_mk (f := Value.bool) (n := n) tB false rfl rfl _ _ rfl _ _ _ _ rfl rfl rfl rfl (by omega) (by omega) ?_; intro w1 ho1 hb1 hs1
       have hbx1 := bx_below hb0 hb1
       have hr1 := bx_below hr0 hb1
       have gg1 := bstep g0 hb1
       have q1 := (bx3 hbx1).2.1
       rw [z0] at ho1 hs1)
    | (with_reducible refine wpList_cp (f := Value.bool) (n := n) tB rfl _ _ rfl rfl rfl ho1 (hC.below gg1) (fun _ => rfl) ?_; intro w2 ho2 hb2
       have hbx2 : w2.heap[w.heap.size]? = _ := (hb2.block _ (by omega)).trans hbx1
       have hr2 : w2.heap[w.heap.size + 1]? = _ := (hb2.block _ (by omega)).trans hr1
       have gg2 : Below w.heap.size w w2 := gg1.trans (hb2.mono (by omega))
       have hs2 : w.heap.size + 3 ≤ w2.heap.size := Nat.le_trans (Nat.le_of_eq hs1.symm) hb2.size
       have q2 := (bx3 hbx2).1)
    | (at_make; refine wpList_mkK (n := n) elC enC_k (c0, sl0) rfl rfl _ _ rfl _ _ _ _ rfl rfl rfl rfl (by omega) (by omega) ?_; intro w3 ho3 hb3 hs3
       have hbx3 := bx_below hbx2 hb3
       have hr3 := bx_below hr2 hb3
       have gg3 := bstep gg2 hb3
       have hc3 := ho2.below hb3
       have q3 := (bx3 hbx3).1))
  have A0 : Ap w w3 ⟨sna, snc, sca, scc⟩ n z (w.heap.size + 2) w2.heap.size cr ps [] 0 :=
    ⟨hbx3, hr3, hc3, by
      have := ho3.mono hs2
      exact this, rfl, rfl, fun p hp => (by cases hp), gg3, Nat.le_refl _, by omega, by omega⟩
  clear hbx3 hr3 hc3 gg3 ho3 hb3 hs3 q3 q2 q1 gg2 gg1 hr2 hr1 hbx1 hbx2 ho2 ho1 hb1 hs1 hb2 q0 z0 g0 hr0 hb0
  obtain ⟨gN, hgN⟩ : ∃ gN, gN = w2.heap.size := ⟨_, rfl⟩
  rw [← hgN] at A0 ⊢
  clear hgN hs2
  go_loopg [22] n (fun gn i wr => ∃ (k : Nat) (qs : List Nd), k ≤ n ∧ gn = n - k ∧ i = .int .i64 (k : Int) ∧ Ap w wr ⟨sna, snc, sca, scc⟩ n z (w.heap.size + 2) gN cr ps qs k)
  case atStart => exact ⟨0, [], by omega, rfl, rfl, A0⟩
  case round =>
    clear A0
    obtain ⟨k, qs, hk, rfl, rfl, hA⟩ := hrel
    by_cases hlt : k < n
    · obtain ⟨⟨c, s0⟩, hx⟩ : ∃ x, ps[k]? = some x := ⟨ps[k]'(by omega), by simp [hn, hlt]⟩
      have hmem : (c, s0) ∈ ps := List.mem_of_getElem? hx
      obtain ⟨b, off, hab, hbl, hr⟩ := hN.range hx
      have hr1 : wr.rangeAt b (off + k * 26) (ctA c s0).toList := fun j v hv => (hA.bel.cell (p := ⟨b, _, none⟩) hbl).trans (hr j v hv)
      have hcl := apart_any
      have hR : CtR wr c s0 := (hL _ hmem).below hA.bel
      obtain ⟨d1, d2, d3⟩ := hS _ hmem
      simp only at d1 d2 d3
      have hz1 := heap_alloc_new wr (.cells ctZ 37)
      have hW1 : Below wr.heap.size wr ((wr.alloc (.cells ctZ 37)).setRow wr.heap.size (ctA c s0)) := below_setRow (bnew0 wr _) (Nat.le_refl _) _
      have hb2 : ((wr.alloc (.cells ctZ 37)).setRow wr.heap.size (ctA c s0)).heap[wr.heap.size]? = some (.cells (ctA c s0) 37 (0, 0)) := setRow_heap _ _ _ _ _ _ hz1
      have hA2 := hA.call hW1
      have hR2 := hR.below hW1
      subst hab
      clear hr hbl hR hA hcl
      have HX := hid hx
      clear hx hmem
      go_wp2_with (first
        | (with_reducible refine wpList_loadM rowC rfl _ rfl b (off + k * 26) rfl (ctA c s0) hr1 rfl ?_)
        | (with_reducible refine wpList_storeR rowC rfl _ _ rfl _ _ rfl rfl hz1 rfl rfl (ct_ones _ _) ?_)
        | (with_reducible refine wpList_loadR rowC rfl _ rfl _ rfl hb2 rfl ?_)
        | (go_at_call 32; (with_reducible refine (apart_any _ c s0 hR2 d1 d2 d3).mono ?_); rintro e w4 ⟨s4, rfl, o4, g4⟩
           have hA4 := hA2.call g4
           have l4 := hA2.lt
           have hnod4 := hA4.nod)
        | (with_reducible refine wpList_putM enC_k rowC rfl _ _ rfl hnod4 k hlt (c, s4) (ctA c s4) rfl rfl rfl (ct_ones _ _) ?_; intro w5 o5 y5 z5))
      have A5 := hA4.put hlt hn HX.out (o4.mono l4.2.2) o5 y5 z5
      clear hA2 hA4 o4 g4 o5 y5 z5 hnod4 hz1 hW1 hb2 hr1 hR2 d1 d2 d3
      go_roundg (n - (k + 1))
      case measure => go_light; omega
      case rel => go_light; exact ⟨k + 1, _, by omega, rfl, by go_num, A5⟩
    · obtain rfl : k = n := by omega
      have hqs : qs.length = k := hA.len
      have heq : cts qs = cts ps := by have := hA.eqs; rwa [List.take_of_length_le (by omega)] at this
      have hnod := hA.nod
      rw [Nat.sub_self, List.replicate_zero, List.append_nil] at hnod
      obtain ⟨l1, l2, l3⟩ := hA.lt
      have q0 := (bx3 hA.box).1
      have q1 := (bx3 hA.box).2.1
      have f0 := bx_thaw hA.box
      have hb6 : ((wr.setCell ⟨w.heap.size, 0, none⟩ (.slice (some ⟨gN, 0, none⟩) k k)).setCell ⟨w.heap.size, 1, none⟩ (.slice (some ⟨w.heap.size + 2, 0, none⟩) k k)).heap[w.heap.size]? = some (.cells (ntA ⟨some ⟨gN, 0, none⟩, k, some ⟨w.heap.size + 2, 0, none⟩, k⟩ k k z) 59 (0, 0)) :=
        heap_setCell_same _ _ 1 _ _ _ (heap_setCell_same _ _ 0 _ _ _ hA.box)
      have hk6 : ∀ q, q ≠ w.heap.size → ((wr.setCell ⟨w.heap.size, 0, none⟩ (.slice (some ⟨gN, 0, none⟩) k k)).setCell ⟨w.heap.size, 1, none⟩ (.slice (some ⟨w.heap.size + 2, 0, none⟩) k k)).heap[q]? = wr.heap[q]? := fun q hq => by
        rw [heap_setCell_other _ _ _ _ hq, heap_setCell_other _ _ _ _ hq]
      have hr6 := (hk6 (w.heap.size + 1) (by omega)).trans hA.res
      have g6 : Below w.heap.size w ((wr.setCell ⟨w.heap.size, 0, none⟩ (.slice (some ⟨gN, 0, none⟩) k k)).setCell ⟨w.heap.size, 1, none⟩ (.slice (some ⟨w.heap.size + 2, 0, none⟩) k k)) := (hA.bel.setCell (Nat.le_refl _) _).setCell (Nat.le_refl _) _
      have hsl := hA.sl
      have hcra := hA.cra
      clear hA hN hC hL hS
      go_wp2_with (first
        | (with_reducible refine wpList_loadR rowN rfl _ rfl _ rfl hb6 rfl ?_)
        | (with_reducible refine wpList_storeR rowN rfl _ _ rfl _ _ rfl rfl hr6 rfl rfl (nt_ones _ _ _ _) ?_))
      have hk7 : ∀ q, q ≠ w.heap.size → q ≠ w.heap.size + 1 → (((wr.setCell ⟨w.heap.size, 0, none⟩ (.slice (some ⟨gN, 0, none⟩) k k)).setCell ⟨w.heap.size, 1, none⟩ (.slice (some ⟨w.heap.size + 2, 0, none⟩) k k)).setRow (w.heap.size + 1) (ntA ⟨some ⟨gN, 0, none⟩, k, some ⟨w.heap.size + 2, 0, none⟩, k⟩ k k z)).heap[q]? = wr.heap[q]? := fun q h1 h2 => (setRow_other _ _ _ _ h2).trans (hk6 q h1)
      have g7 : Below w.heap.size w (((wr.setCell ⟨w.heap.size, 0, none⟩ (.slice (some ⟨gN, 0, none⟩) k k)).setCell ⟨w.heap.size, 1, none⟩ (.slice (some ⟨w.heap.size + 2, 0, none⟩) k k)).setRow (w.heap.size + 1) (ntA ⟨some ⟨gN, 0, none⟩, k, some ⟨w.heap.size + 2, 0, none⟩, k⟩ k k z)) := below_setRow g6 (by omega) _
      have hr7 : (((wr.setCell ⟨w.heap.size, 0, none⟩ (.slice (some ⟨gN, 0, none⟩) k k)).setCell ⟨w.heap.size, 1, none⟩ (.slice (some ⟨w.heap.size + 2, 0, none⟩) k k)).setRow (w.heap.size + 1) (ntA ⟨some ⟨gN, 0, none⟩, k, some ⟨w.heap.size + 2, 0, none⟩, k⟩ k k z)).heap[w.heap.size + 1]? = some (.cells (ntA ⟨some ⟨gN, 0, none⟩, k, some ⟨w.heap.size + 2, 0, none⟩, k⟩ k k z) 59 (0, 0)) := setRow_heap _ _ _ _ _ _ hr6
      refine bodyPost_ret (v := .agg (ntA ⟨some ⟨gN, 0, none⟩, k, some ⟨w.heap.size + 2, 0, none⟩, k⟩ k k z)) (results_row rowN rfl _ _ _ rfl hr7 rfl) rfl ⟨_, rfl, qs, hqs, heq, ⟨?_, ?_, ?_, ?_, ?_⟩, g7⟩
      · rw [hqs]
        refine (hnod.mono (show w.heap.size ≤ w.heap.size + 2 + 1 by omega)).kept fun q hq => hk7 q ?_ ?_
        · cases hq; omega
        · cases hq; omega
      · rw [hm]
        refine (hcra.mono (show w.heap.size ≤ w.heap.size + 2 by omega)).kept fun q hq => hk7 q ?_ ?_
        · cases hq; simp
        · cases hq; simp
      · intro p hp
        exact ((hsl p hp).kept fun q => by
          by_cases e1 : q = w.heap.size
          · exact .inl ((hsl p hp).nbs (by omega))
          · by_cases e2 : q = w.heap.size + 1
            · exact .inl ((hsl p hp).nbs (by omega))
            · exact .inr (hk7 q e1 e2)).mono (by omega)
      · intro g hg
        cases hg
        exact ⟨fun p hp => (hsl p hp).nbs (by omega), fun q hq e => by cases hq; simp at e; omega⟩
      · intro g hg
        cases hg
        exact ⟨fun p hp => (hsl p hp).nbs (by omega), fun q hq e => by cases hq; simp at e; omega⟩
end Go.Proofs.Ytpcmlnleompibaa

namespace Go.Proofs.Ytpcmlnleompibaa
open Go.RowKit Go.Sort
set_option linter.unusedVariables false

/-- What each node drives: those that are crashed recessive. -/
def dvL (cs : List Ct) (cr : List Bool) : List Bool := List.zipWith (fun c x => x || dvC c) cs cr

theorem dvL_at {cs : List Ct} {cr : List Bool} {k : Nat} {c : Ct} {x : Bool} (h : cs[k]? = some c) (h2 : cr[k]? = some x) : (dvL cs cr)[k]? = some (x || dvC c) := by
  unfold dvL
  rw [List.getElem?_zipWith, h, h2]
theorem dvL_len {cs : List Ct} {cr : List Bool} (h : cr.length = cs.length) : (dvL cs cr).length = cs.length := by
  unfold dvL; rw [List.length_zipWith, h, Nat.min_self]
theorem cts_at {ps : List Nd} {k : Nat} {p : Nd} (h : ps[k]? = some p) : (cts ps)[k]? = some p.1 := by
  unfold cts; rw [List.getElem?_map, h]; rfl

/-- Behind k nodes. -/
structure Dr (w wr : World) (s : Na) (n : Nat) (z : Int) (ps : List Nd) (cr : List Bool) (k : Nat) (a : Option Addr) (c : Nat) : Prop where
  box : wr.heap[w.heap.size]? = some (.cells (ntA s n n z) 59 (0, 0))
  out : OL .bool 4 (w.heap.size + 1) wr a k c ((dvL (cts ps) cr).take k)
  bel : Below w.heap.size w wr

section
variable {w wr w1 : World} {s : Na} {n : Nat} {z : Int} {ps : List Nd} {cr : List Bool} {k : Nat} {a : Option Addr} {c : Nat}
theorem Dr.call (h : Dr w wr s n z ps cr k a c) (g : Below wr.heap.size wr w1) : Dr w w1 s n z ps cr k a c := ⟨bx_below h.box g, h.out.below g, bstep h.bel g⟩
theorem Dr.app {a6 : Option Addr} {c6 : Nat} (h : Dr w wr s n z ps cr k a c) (o : Obj) (h6 : OL .bool 4 (w.heap.size + 1) w1 a6 (k + 1) c6 ((dvL (cts ps) cr).take (k + 1))) (b6 : Below (w.heap.size + 1) (wr.alloc o) w1) : Dr w w1 s n z ps cr (k + 1) a6 c6 :=
  ⟨(b6.block _ (by omega)).trans (bx_alloc o h.box), h6, (bnew h.bel o).trans (b6.mono (by omega))⟩
theorem Dr.size (h : Dr w wr s n z ps cr k a c) : w.heap.size + 1 ≤ wr.heap.size := bx_lt h.box
end

set_option maxRecDepth 100000 in
set_option maxHeartbeats 4000000 in
theorem drives_any (w : World) (s : Na) (ps : List Nd) (cr : List Bool) (n : Nat) (z : Int) (h : NtR w s ps cr) (hn : ps.length = n) (hm : cr.length = n) (hle : n ≤ 100000) (hS : ∀ p ∈ ps, StepOK p.1) :
    Calls Try.prog 49 #[.agg (ntA s n n z)] w fun e w' => ∃ a c, e = .returned (.slice a n c) ∧ OL .bool 4 w.heap.size w' a n c (dvL (cts ps) cr) ∧ Below w.heap.size w w' := by
  obtain ⟨sna, snc, sca, scc⟩ := s
  have hN := h.nod
  have hC := h.cra
  have hL := h.sl
  rw [hn] at hN
  rw [hm] at hC
  clear h
  simp only at hN hC
  have hb0 := heap_alloc_new w (.cells (ntA ⟨sna, snc, sca, scc⟩ n n z) 59)
  have g0 : Below w.heap.size w (w.alloc (.cells (ntA ⟨sna, snc, sca, scc⟩ n n z) 59)) := bnew0 w _
  have q0 := (bx3 hb0).1
  have D0 : Dr w (w.alloc (.cells (ntA ⟨sna, snc, sca, scc⟩ n n z) 59)) ⟨sna, snc, sca, scc⟩ n z ps cr 0 none 0 := ⟨hb0, OL.nil _ _ _ _, g0⟩
  have hcl : (cts ps).length = n := by rw [cts_len, hn]
  have hdl : Hid ((dvL (cts ps) cr).length = n) := hid (by rw [dvL_len (by rw [hcl, hm]), hcl])
  go_enter Try.func49, Try.ntmps49
  go_wp2
  clear hb0 g0 q0
  go_loopg [3, 9] n (fun gn v i wr => ∃ (k : Nat) (a : Option Addr) (c : Nat), k ≤ n ∧ gn = n - k ∧ v = .slice a k c ∧ i = .int .i64 (k : Int) ∧ Dr w wr ⟨sna, snc, sca, scc⟩ n z ps cr k a c)
  case atStart => exact ⟨0, none, 0, by omega, rfl, rfl, rfl, D0⟩
  case round =>
    clear D0
    obtain ⟨k, ao, co, hk, rfl, rfl, rfl, hD⟩ := hrel
    by_cases hlt : k < n
    · obtain ⟨⟨c, s0⟩, hx⟩ : ∃ x, ps[k]? = some x := ⟨ps[k]'(by omega), by simp [hn, hlt]⟩
      have hmem : (c, s0) ∈ ps := List.mem_of_getElem? hx
      obtain ⟨b, off, hab, hbl, hr⟩ := hN.range hx
      have hr1 : wr.rangeAt b (off + k * 26) (ctA c s0).toList := fun j v hv => (hD.bel.cell (p := ⟨b, _, none⟩) hbl).trans (hr j v hv)
      obtain ⟨b2, off2, x, hab2, hx2, hc2⟩ := hC.at hlt
      have hR : CtR wr c s0 := (hL _ hmem).below hD.bel
      have hok : StepOK c := hS _ hmem
      have hz1 := heap_alloc_new wr (.cells ctZ 37)
      have hW1 : Below wr.heap.size wr ((wr.alloc (.cells ctZ 37)).setRow wr.heap.size (ctA c s0)) := below_setRow (bnew0 wr _) (Nat.le_refl _) _
      have hb2 : ((wr.alloc (.cells ctZ 37)).setRow wr.heap.size (ctA c s0)).heap[wr.heap.size]? = some (.cells (ctA c s0) 37 (0, 0)) := setRow_heap _ _ _ _ _ _ hz1
      have hD2 := hD.call hW1
      have hR2 := hR.below hW1
      have hc22 : ((wr.alloc (.cells ctZ 37)).setRow wr.heap.size (ctA c s0)).cell? ⟨b2, off2 + k, none⟩ = some (.bool x) := (hD2.bel.cell (p := ⟨b2, _, none⟩) (block_lt_of_cell hc2)).trans hc2
      have q1 := (bx3 hD2.box).2.1
      have HV : Hid ((dvL (cts ps) cr)[k]? = some (x || dvC c)) := hid (dvL_at (cts_at hx) hx2)
      have hDv := drive_any _ c s0 hR2 hok.ph (fun e1 e2 => (hok.sn e1 e2).1)
      subst hab hab2
      clear hr hbl hR hD hx hx2 hc2 hmem hok hR2
      have HW := hid (rfl : ((wr.alloc (.cells ctZ 37)).setRow wr.heap.size (ctA c s0)) = ((wr.alloc (.cells ctZ 37)).setRow wr.heap.size (ctA c s0)))
      go_upto_region 5 with (first
        | (with_reducible refine wpList_loadM rowC rfl _ rfl b (off + k * 26) rfl (ctA c s0) hr1 rfl ?_)
        | (with_reducible refine wpList_storeR rowC rfl _ _ rfl _ _ rfl rfl hz1 rfl rfl (ct_ones _ _) ?_))
      generalize (wr.alloc (.cells ctZ 37)).setRow wr.heap.size (ctA c s0) = w2 at *
      clear hz1 hW1 hr1
      have ls := hD2.size
      cases x with
      | true =>
        go_wp2_with (at_builtin; refine wpList_app (f := Value.bool) tB rfl _ _ rfl rfl (hD2.out.alloc _) rfl (ol_lit Value.bool 4 (w.heap.size + 1) w2 [true] _ 1 rfl rfl (by omega) (by omega)).rl (fun _ => rfl) (by omega) (by omega) (by simp; omega) ?_; intro w6 a6 c6 o6 b6)
        have D6 := hD2.app (a6 := a6) (c6 := c6) _ (by rw [take_snoc HV.out]; exact o6) b6
        clear hD2 o6 b6 hb2 hc22 q1 hDv
        go_roundg (n - (k + 1))
        case measure => go_light; omega
        case rel => go_light; exact ⟨k + 1, _, _, by omega, rfl, rfl, by go_num, D6⟩
      | false =>
        go_wp2_with (first
          | (with_reducible refine wpList_loadW rowC (by simp [Region.wanted, yielded, Act.put]) _ rfl _ rfl hb2 rfl ?_)
          | (go_at_call 16; (with_reducible refine hDv.mono ?_); rintro e w4 ⟨rfl, g4⟩; have hD4 := hD2.call g4; have l4 := hD4.size)
          | (at_builtin; refine wpList_app (f := Value.bool) tB rfl _ _ rfl rfl (hD4.out.alloc _) rfl (ol_lit Value.bool 4 (w.heap.size + 1) w4 [dvC c] _ 1 rfl rfl (by omega) (by omega)).rl (fun _ => rfl) (by omega) (by omega) (by simp; omega) ?_; intro w6 a6 c6 o6 b6))
        have D6 := hD4.app (a6 := a6) (c6 := c6) _ (by rw [take_snoc HV.out]; exact o6) b6
        clear hD2 o6 b6 hb2 hc22 q1 hDv g4 hD4
        go_roundg (n - (k + 1))
        case measure => go_light; omega
        case rel => go_light; exact ⟨k + 1, _, _, by omega, rfl, rfl, by go_num, D6⟩
    · obtain rfl : k = n := by omega
      have hO := hD.out
      rw [List.take_of_length_le (by rw [hdl.out]; omega)] at hO
      have hB := hD.bel
      clear hD hN hC hL hS
      go_wp2
      go_ret
      exact ⟨ao, co, rfl, hO.mono (by omega), hB⟩
end Go.Proofs.Ytpcmlnleompibaa

namespace Go.Proofs.Ytpcmlnleompibaa
open Go.RowKit Go.Sort
set_option linter.unusedVariables false

theorem step1_any (w : World) (g : Nat) (s : Na) (n m : Nat) (z x : Int) (hb : w.heap[g]? = some (.cells (ntA s n m z) 59 (0, 0))) (hx : 0 ≤ x ∧ x < (n : Int)) :
    Calls Try.prog 44 #[.int .i64 x, .pointer (some ⟨g, 0, none⟩)] w fun e w' => e = .returned (.bool false) ∧ Below w.heap.size w w' := by
  have hH := fun w1 => has_any w1 s n m z x
  rw [decide_eq_true hx] at hH
  clear hx
  go_enter Try.func44, Try.ntmps44
  go_wp2_with (first
    | (with_reducible refine wpList_loadR rowN rfl _ rfl _ rfl hb rfl ?_)
    | (go_at_call 45; (with_reducible refine (hH _).mono ?_); rintro e w1 ⟨rfl, g1⟩))
  go_ret
  exact ⟨rfl, g1⟩

theorem step2_any (w : World) (g : Nat) (a : Option Addr) (n c : Nat) (l : List Int) (x : Int) (t : TypeId) (hb : w.heap[g]? = some (.cells #[.slice a n c] t (0, 0))) (h : RL zv w a n c l) (hn : n ≤ 1000000) :
    Calls Try.prog 46 #[.int .i64 x, .pointer (some ⟨g, 0, none⟩)] w fun e w' => e = .returned (.bool (decide (x ∈ l))) ∧ w = w' := by
  have q0 : w.cell? ⟨g, 0, none⟩ = some (.slice a n c) := by rw [cell_of_row w g 0 _ _ _ hb]; rfl
  go_enter Try.func46, Try.ntmps46
  go_wp2_with (go_at_call 47; (with_reducible refine (contains_any _ _ _ _ _ _ h hn).mono ?_); rintro e w1 ⟨rfl, rfl⟩)
  go_ret
  exact ⟨rfl, rfl⟩

theorem indexFunc_good (w : World) (g : Nat) (s : Na) (nn m : Nat) (z : Int) (hb : w.heap[g]? = some (.cells (ntA s nn m z) 59 (0, 0))) (a : Option Addr) (n c : Nat) (l : List Int) (h : RL zv w a n c l) (hn : n ≤ 1000000) (hl : ∀ x ∈ l, 0 ≤ x ∧ x < (nn : Int)) :
    Calls Try.prog 71 #[.slice a n c, .func (.func 44) #[] #[.pointer (some ⟨g, 0, none⟩)]] w fun e w' => e = .returned (.int .i64 (-1)) ∧ Below w.heap.size w w' := by
  go_enter Try.func71, Try.ntmps71
  go_wp2
  go_loopg [8] n (fun gn i wr => ∃ k : Nat, k ≤ n ∧ gn = n - k ∧ i = .int .i64 (k : Int) ∧ Below w.heap.size w wr)
  case atStart => exact ⟨0, Nat.zero_le _, rfl, rfl, Below.refl _ _⟩
  case round =>
    obtain ⟨k, hk, rfl, rfl, hB⟩ := hrel
    by_cases hlt : k < n
    · obtain ⟨b, off, y, rfl, hx, hck⟩ := (h.below hB).at hlt
      have hy := hl y (List.mem_of_getElem? hx)
      have hS := step1_any wr g s nn m z y (bx_below hb hB) hy
      clear hx hy
      go_wp2_with (go_at_call 44; (with_reducible refine hS.mono ?_); rintro e w1 ⟨rfl, g1⟩; have gg := bstep hB g1)
      go_roundg (n - (k + 1))
      case measure => go_light; omega
      case rel => go_light; exact ⟨k + 1, by omega, rfl, by go_num, gg⟩
    · go_wp2
      go_ret
      exact ⟨rfl, hB⟩

theorem containsFunc_good (w : World) (g : Nat) (s : Na) (nn m : Nat) (z : Int) (hb : w.heap[g]? = some (.cells (ntA s nn m z) 59 (0, 0))) (a : Option Addr) (n c : Nat) (l : List Int) (h : RL zv w a n c l) (hn : n ≤ 1000000) (hl : ∀ x ∈ l, 0 ≤ x ∧ x < (nn : Int)) :
    Calls Try.prog 43 #[.slice a n c, .func (.func 44) #[] #[.pointer (some ⟨g, 0, none⟩)]] w fun e w' => e = .returned (.bool false) ∧ Below w.heap.size w w' := by
  go_enter Try.func43, Try.ntmps43
  go_wp2_with (go_at_call 71; (with_reducible refine (indexFunc_good _ g s nn m z hb _ _ _ l h hn hl).mono ?_); rintro e w1 ⟨rfl, g1⟩)
  go_ret
  exact ⟨rfl, g1⟩
end Go.Proofs.Ytpcmlnleompibaa

namespace Go.Proofs.Ytpcmlnleompibaa
open Go.RowKit Go.Sort
set_option linter.unusedVariables false

theorem cts_set (ps : List Nd) (k : Nat) (c : Ct) (s : Sl) : cts (ps.set k (c, s)) = (cts ps).set k c := by
  unfold cts; rw [List.map_set]

set_option maxRecDepth 100000 in
set_option maxHeartbeats 4000000 in
theorem with_any (w : World) (B : Nat) (s : Na) (ps : List Nd) (cr : List Bool) (n : Nat) (z : Int) (k : Nat) (c : Ct) (s1 : Sl) (h : NtR w s ps cr) (hn : ps.length = n) (hm : cr.length = n) (hle : n ≤ 100000) (hS : ∀ p ∈ ps, Shr p.1) (hk : k < n) (hc : CtO B w c s1) (hB : B ≤ w.heap.size) :
    Calls Try.prog 70 #[.agg (ntA s n n z), .int .i64 (k : Int), .agg (ctA c s1)] w fun e w' => ∃ s', e = .returned (.agg (ntA s' n n z)) ∧ ∃ qs, qs.length = n ∧ cts qs = (cts ps).set k c ∧ NtO B w' s' qs cr ∧ Below w.heap.size w w' := by
  have hb0 : (((w.alloc (.cells (ntA s n n z) 59)).alloc (.cells (ctA c s1) 37)).alloc (.cells ntZ 59)).heap[w.heap.size]? = some (.cells (ntA s n n z) 59 (0, 0)) := bx_alloc _ (bx_alloc _ (heap_alloc_new w _))
  have hc0 : (((w.alloc (.cells (ntA s n n z) 59)).alloc (.cells (ctA c s1) 37)).alloc (.cells ntZ 59)).heap[w.heap.size + 1]? = some (.cells (ctA c s1) 37 (0, 0)) := by
    have := bx_alloc (.cells ntZ 59) (heap_alloc_new (w.alloc (.cells (ntA s n n z) 59)) (.cells (ctA c s1) 37)); rwa [heap_size_alloc] at this
  have hr0 : (((w.alloc (.cells (ntA s n n z) 59)).alloc (.cells (ctA c s1) 37)).alloc (.cells ntZ 59)).heap[w.heap.size + 2]? = some (.cells ntZ 59 (0, 0)) := by
    have := heap_alloc_new ((w.alloc (.cells (ntA s n n z) 59)).alloc (.cells (ctA c s1) 37)) (.cells ntZ 59); rwa [heap_size_alloc, heap_size_alloc] at this
  have g0 : Below w.heap.size w (((w.alloc (.cells (ntA s n n z) 59)).alloc (.cells (ctA c s1) 37)).alloc (.cells ntZ 59)) := bnew (bnew (bnew0 w _) _) _
  have h0 := h.below g0
  have hA := netApart_any _ s ps cr n z h0 hn hm hle hS
  clear h h0 hS
  go_enter Try.func70, Try.ntmps70
  go_wp2_with (first
    | (with_reducible refine wpList_loadR rowN rfl _ rfl _ rfl hb0 rfl ?_)
    | (go_at_call 48; (with_reducible refine hA.mono ?_); rintro e w1 ⟨s2, rfl, qs, hq1, hq2, o1, g1⟩
       have hb1 := bx_below hb0 g1
       have hc1 := bx_below hc0 g1
       have hr1 := bx_below hr0 g1
       have gg1 := bstep g0 g1
       obtain ⟨g, hg, hgB, hgl⟩ := o1.nod.addr (by omega)
       have hnd := o1.nod
       rw [hg, hq1] at hnd
       have hsn := o1.sn g hg
       have hb2 : (w1.setRow w.heap.size (ntA s2 n n z)).heap[w.heap.size]? = some (.cells (ntA s2 n n z) 59 (0, 0)) := setRow_heap _ _ _ _ _ _ hb1
       have hk2 : ∀ q, q ≠ w.heap.size → (w1.setRow w.heap.size (ntA s2 n n z)).heap[q]? = w1.heap[q]? := fun q hq => setRow_other _ _ _ _ hq
       have hc2 := (hk2 (w.heap.size + 1) (by omega)).trans hc1
       have hnd2 := hnd.kept (w' := w1.setRow w.heap.size (ntA s2 n n z)) fun q hq => hk2 q (by cases hq; simp at hgB; omega)
       obtain ⟨s2a, s2b, s2c, s2d⟩ := s2
       simp only at hg
       subst hg
       have q2 := (bx3 hb2).1)
    | (with_reducible refine wpList_storeR rowN rfl _ _ rfl _ _ rfl rfl hb1 rfl rfl (nt_ones _ _ _ _) ?_)
    | (with_reducible refine wpList_loadR rowC rfl _ rfl _ rfl hc2 rfl ?_)
    | (with_reducible refine wpList_putM enC_k rowC rfl _ _ rfl hnd2 k hk (c, s1) (ctA c s1) rfl rfl rfl (ct_ones _ _) ?_; intro w5 o5 y5 z5
       have hlt1 := bx_lt hr1
       have hb5 := (y5.block w.heap.size (by simp; omega) (by simp at hgB; omega)).trans hb2
       have hr5 := (y5.block (w.heap.size + 2) (by simp; omega) (by simp at hgB; omega)).trans ((hk2 (w.heap.size + 2) (by omega)).trans hr1))
    | (with_reducible refine wpList_loadR rowN rfl _ rfl _ rfl hb5 rfl ?_)
    | (with_reducible refine wpList_storeR rowN rfl _ _ rfl _ _ rfl rfl hr5 rfl rfl (nt_ones _ _ _ _) ?_))
  have z0 : (((w.alloc (.cells (ntA s n n z) 59)).alloc (.cells (ctA c s1) 37)).alloc (.cells ntZ 59)).heap.size = w.heap.size + 3 := by simp
  rw [z0] at o1 hgB o5
  have hX : ∀ q, q < w1.heap.size → q ≠ w.heap.size → q ≠ g → q ≠ w.heap.size + 2 → (w5.setRow (w.heap.size + 2) (ntA ⟨some ⟨g, 0, none⟩, s2b, s2c, s2d⟩ n n z)).heap[q]? = w1.heap[q]? := fun q h1 h2 h3 h4 =>
    (setRow_other _ _ _ _ h4).trans ((y5.block q (by simp; omega) h3).trans (hk2 q h2))
  have hWr : (w5.setRow (w.heap.size + 2) (ntA ⟨some ⟨g, 0, none⟩, s2b, s2c, s2d⟩ n n z)).heap[w.heap.size + 2]? = some (.cells (ntA ⟨some ⟨g, 0, none⟩, s2b, s2c, s2d⟩ n n z) 59 (0, 0)) := setRow_heap _ _ _ _ _ _ hr5
  have gW : Below w.heap.size w (w5.setRow (w.heap.size + 2) (ntA ⟨some ⟨g, 0, none⟩, s2b, s2c, s2d⟩ n n z)) :=
    below_setRow (y5.below (below_setRow gg1 (Nat.le_refl _) _) (by omega) (by simp; omega)) (by omega) _
  have o5' := o5.kept (w' := w5.setRow (w.heap.size + 2) (ntA ⟨some ⟨g, 0, none⟩, s2b, s2c, s2d⟩ n n z)) fun q hq => setRow_other _ _ _ _ (by cases hq; omega)
  have lg1 := gg1.size
  have hcW : CtO B (w5.setRow (w.heap.size + 2) (ntA ⟨some ⟨g, 0, none⟩, s2b, s2c, s2d⟩ n n z)) c s1 := hc.below gW
  generalize w5.setRow (w.heap.size + 2) (ntA ⟨some ⟨g, 0, none⟩, s2b, s2c, s2d⟩ n n z) = W at *
  refine bodyPost_ret (v := .agg (ntA ⟨some ⟨g, 0, none⟩, s2b, s2c, s2d⟩ n n z)) (results_row rowN rfl _ _ _ rfl hWr rfl) rfl ⟨_, rfl, qs.set k (c, s1), by rw [List.length_set, hq1], by rw [cts_set, hq2], ⟨?_, ?_, ?_, ?_, ?_⟩, gW⟩
  · rw [List.length_set, hq1]
    exact o5'.mono (by omega)
  · exact (o1.cra.kept fun q hq => hX q (o1.cra.ltB hq).1 (by have := (o1.cra.ltB hq).2; simp at this; omega) (fun e => hsn.2 _ hq (by subst e; rfl)) (by have := (o1.cra.ltB hq).2; simp at this; omega)).mono (by omega)
  · intro p hp
    rcases List.mem_or_eq_of_mem_set hp with hp | rfl
    · have ho := o1.sl p hp
      exact (ho.kept fun q => by
        by_cases e0 : q < w.heap.size + 3
        · exact .inl (ho.nbs e0)
        · by_cases e1 : q = g
          · subst e1; exact .inl (hsn.1 p hp)
          · by_cases e2 : q < w1.heap.size
            · exact .inr (hX q e2 (by omega) e1 (by omega))
            · exact .inl (ho.fresh (by omega))).mono (by omega)
    · exact hcW
  · intro g' hg'
    cases hg'
    refine ⟨fun p hp => ?_, hsn.2⟩
    rcases List.mem_or_eq_of_mem_set hp with hp | rfl
    · exact hsn.1 p hp
    · exact hc.fresh (by omega)
  · intro g' hg'
    have hs := o1.sc g' hg'
    refine ⟨fun p hp => ?_, hs.2⟩
    rcases List.mem_or_eq_of_mem_set hp with hp | rfl
    · exact hs.1 p hp
    · exact hc.fresh (by have := (o1.cra.ltB hg').2; simp at this; omega)
end Go.Proofs.Ytpcmlnleompibaa
