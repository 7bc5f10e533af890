/-
  Words on fifos: received frames as they lie in a list of structs; a fifo in its box; laws on rows of structs that are copied, cleared and cut within one block.
-/
import Derived.Test.YtkojljmhgeehoaaCh
import Derived.Test.YtkojljmhgeehoaaFv
import Derived.Test.YtkojljmhgeehoaaRw
import Derived.WalkSmall
namespace Go.Proofs.Ytkojljmhgeehoaa
open Go.RowKit
set_option linter.unusedVariables false

/-- A received frame: the frame, where its data lie, its time. -/
abbrev Rx := Ff × Int
abbrev rxV (p : Rx) : Array Value := #[.int .u32 (p.1.1.id : Int), .bool p.1.1.ext, .bool p.1.1.rem, .int .u8 (p.1.1.dlc : Int), .slice p.1.2.1 p.1.1.data.length p.1.2.2, .int .i64 p.2]
abbrev rxZ : Array Value := #[.int .u32 0, .bool false, .bool false, .int .u8 0, .slice none 0 0, .int .i64 0]
theorem rx_ones (p : Rx) : (rxV p).all (·.oneCell') = true := by kernel_rfl
def enX (p : Rx) : List Value := (rxV p).toList
theorem enX_k : EnK enX 6 := ⟨fun _ => rfl, fun p v hv => (Array.all_eq_true_iff_forall_mem.1 (rx_ones p)) v (by simpa [enX] using hv)⟩
theorem elX : ElK Try.prog 28 36 6 (.agg rxZ) 40 := ⟨by kernel_rfl, by kernel_rfl, by kernel_rfl, by kernel_rfl, rfl, by omega⟩
theorem rowX : RowT Try.prog 36 6 := rowT_of (by kernel_rfl) (by kernel_rfl)
theorem rowFf : RowT Try.prog 56 5 := rowT_of (by kernel_rfl) (by kernel_rfl)
def x0X : Rx := ((⟨0, false, false, 0, []⟩, (none, 0)), 0)
theorem rxZ_list : rxZ.toList = enX x0X := rfl
theorem rxZ_ones : rxZ.all (·.oneCell') = true := by kernel_rfl

/-- A fifo. -/
structure Fm where
  room : Nat
  fs : List Rx
  ov : Bool

abbrev ffV (g s : Nat) (m : Fm) (a : Option Addr) (c : Nat) : Array Value := #[.pointer (some ⟨g, 0, none⟩), .int .i64 (m.room : Int), .slice (some ⟨s, 0, none⟩) (2 * m.room) (2 * m.room), .slice a m.fs.length c, .bool m.ov]

/-- A received frame whose data lie in memory of the call's own. -/
def RxO (B : Nat) (w : World) (p : Rx) : Prop := OL bv 5 B w p.1.2.1 p.1.1.data.length p.1.2.2 p.1.1.data
/-- The data of two lie in blocks of their own. -/
def Apart (p q : Rx) : Prop := ∀ x y, p.1.2.1 = some x → q.1.2.1 = some y → x.block ≠ y.block

/-- A fifo in its box g, its store in block s: the frames are a part of the store; all its blocks lie from B on, and are in S. -/
structure FfO (B : Nat) (w : World) (g s : Nat) (m : Fm) (a : Option Addr) (c : Nat) (st : List Rx) (S : Nat → Prop) : Prop where
  box : w.heap[g]? = some (.cells (ffV g s m a c) 56 (0, 0))
  row : OK enX 6 36 B w (some ⟨s, 0, none⟩) (2 * m.room) (2 * m.room) st
  ad : 0 < c → a = some ⟨s, (2 * m.room - c) * 6, none⟩
  cle : c ≤ 2 * m.room
  nle : m.fs.length ≤ c
  fr : ∀ (i : Nat) (x : Rx), m.fs[i]? = some x → st[2 * m.room - c + i]? = some x
  dat : ∀ p ∈ m.fs, RxO B w p
  hB : B ≤ g
  sg : S g
  ss : S s
  ng : s ≠ g
  sd : ∀ p ∈ m.fs, ∀ q, p.1.2.1 = some q → S q.block
  sB : ∀ k, S k → B ≤ k
  nd : ∀ p ∈ m.fs, NB p.1.2.1 g ∧ NB p.1.2.1 s
  pw : m.fs.Pairwise Apart
  r1 : 1 ≤ m.room
  rm : m.room ≤ 256
  le : m.fs.length ≤ m.room
  sL : ∀ k, S k → k < w.heap.size

section
variable {B : Nat} {w w1 : World} {g s : Nat} {m : Fm} {a : Option Addr} {c : Nat} {st : List Rx} {S S1 : Nat → Prop}

theorem RxO.ch {p : Rx} (h : RxO B w p) (k : Ch S w w1) (hn : ∀ q, p.1.2.1 = some q → ¬ S q.block) : RxO B w1 p := OL.ch h k hn
theorem RxO.below {p : Rx} (h : RxO B w p) (k : Below w.heap.size w w1) : RxO B w1 p := OL.below h k
theorem FfO.lt (h : FfO B w g s m a c st S) : g < w.heap.size := bx_lt h.box
/-- What changes none of its blocks leaves a fifo. -/
theorem FfO.ch (h : FfO B w g s m a c st S) (k : Ch S1 w w1) (hn : ∀ b, S b → ¬ S1 b) : FfO B w1 g s m a c st S :=
  ⟨k.bx h.box (hn _ h.sg), h.row.ch k (fun q hq => by cases hq; exact hn _ h.ss), h.ad, h.cle, h.nle, h.fr, fun p hp => (h.dat p hp).ch k (fun q hq => hn _ (h.sd p hp q hq)), h.hB, h.sg, h.ss, h.ng, h.sd, h.sB, h.nd, h.pw, h.r1, h.rm, h.le, fun q hq => Nat.lt_of_lt_of_le (h.sL q hq) k.size⟩
theorem FfO.below (h : FfO B w g s m a c st S) (k : Below w.heap.size w w1) : FfO B w1 g s m a c st S := h.ch (S1 := fun _ => False) (Ch.of_below k) (fun _ _ e => e)
theorem FfO.alloc (h : FfO B w g s m a c st S) (o : Obj) : FfO B (w.alloc o) g s m a c st S := h.below (bnew0 w o)
theorem FfO.drewN (h : FfO B w g s m a c st S) (q : Nat) : FfO B (w.drewN q) g s m a c st S := h.below (below_drewN (Below.refl _ _) q)
theorem FfO.thaw (h : FfO B w g s m a c st S) (i : Nat) : w.frozen? ⟨g, i, none⟩ = false := bx_thaw h.box i

/-- The flag, stored. -/
theorem FfO.flag (h : FfO B w g s m a c st S) (v : Bool) : FfO B (w.setCell ⟨g, 4, none⟩ (.bool v)) g s { m with ov := v } a c st S := by
  have k : Ch (fun b => b = g) w (w.setCell ⟨g, 4, none⟩ (.bool v)) := Ch.setCell (S := fun b => b = g) (Ch.refl _ w) (p := ⟨g, 4, none⟩) (.inl rfl) _
  refine ⟨heap_setCell_same w g 4 _ _ _ h.box, ?_, h.ad, h.cle, h.nle, h.fr, fun p hp => (h.dat p hp).ch k (fun q hq e => (h.nd p hp).1 q hq e), h.hB, h.sg, h.ss, h.ng, h.sd, h.sB, h.nd, h.pw, h.r1, h.rm, h.le, fun q hq => Nat.lt_of_lt_of_le (h.sL q hq) k.size⟩
  exact h.row.ch k (fun q hq => by cases hq; exact h.ng)
/-- The frames, as a list that is read. -/
theorem FfO.rk (h : FfO B w g s m a c st S) : RK enX 6 w a m.fs.length c m.fs := by
  refine ⟨rfl, h.nle, fun hn => ?_⟩
  have hc : 0 < c := Nat.lt_of_lt_of_le hn h.nle
  rw [h.ad hc]
  refine ⟨s, (2 * m.room - c) * 6, rfl, h.sL _ h.ss, fun i x j v hx hv => ?_⟩
  have h1 := h.fr i x hx
  have h2 := h.row.range enX_k h1 j v hv
  rw [← h2]
  congr 2
  rw [Nat.add_mul]; omega
end

/-- Elements written anew, one behind the other, in a row that the call owns. -/
theorem OK.puts {α : Type} {enc : α → List Value} {k B n c g : Nat} {E : TypeId} {w : World} {l : List α} (hk : EnK enc k) (h : OK enc k E B w (some ⟨g, 0, none⟩) n c l) (i : Nat) (xs : List α) (hi : i + xs.length ≤ n) :
    OK enc k E B (w.setCells g (i * k) (xs.flatMap enc)) (some ⟨g, 0, none⟩) n c (l.take i ++ xs ++ l.drop (i + xs.length)) := by
  rcases h.ex with ⟨h0, _⟩ | ⟨g', cur, h1, h2, h3, h4, h5, h6⟩
  · cases h0
  · cases h1
    have hl := h.len
    have hle : (xs.flatMap enc).length = xs.length * k := flat_len hk xs
    have hnk : (i + xs.length) * k ≤ n * k := Nat.mul_le_mul_right k hi
    have hck : n * k ≤ c * k := Nat.mul_le_mul_right k h.cap
    rw [Nat.add_mul] at hnk
    have hll : (l.take i ++ xs ++ l.drop (i + xs.length)).length = n := by
      simp only [List.length_append, List.length_take, List.length_drop, hl, Nat.min_eq_left (show i ≤ n by omega)]; omega
    refine ⟨hll, h.cap, by rw [flat_len hk, hll], .inr ⟨g, c, _, rfl, h2, heap_setCells_same g E _ _ _ _ h3, h.cap, h6, by rw [wrC_size]; exact h4, ?_⟩⟩
    have hcl : cur.toList.length = c * k := by rw [Array.length_toList, h4]
    have e1 : (l.take i).flatMap enc = (l.flatMap enc).take (i * k) := by
      have e : l.flatMap enc = (l.take i).flatMap enc ++ (l.drop i).flatMap enc := by rw [← List.flatMap_append, List.take_append_drop]
      have h2 : ((l.take i).flatMap enc).length = i * k := by rw [flat_len hk, List.length_take, Nat.min_eq_left (by omega)]
      rw [e, ← h2, List.take_left]
    have e2 : (l.drop (i + xs.length)).flatMap enc = (l.flatMap enc).drop (i * k + xs.length * k) := by
      have e : l.flatMap enc = (l.take (i + xs.length)).flatMap enc ++ (l.drop (i + xs.length)).flatMap enc := by rw [← List.flatMap_append, List.take_append_drop]
      have h2 : ((l.take (i + xs.length)).flatMap enc).length = i * k + xs.length * k := by rw [flat_len hk, List.length_take, Nat.min_eq_left (by omega), Nat.add_mul]
      rw [e, ← h2, List.drop_left]
    rw [wrC_list _ _ _ (by rw [hle, h4]; omega), List.flatMap_append, List.flatMap_append, e1, e2, ← h5]
    have := take_splice cur.toList (xs.flatMap enc) (i * k) (n * k) (by rw [hle]; omega) (by rw [hcl]; exact hck)
    rw [hle] at this
    rw [hle]
    exact this

/-- A row of structs is copied into another place of the same block, or into another block: all is read first. -/
theorem run_copyK {P : Program} {T E : TypeId} {k bytes : Nat} {z : Value} (hT : ElK P T E k z bytes) (w : World) (ty : TypeId) (b o dLen dCap : Nat) (a : Option Addr) (n c : Nat) (cs : List Value)
    (hn : n ≤ dLen) (hl : cs.length = n * k) (hsrc : 0 < n → ∃ ad, a = some ad ∧ ∀ j v, cs[j]? = some v → w.cell? (ad.add j) = some v)
    (hc : ∀ j, j < cs.length → (w.cell? ⟨b, o + j, none⟩).isSome = true) (hf : ∀ j, j < cs.length → w.frozen? ⟨b, o + j, none⟩ = false) (h1 : ∀ v ∈ cs, v.oneCell' = true) :
    (Builtin.copy_ #[T, T] ty #[.slice (some ⟨b, o, none⟩) dLen dCap, .slice a n c]).run P w = .ok (goInt n) (w.setCells b o cs) := by
  obtain ⟨i, hi, hz0, hz1, hz2⟩ := info_parts hT.info
  have hmin : Nat.min n dLen = n := Nat.min_eq_left hn
  have hst := run_storeCells_cells (P := P) b o cs 0 w (by simpa using hc) (by simpa using hf) h1
  by_cases h0 : n = 0
  · subst h0
    rw [Nat.zero_mul] at hl
    have hcs : cs = [] := List.eq_nil_of_length_eq_zero hl
    subst hcs
    have hl0 : ∀ (x : Addr), (loadCells x 0).run P w = .ok #[] w := fun x => by simpa using run_loadCells_list (P := P) w x [] (by simp)
    cases a <;> simp [Builtin.copy_, run_underlying hT.und, Builtin.lenOf, Builtin.firstCells, sizeOf, typeInfo, hi, storeCells, hl0, World.setCells]
  · obtain ⟨ad, rfl, hs⟩ := hsrc (by omega)
    have hld := run_loadCells_list (P := P) w ad cs hs
    rw [hl] at hld
    simp only [Nat.add_zero] at hst
    simp [Builtin.copy_, run_underlying hT.und, Builtin.lenOf, Builtin.firstCells, sizeOf, typeInfo, hi, hz1, hmin, hld, hst]

/-- A part of a row of structs is cleared. -/
theorem run_clearK {P : Program} {T E : TypeId} {k bytes : Nat} {z : Value} {α : Type} {enc : α → List Value} (hk : EnK enc k) (hT : ElK P T E k z bytes) (z0 : α) (hz : z.cells.toList = enc z0) (w : World) (ty : TypeId) (b o n c : Nat)
    (hc : ∀ j, j < n * k → (w.cell? ⟨b, o + j, none⟩).isSome = true) (hf : ∀ j, j < n * k → w.frozen? ⟨b, o + j, none⟩ = false) :
    (Builtin.clear_ #[T] ty #[.slice (some ⟨b, o, none⟩) n c]).run P w = .ok (.tuple #[]) (w.setCells b o ((List.replicate n z0).flatMap enc)) := by
  obtain ⟨i, hi, hz0, hz1, hz2⟩ := info_parts hT.info
  have hl : ((List.replicate n z0).flatMap enc).length = n * k := by rw [flat_len hk, List.length_replicate]
  have hst := run_storeCells_cells (P := P) b o ((List.replicate n z0).flatMap enc) 0 w (by rw [hl]; simpa using hc) (by rw [hl]; simpa using hf) (flat_one hk _)
  simp only [Nat.add_zero] at hst
  have hzc : (Builtin.zeroCells z.cells n).toList = (List.replicate n z0).flatMap enc := by
    have := made_flat hk hT.pos z.cells z0 hz n
    rw [← this]
    show (madeCells z.cells (n * z.cells.size)).toList = _
    rw [hT.zc]
  cases n with
  | zero => simp [Builtin.clear_, run_underlying hT.und, World.setCells]
  | succ n => simp [Builtin.clear_, run_underlying hT.und, zeroValue, typeInfo, hi, hz0, hzc, hst]

section
variable {P : Program} {T E : TypeId} {k bytes : Nat} {z : Value} {ops : Array Oper} {rest : List Oper} {o : Oper} {ac : Act} {w : World} {K : Act → World → Prop} {Q : Exit → Act → World → Prop} {R : Prop} {a a' : Option Addr} {n c N C : Nat}

/-- A copy of structs, as one step of a region that draws. -/
theorem step_copyK (hT : ElK P T E k z bytes) (hgd : o.guard = none) (d s : Operand) (ho : o.op = .call { callee := .builtin .copy, args := #[d, s], argTypes := #[T, T] })
    (b off dLen dCap : Nat) (hd : ac.eval d = .slice (some ⟨b, off, none⟩) dLen dCap) (hs : ac.eval s = .slice a n c) (cs : List Value)
    (hn : n ≤ dLen) (hl : cs.length = n * k) (hsrc : 0 < n → ∃ ad, a = some ad ∧ ∀ j v, cs[j]? = some v → w.cell? (ad.add j) = some v)
    (hc : ∀ j, j < cs.length → (w.cell? ⟨b, off + j, none⟩).isSome = true) (hf : ∀ j, j < cs.length → w.frozen? ⟨b, off + j, none⟩ = false) (h1 : ∀ v ∈ cs, v.oneCell' = true)
    (h : K (ac.put o.dst (goInt n)) (w.setCells b off cs)) : if Region.wanted o (yielded ops ac.tmps) = true then Oper.wp P o ac w K Q else R := by
  rw [if_pos (by simp [Region.wanted, hgd])]
  have hrun := run_copyK (P := P) hT w o.type b off dLen dCap a n c cs hn hl hsrc hc hf h1
  unfold Oper.wp
  simp [execOp, ho, resolve, invoke, builtin, hd, hs, hrun, Result.andThen]
  exact h

/-- A row, or a part of it, is cleared. -/
theorem wpList_clearK {α : Type} {enc : α → List Value} (hk : EnK enc k) (hT : ElK P T E k z bytes) (z0 : α) (hz : z.cells.toList = enc z0) (hgd : o.guard = none) (s : Operand) (ho : o.op = .call { callee := .builtin .clear, args := #[s], argTypes := #[T] })
    (b off : Nat) (hs : ac.eval s = .slice (some ⟨b, off, none⟩) n c)
    (hc : ∀ j, j < n * k → (w.cell? ⟨b, off + j, none⟩).isSome = true) (hf : ∀ j, j < n * k → w.frozen? ⟨b, off + j, none⟩ = false)
    (h : wpList P ops Q rest (ac.put o.dst (.tuple #[])) (w.setCells b off ((List.replicate n z0).flatMap enc))) : wpList P ops Q (o :: rest) ac w := by
  refine wpList_plain hgd fun K hK => ?_
  have hrun := run_clearK (P := P) hk hT z0 hz w o.type b off n c hc hf
  unfold Oper.wp
  simp [execOp, ho, resolve, invoke, builtin, hs, hrun, Result.andThen]
  exact hK _ _ h

/-- 'v[lo:]', what comes of it given. -/
theorem wpList_cutFromS (hT : ElK P T E k z bytes) (hgd : o.guard = none) (s lo : Operand) (ho : o.op = .slice T s (some lo) none none) (kl : IntKind) (L : Int) (l0 : Nat) (hs : ac.eval s = .slice a n c) (hl : ac.eval lo = .int kl L) (hL : L = (l0 : Int)) (h2 : l0 ≤ n)
    (he : Go.sliced a l0 n c k = .slice a' N C) (h : wpList P ops Q rest (ac.put o.dst (.slice a' N C)) w) : wpList P ops Q (o :: rest) ac w := by
  subst hL
  refine wpList_plain hgd fun K hK => ?_
  have hu : P.underlying T = some (.slice (P.elem T)) := by rw [hT.und, hT.el]
  have hrun := run_slice_l (P := P) w T a n c hu kl l0 (by omega) (by omega)
  unfold Oper.wp
  simp only [Int.toNat_natCast, run_sizeOf_k hT, Result.andThen] at hrun
  simp [execOp, ho, hs, hl, run_sliceAt_slice w T _ _ _ _ hu, hrun, he, Result.andThen]
  exact hK _ _ h
end
end Go.Proofs.Ytkojljmhgeehoaa
