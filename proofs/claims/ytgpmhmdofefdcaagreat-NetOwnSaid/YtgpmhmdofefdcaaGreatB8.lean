/-
  Contracts of Event and Bit at named results; boxes of counters; the statements' own loops times and bits, and begun.
  Comparison of counters; begun; the chapter's examples.
  Boxes of counters in a region that draws its order; contracts of the callees there; begun.
  Words on a controller in memory: its cells, the box of the state that a bit changes, and what a method leaves that writes that box alone.
-/
import Derived.Test.YtgpmhmdofefdcaaGreatB6f
import Derived.WalkSmall
import Derived.Lib.QuietBelow
import Derived.Test.YtgpmhmdofefdcaaGreatM8
import Derived.Test.YtgpmhmdofefdcaaGreatB1f
import Derived.Laws.Tables
import Derived.Laws.Rows
import Derived.StillTailTactics
import Derived.Laws.EntriesVeiled
namespace Go.Proofs.YtgpmhmdofefdcaaGreat
open Go.RowKit
set_option linter.unusedVariables false

theorem event_at {t r : Int} {o : Bool} {n m : Int} {k : Nat} {t' r' : Int} {o' : Bool} {n' m' ee : Int} (hk : k < 256) (hc : evC ⟨t, r, o, n, m⟩ k = ⟨t', r', o', n', m'⟩) (he : evE ⟨t, r, o, n, m⟩ k = ee) (w : World) :
    Calls Tryz.prog 91 #[.agg #[.int .i64 t, .int .i64 r, .bool o, .int .i64 n, .int .i64 m], .int .u8 (k : Int)] w fun e w' =>
      e = .returned (.tuple #[.agg #[.int .i64 t', .int .i64 r', .bool o', .int .i64 n', .int .i64 m'], .int .i64 ee]) ∧ Below w.heap.size w w' := by
  have h := event_any w t r o n m k hk
  rw [hc, he] at h
  exact h

theorem bit_at {t r : Int} {o : Bool} {n m : Int} {x : Bool} {t' r' : Int} {o' : Bool} {n' m' : Int} (hc : biC ⟨t, r, o, n, m⟩ x = ⟨t', r', o', n', m'⟩) (w : World) :
    Calls Tryz.prog 82 #[.agg #[.int .i64 t, .int .i64 r, .bool o, .int .i64 n, .int .i64 m], .bool x] w fun e w' =>
      e = .returned (.agg #[.int .i64 t', .int .i64 r', .bool o', .int .i64 n', .int .i64 m']) ∧ Below w.heap.size w w' := by
  have h := bit_any w t r o n m x
  rw [hc] at h
  exact h

theorem mode_at {t r : Int} {o : Bool} {n m : Int} {q : Nat} (hc : moC ⟨t, r, o, n, m⟩ = q) (w : World) :
    Calls Tryz.prog 92 #[.agg #[.int .i64 t, .int .i64 r, .bool o, .int .i64 n, .int .i64 m]] w fun e w' => e = .returned (.int .u8 (q : Int)) ∧ Below w.heap.size w w' := by
  have h := mode_any w t r o n m
  rw [hc] at h
  exact h

theorem right_at {t r : Int} {o : Bool} {n m : Int} {q : Bool} (hc : riC ⟨t, r, o, n, m⟩ = q) (w : World) :
    Calls Tryz.prog 93 #[.agg #[.int .i64 t, .int .i64 r, .bool o, .int .i64 n, .int .i64 m]] w fun e w' => e = .returned (.bool q) ∧ Below w.heap.size w w' := by
  have h := cRight_any w t r o n m
  rw [hc] at h
  exact h

/-- A box that holds counters. -/
def Bc (w : World) (g : Nat) (c : Cf) : Prop := w.heap[g]? = some (.cells #[.int .i64 c.t, .int .i64 c.r, .bool c.o, .int .i64 c.n, .int .i64 c.m] 48 (0, 0))

/-- All of what a box of counters says. -/
structure BcAll (w : World) (g : Nat) (t r : Int) (o : Bool) (n m : Int) : Prop where
  c0 : w.cell? ⟨g, 0, none⟩ = some (.int .i64 t)
  c1 : w.cell? ⟨g, 1, none⟩ = some (.int .i64 r)
  c2 : w.cell? ⟨g, 2, none⟩ = some (.bool o)
  c3 : w.cell? ⟨g, 3, none⟩ = some (.int .i64 n)
  c4 : w.cell? ⟨g, 4, none⟩ = some (.int .i64 m)
  fz : ∀ i, w.frozen? ⟨g, i, none⟩ = false

section
variable {w w' : World} {g : Nat} {c : Cf} {t r : Int} {o : Bool} {n m : Int}

theorem Bc.all (h : Bc w g ⟨t, r, o, n, m⟩) : BcAll w g t r o n m := by
  obtain ⟨a, b, c, d, e⟩ := bx5 h
  exact ⟨a, b, c, d, e, bx_thaw h⟩

theorem Bc.below (h : Bc w g c) (hb : Below w.heap.size w w') : Bc w' g c := bx_below h hb
theorem Bc.alloc (h : Bc w g c) (o : Obj) : Bc (w.alloc o) g c := bx_alloc o h
theorem Bc.lt (h : Bc w g c) : g < w.heap.size := bx_lt h
theorem Bc.new (w : World) (t r : Int) (o : Bool) (n m : Int) : Bc (w.alloc (.cells #[.int .i64 t, .int .i64 r, .bool o, .int .i64 n, .int .i64 m] 48)) w.heap.size ⟨t, r, o, n, m⟩ := heap_alloc_new w _

/-- Counters stored into a box. -/
theorem Bc.set (h : Bc w g c) (t r : Int) (o : Bool) (n m : Int) :
    Bc (((((w.setCell ⟨g, 0, none⟩ (.int .i64 t)).setCell ⟨g, 1, none⟩ (.int .i64 r)).setCell ⟨g, 2, none⟩ (.bool o)).setCell ⟨g, 3, none⟩ (.int .i64 n)).setCell ⟨g, 4, none⟩ (.int .i64 m)) g ⟨t, r, o, n, m⟩ := by
  have h1 := heap_setCell_same w g 0 _ _ (.int .i64 t) h
  have h2 := heap_setCell_same _ g 1 _ _ (.int .i64 r) h1
  have h3 := heap_setCell_same _ g 2 _ _ (.bool o) h2
  have h4 := heap_setCell_same _ g 3 _ _ (.int .i64 n) h3
  have h5 := heap_setCell_same _ g 4 _ _ (.int .i64 m) h4
  exact h5

theorem set5_other {q : Nat} (hq : q ≠ g) (v0 v1 v2 v3 v4 : Value) : (((((w.setCell ⟨g, 0, none⟩ v0).setCell ⟨g, 1, none⟩ v1).setCell ⟨g, 2, none⟩ v2).setCell ⟨g, 3, none⟩ v3).setCell ⟨g, 4, none⟩ v4).heap[q]? = w.heap[q]? := by
  rw [heap_setCell_other _ _ _ _ hq, heap_setCell_other _ _ _ _ hq, heap_setCell_other _ _ _ _ hq, heap_setCell_other _ _ _ _ hq, heap_setCell_other _ _ _ _ hq]

theorem Bc.other {q : Nat} (h : Bc w q c) (hq : q ≠ g) (v0 v1 v2 v3 v4 : Value) : Bc (((((w.setCell ⟨g, 0, none⟩ v0).setCell ⟨g, 1, none⟩ v1).setCell ⟨g, 2, none⟩ v2).setCell ⟨g, 3, none⟩ v3).setCell ⟨g, 4, none⟩ v4) q c :=
  (set5_other hq v0 v1 v2 v3 v4).trans h

theorem below_set5 {B : Nat} {w0 : World} (h : Below B w0 w) (hg : B ≤ g) (v0 v1 v2 v3 v4 : Value) : Below B w0 (((((w.setCell ⟨g, 0, none⟩ v0).setCell ⟨g, 1, none⟩ v1).setCell ⟨g, 2, none⟩ v2).setCell ⟨g, 3, none⟩ v3).setCell ⟨g, 4, none⟩ v4) :=
  ((((h.setCell (by simpa using hg) v0).setCell (by simpa using hg) v1).setCell (by simpa using hg) v2).setCell (by simpa using hg) v3).setCell (by simpa using hg) v4
end

/-- An event so often. -/
def itE (k : Nat) : Nat → Cf → Cf
  | 0, c => c
  | j + 1, c => evC (itE k j c) k

/-- A recessive bit so often. -/
def itB : Nat → Cf → Cf
  | 0, c => c
  | j + 1, c => biC (itB j c) true

end Go.Proofs.YtgpmhmdofefdcaaGreat

namespace Go.Proofs.YtgpmhmdofefdcaaGreat
open Go.RowKit
set_option linter.unusedVariables false

theorem eqC (t r : Int) (o : Bool) (n m t' r' : Int) (o' : Bool) (n' m' : Int) (w : World) : (binOp .eql 48 (.agg #[.int .i64 t, .int .i64 r, .bool o, .int .i64 n, .int .i64 m]) (.agg #[.int .i64 t', .int .i64 r', .bool o', .int .i64 n', .int .i64 m'])).run Tryz.prog w =
    .ok (.bool (decide ((⟨t, r, o, n, m⟩ : Cf) = ⟨t', r', o', n', m'⟩))) w := by
  have u3 := Tryz.underlying3
  have a3 := Tryz.isAgg3
  have z3 := Tryz.sizeOf3
  have u5 := Tryz.underlying4
  have a5 := Tryz.isAgg4
  have z5 := Tryz.sizeOf4
  have hS : Tryz.prog.underlying 48 = some (.struct (Tryz.prog.fieldsOf 48)) := by kernel_rfl
  have hp : Tryz.prog.stoodInHeld 48 = false := by kernel_rfl
  rw [run_eql_struct, show (10000 : Nat) = 9999 + 1 from rfl, run_equalIn_agg w 9999 48 _ _ hS hp]
  simp only [Program.fieldsOf, Tryz.underlying48]
  go_simp
  by_cases h1 : t = t' <;> by_cases h2 : r = r' <;> by_cases h3 : o = o' <;> by_cases h4 : n = n' <;> by_cases h5 : m = m' <;> simp [h1, h2, h3, h4, h5]

theorem neC (t r : Int) (o : Bool) (n m t' r' : Int) (o' : Bool) (n' m' : Int) (w : World) : (binOp .neq 48 (.agg #[.int .i64 t, .int .i64 r, .bool o, .int .i64 n, .int .i64 m]) (.agg #[.int .i64 t', .int .i64 r', .bool o', .int .i64 n', .int .i64 m'])).run Tryz.prog w =
    .ok (.bool (!decide ((⟨t, r, o, n, m⟩ : Cf) = ⟨t', r', o', n', m'⟩))) w := by
  have u3 := Tryz.underlying3
  have a3 := Tryz.isAgg3
  have z3 := Tryz.sizeOf3
  have u5 := Tryz.underlying4
  have a5 := Tryz.isAgg4
  have z5 := Tryz.sizeOf4
  have hS : Tryz.prog.underlying 48 = some (.struct (Tryz.prog.fieldsOf 48)) := by kernel_rfl
  have hp : Tryz.prog.stoodInHeld 48 = false := by kernel_rfl
  rw [run_neq_struct, show (10000 : Nat) = 9999 + 1 from rfl, run_equalIn_agg w 9999 48 _ _ hS hp]
  simp only [Program.fieldsOf, Tryz.underlying48]
  go_simp
  by_cases h1 : t = t' <;> by_cases h2 : r = r' <;> by_cases h3 : o = o' <;> by_cases h4 : n = n' <;> by_cases h5 : m = m' <;> simp [h1, h2, h3, h4, h5]

theorem guC : Tryz.prog.eqGuardType Tryz.prog.depth 48 = false := by kernel_rfl

theorem x1 : itE 5 16 zeC = ⟨128, 0, false, 0, 0⟩ := by decide +kernel
theorem x2 : itE 5 32 zeC = ⟨256, 0, true, 0, 0⟩ := by decide +kernel
theorem itB_add (a b : Nat) (c : Cf) : itB (a + b) c = itB a (itB b c) := by
  induction a with
  | zero => rw [Nat.zero_add]; rfl
  | succ a ih => rw [Nat.succ_add]; show biC (itB (a + b) c) true = biC (itB a (itB b c)) true; rw [ih]
theorem x3a : itB 352 ⟨256, 0, true, 0, 0⟩ = ⟨256, 0, true, 0, 32⟩ := by decide +kernel
theorem x3b : itB 352 ⟨256, 0, true, 0, 32⟩ = ⟨256, 0, true, 0, 64⟩ := by decide +kernel
theorem x3c : itB 352 ⟨256, 0, true, 0, 64⟩ = ⟨256, 0, true, 0, 96⟩ := by decide +kernel
theorem x3d : itB 351 ⟨256, 0, true, 0, 96⟩ = ⟨256, 0, true, 10, 127⟩ := by decide +kernel
theorem x3 : itB 1407 ⟨256, 0, true, 0, 0⟩ = ⟨256, 0, true, 10, 127⟩ := by
  rw [show 1407 = 351 + (352 + (352 + 352)) from rfl, itB_add, itB_add, itB_add, x3a, x3b, x3c, x3d]
theorem x4 : itB 1408 ⟨256, 0, true, 0, 0⟩ = ⟨0, 0, false, 0, 0⟩ := by
  show biC (itB 1407 ⟨256, 0, true, 0, 0⟩) true = _
  rw [x3]; decide +kernel
theorem x5 : itB 11 ⟨256, 0, true, 0, 127⟩ = ⟨0, 0, false, 0, 0⟩ := by decide +kernel

/-- The four boxes of awake. -/
structure Aw (w0 w : World) (B1 B2 B3 B4 : Nat) : Prop where
  p : Bc w B1 ⟨128, 0, false, 0, 0⟩
  o : Bc w B2 ⟨256, 0, true, 0, 0⟩
  k : Bc w B3 ⟨0, 119, false, 0, 0⟩
  n : Bc w B4 ⟨256, 0, true, 10, 127⟩
  g : Below w0.heap.size w0 w

theorem Aw.call {w0 w w' : World} {B1 B2 B3 B4 : Nat} (h : Aw w0 w B1 B2 B3 B4) (hb : Below w.heap.size w w') : Aw w0 w' B1 B2 B3 B4 :=
  ⟨h.p.below hb, h.o.below hb, h.k.below hb, h.n.below hb, bstep h.g hb⟩

end Go.Proofs.YtgpmhmdofefdcaaGreat

namespace Go.Proofs.YtgpmhmdofefdcaaGreat
open Go.RowKit Go.Sort
set_option linter.unusedVariables false

/-- What a box of counters says in every world that has only grown and drawn since. -/
structure BcGr (w : World) (g : Nat) (t r : Int) (o : Bool) (n m : Int) : Prop where
  c0 : ∀ d os, (grow (redrawn w d) os).cell? ⟨g, 0, none⟩ = some (.int .i64 t)
  c1 : ∀ d os, (grow (redrawn w d) os).cell? ⟨g, 1, none⟩ = some (.int .i64 r)
  c2 : ∀ d os, (grow (redrawn w d) os).cell? ⟨g, 2, none⟩ = some (.bool o)
  c3 : ∀ d os, (grow (redrawn w d) os).cell? ⟨g, 3, none⟩ = some (.int .i64 n)
  c4 : ∀ d os, (grow (redrawn w d) os).cell? ⟨g, 4, none⟩ = some (.int .i64 m)

theorem Bc.gr {w : World} {g : Nat} {t r : Int} {o : Bool} {n m : Int} (h : Bc w g ⟨t, r, o, n, m⟩) : BcGr w g t r o n m := by
  obtain ⟨a, b, c, d, e⟩ := bx5 h
  exact ⟨fun d os => cell_regrown a d os, fun d os => cell_regrown b d os, fun d os => cell_regrown c d os, fun d os => cell_regrown (by assumption) d os, fun d os => cell_regrown e d os⟩

/-- A contract of one result, met in a region that draws. -/
theorem toGr {f : FuncId} {args : Array Value} {v : Value} (W : World) (h : ∀ w, Calls Tryz.prog f args w fun e w' => e = .returned v ∧ Below w.heap.size w w') :
    ∀ d os, Calls Tryz.prog f args (grow (redrawn W d) os) fun e w'' => e = .returned v ∧ ∃ p : Regrown, w'' = grow (redrawn W p.d) p.os := fun d os => Calls.regrown_of (h _)

end Go.Proofs.YtgpmhmdofefdcaaGreat

namespace Go.Proofs.YtgpmhmdofefdcaaGreat
open Go.RowKit
set_option linter.unusedVariables false

/-- Where the slices of a controller lie. -/
structure Sl where
  da : Option Addr
  dc : Nat
  wa : Option Addr
  wc : Nat
  ta : Option Addr
  tc : Nat

/-- The cells of a controller. -/
def ctA (c : Ct) (s : Sl) : Array Value := #[.int .u8 (c.ph : Int), .int .i64 (c.n : Int), .int .i64 c.cf.t, .int .i64 c.cf.r, .bool c.cf.o, .int .i64 c.cf.n, .int .i64 c.cf.m, .bool c.has, .int .u32 (c.give.id : Int), .bool c.give.ext, .bool c.give.rem, .int .u8 (c.give.dlc : Int), .slice s.da c.give.data.length s.dc, .bool c.sends, .bool c.sender, .slice s.wa c.wire.length s.wc, .int .i64 (c.pos : Int), .bool c.tk.b, .int .u8 (c.tk.m : Int), .slice s.ta c.tk.l.length s.tc, .int .u8 (c.tk.p : Int), .bool c.tk.fi, .bool c.rl, .int .u8 (c.rm : Int), .bool c.err, .bool c.owed]

/-- The cells of what happens. -/
def hapA (h : Hp) (a : Option Addr) (c : Nat) : Array Value := #[.int .u8 (h.1 : Int), .int .u32 (h.2.id : Int), .bool h.2.ext, .bool h.2.rem, .int .u8 (h.2.dlc : Int), .slice a h.2.data.length c]
abbrev hap0 : Array Value := #[.int .u8 0, .int .u32 0, .bool false, .bool false, .int .u8 0, .slice none 0 0]

/-- None of the slices lies in this block. -/
structure NBs (s : Sl) (k : Nat) : Prop where
  d : NB s.da k
  w : NB s.wa k
  t : NB s.ta k

/-- A box that holds a controller's cells, and its slices, from block B on. -/
structure StB (B : Nat) (w : World) (g : Nat) (c : Ct) (s : Sl) : Prop where
  box : w.heap[g]? = some (.cells (ctA c s) 92 (0, 0))
  hB : B ≤ g
  da : OL bv 5 B w s.da c.give.data.length s.dc c.give.data
  wi : OL .bool 4 B w s.wa c.wire.length s.wc c.wire
  ti : OL .bool 4 B w s.ta c.tk.l.length s.tc c.tk.l
  nb : NBs s g

section
variable {B g : Nat} {w w0 w1 w2 : World} {c c' : Ct} {s s' : Sl}

theorem OL.wr {α : Type} {f : α → Value} {E : TypeId} {a : Option Addr} {n k : Nat} {l : List α} (h : OL f E B w a n k l) (hw : Wr g w w1) (hn : NB a g) : OL f E B w1 a n k l :=
  h.kept fun q hq => hw.block q (h.ltB hq).1 (by subst hq; exact hn.block)

theorem StB.lt (h : StB B w g c s) : g < w.heap.size := bx_lt h.box
theorem StB.fz (h : StB B w g c s) (i : Nat) : w.frozen? ⟨g, i, none⟩ = false := bx_thaw h.box i
theorem StB.below (h : StB B w g c s) (k : Below w.heap.size w w1) : StB B w1 g c s := ⟨bx_below h.box k, h.hB, h.da.below k, h.wi.below k, h.ti.below k, h.nb⟩
theorem StB.alloc (h : StB B w g c s) (o : Obj) : StB B (w.alloc o) g c s := ⟨bx_alloc o h.box, h.hB, h.da.alloc o, h.wi.alloc o, h.ti.alloc o, h.nb⟩
theorem StB.drew (h : StB B w g c s) : StB B w.drew g c s := ⟨h.box, h.hB, h.da, h.wi, h.ti, h.nb⟩

/-- The box is written anew, the slices stay. -/
theorem StB.again (h : StB B w g c s) (hw : Wr g w w1) (hb : w1.heap[g]? = some (.cells (ctA c' s) 92 (0, 0))) (e1 : c'.give.data = c.give.data) (e2 : c'.wire = c.wire) (e3 : c'.tk.l = c.tk.l) : StB B w1 g c' s :=
  ⟨hb, h.hB, by rw [e1]; exact h.da.wr hw h.nb.d, by rw [e2]; exact h.wi.wr hw h.nb.w, by rw [e3]; exact h.ti.wr hw h.nb.t, h.nb⟩

/-- One cell of the box. -/
theorem StB.put (h : StB B w g c s) (i : Nat) (v : Value) (c' : Ct) (hc : (ctA c s).setIfInBounds i v = ctA c' s) (e1 : c'.give.data = c.give.data) (e2 : c'.wire = c.wire) (e3 : c'.tk.l = c.tk.l) : StB B (w.setCell ⟨g, i, none⟩ v) g c' s :=
  h.again ((Wr.refl g w).setCell (.inl rfl) v) (by rw [heap_setCell_same w g i _ _ v h.box, hc]) e1 e2 e3

/-- The five cells of the counters. -/
theorem StB.putCf (h : StB B w g c s) (f : Cf) : StB B (((((w.setCell ⟨g, 2, none⟩ (.int .i64 f.t)).setCell ⟨g, 3, none⟩ (.int .i64 f.r)).setCell ⟨g, 4, none⟩ (.bool f.o)).setCell ⟨g, 5, none⟩ (.int .i64 f.n)).setCell ⟨g, 6, none⟩ (.int .i64 f.m)) g { c with cf := f } s := by
  refine h.again (((((((Wr.refl g w).setCell (.inl rfl) _).setCell (.inl rfl) _).setCell (.inl rfl) _).setCell (.inl rfl) _).setCell (.inl rfl) _)) ?_ rfl rfl rfl
  exact heap_setCell_same _ g 6 _ _ _ (heap_setCell_same _ g 5 _ _ _ (heap_setCell_same _ g 4 _ _ _ (heap_setCell_same _ g 3 _ _ _ (heap_setCell_same w g 2 _ _ _ h.box))))

/-- A cell of another block than the box and the slices. -/
theorem StB.other (h : StB B w g c s) {q : Nat} (hq : g ≠ q) (hn : NBs s q) (i : Nat) (v : Value) : StB B (w.setCell ⟨q, i, none⟩ v) g c s := by
  have hk : ∀ k, k ≠ q → (w.setCell ⟨q, i, none⟩ v).heap[k]? = w.heap[k]? := fun k e => Below.heap_setCell _ _ _ _ e
  exact ⟨by rw [hk g hq]; exact h.box, h.hB, h.da.kept fun k e => hk k (hn.d _ e), h.wi.kept fun k e => hk k (hn.w _ e), h.ti.kept fun k e => hk k (hn.t _ e), h.nb⟩

theorem ol_nb {α : Type} {f : α → Value} {E : TypeId} {a : Option Addr} {n k b : Nat} {l : List α} (h : OL f E b w a n k l) {q : Nat} (hq : q < b) : NB a q := fun p hp e => by have := (h.ltB hp).2; omega

/-- What is read, stored. -/
theorem StB.putTk (h : StB B w g c s) (t : Tk) (a : Option Addr) (k : Nat) (ho : OL .bool 4 B w a t.l.length k t.l) (hn : NB a g) :
    StB B (((((w.setCell ⟨g, 17, none⟩ (.bool t.b)).setCell ⟨g, 18, none⟩ (.int .u8 (t.m : Int))).setCell ⟨g, 19, none⟩ (.slice a t.l.length k)).setCell ⟨g, 20, none⟩ (.int .u8 (t.p : Int))).setCell ⟨g, 21, none⟩ (.bool t.fi)) g { c with tk := t } { s with ta := a, tc := k } := by
  have hw : Wr g w (((((w.setCell ⟨g, 17, none⟩ (.bool t.b)).setCell ⟨g, 18, none⟩ (.int .u8 (t.m : Int))).setCell ⟨g, 19, none⟩ (.slice a t.l.length k)).setCell ⟨g, 20, none⟩ (.int .u8 (t.p : Int))).setCell ⟨g, 21, none⟩ (.bool t.fi)) :=
    ((((((Wr.refl g w).setCell (.inl rfl) _).setCell (.inl rfl) _).setCell (.inl rfl) _).setCell (.inl rfl) _).setCell (.inl rfl) _)
  exact ⟨heap_setCell_same _ g 21 _ _ _ (heap_setCell_same _ g 20 _ _ _ (heap_setCell_same _ g 19 _ _ _ (heap_setCell_same _ g 18 _ _ _ (heap_setCell_same w g 17 _ _ _ h.box)))), h.hB, h.da.wr hw h.nb.d, h.wi.wr hw h.nb.w, ho.wr hw hn, h.nb.d, h.nb.w, hn⟩

/-- The wire, stored. -/
theorem StB.putWi (h : StB B w g c s) (l : List Bool) (a : Option Addr) (n k : Nat) (hl : l.length = n) (ho : OL .bool 4 B w a n k l) (hn : NB a g) :
    StB B (w.setCell ⟨g, 15, none⟩ (.slice a n k)) g { c with wire := l } { s with wa := a, wc := k } := by
  subst hl
  have hw : Wr g w (w.setCell ⟨g, 15, none⟩ (.slice a l.length k)) := (Wr.refl g w).setCell (.inl rfl) _
  exact ⟨heap_setCell_same w g 15 _ _ _ h.box, h.hB, h.da.wr hw h.nb.d, ho.wr hw hn, h.ti.wr hw h.nb.t, h.nb.d, hn, h.nb.t⟩

/-- The frame, stored: five cells. -/
theorem StB.putGv (h : StB B w g c s) (f : Fr) (a : Option Addr) (k : Nat) (ho : OL bv 5 B w a f.data.length k f.data) (hn : NB a g) :
    StB B (((((w.setCell ⟨g, 8, none⟩ (.int .u32 (f.id : Int))).setCell ⟨g, 9, none⟩ (.bool f.ext)).setCell ⟨g, 10, none⟩ (.bool f.rem)).setCell ⟨g, 11, none⟩ (.int .u8 (f.dlc : Int))).setCell ⟨g, 12, none⟩ (.slice a f.data.length k)) g { c with give := f } { s with da := a, dc := k } := by
  have hw : Wr g w (((((w.setCell ⟨g, 8, none⟩ (.int .u32 (f.id : Int))).setCell ⟨g, 9, none⟩ (.bool f.ext)).setCell ⟨g, 10, none⟩ (.bool f.rem)).setCell ⟨g, 11, none⟩ (.int .u8 (f.dlc : Int))).setCell ⟨g, 12, none⟩ (.slice a f.data.length k)) :=
    ((((((Wr.refl g w).setCell (.inl rfl) _).setCell (.inl rfl) _).setCell (.inl rfl) _).setCell (.inl rfl) _).setCell (.inl rfl) _)
  exact ⟨heap_setCell_same _ g 12 _ _ _ (heap_setCell_same _ g 11 _ _ _ (heap_setCell_same _ g 10 _ _ _ (heap_setCell_same _ g 9 _ _ _ (heap_setCell_same w g 8 _ _ _ h.box)))), h.hB, ho.wr hw hn, h.wi.wr hw h.nb.w, h.ti.wr hw h.nb.t, hn, h.nb.w, h.nb.t⟩

theorem StB.q0 (h : StB B w g c s) : w.cell? ⟨g, 0, none⟩ = some (.int .u8 (c.ph : Int)) := by rw [cell_of_row w g 0 _ _ _ h.box]; rfl
theorem StB.q1 (h : StB B w g c s) : w.cell? ⟨g, 1, none⟩ = some (.int .i64 (c.n : Int)) := by rw [cell_of_row w g 1 _ _ _ h.box]; rfl
theorem StB.q2 (h : StB B w g c s) : w.cell? ⟨g, 2, none⟩ = some (.int .i64 c.cf.t) := by rw [cell_of_row w g 2 _ _ _ h.box]; rfl
theorem StB.q3 (h : StB B w g c s) : w.cell? ⟨g, 3, none⟩ = some (.int .i64 c.cf.r) := by rw [cell_of_row w g 3 _ _ _ h.box]; rfl
theorem StB.q4 (h : StB B w g c s) : w.cell? ⟨g, 4, none⟩ = some (.bool c.cf.o) := by rw [cell_of_row w g 4 _ _ _ h.box]; rfl
theorem StB.q5 (h : StB B w g c s) : w.cell? ⟨g, 5, none⟩ = some (.int .i64 c.cf.n) := by rw [cell_of_row w g 5 _ _ _ h.box]; rfl
theorem StB.q6 (h : StB B w g c s) : w.cell? ⟨g, 6, none⟩ = some (.int .i64 c.cf.m) := by rw [cell_of_row w g 6 _ _ _ h.box]; rfl
theorem StB.q7 (h : StB B w g c s) : w.cell? ⟨g, 7, none⟩ = some (.bool c.has) := by rw [cell_of_row w g 7 _ _ _ h.box]; rfl
theorem StB.q8 (h : StB B w g c s) : w.cell? ⟨g, 8, none⟩ = some (.int .u32 (c.give.id : Int)) := by rw [cell_of_row w g 8 _ _ _ h.box]; rfl
theorem StB.q9 (h : StB B w g c s) : w.cell? ⟨g, 9, none⟩ = some (.bool c.give.ext) := by rw [cell_of_row w g 9 _ _ _ h.box]; rfl
theorem StB.q10 (h : StB B w g c s) : w.cell? ⟨g, 10, none⟩ = some (.bool c.give.rem) := by rw [cell_of_row w g 10 _ _ _ h.box]; rfl
theorem StB.q11 (h : StB B w g c s) : w.cell? ⟨g, 11, none⟩ = some (.int .u8 (c.give.dlc : Int)) := by rw [cell_of_row w g 11 _ _ _ h.box]; rfl
theorem StB.q12 (h : StB B w g c s) : w.cell? ⟨g, 12, none⟩ = some (.slice s.da c.give.data.length s.dc) := by rw [cell_of_row w g 12 _ _ _ h.box]; rfl
theorem StB.q13 (h : StB B w g c s) : w.cell? ⟨g, 13, none⟩ = some (.bool c.sends) := by rw [cell_of_row w g 13 _ _ _ h.box]; rfl
theorem StB.q14 (h : StB B w g c s) : w.cell? ⟨g, 14, none⟩ = some (.bool c.sender) := by rw [cell_of_row w g 14 _ _ _ h.box]; rfl
theorem StB.q15 (h : StB B w g c s) : w.cell? ⟨g, 15, none⟩ = some (.slice s.wa c.wire.length s.wc) := by rw [cell_of_row w g 15 _ _ _ h.box]; rfl
theorem StB.q16 (h : StB B w g c s) : w.cell? ⟨g, 16, none⟩ = some (.int .i64 (c.pos : Int)) := by rw [cell_of_row w g 16 _ _ _ h.box]; rfl
theorem StB.q17 (h : StB B w g c s) : w.cell? ⟨g, 17, none⟩ = some (.bool c.tk.b) := by rw [cell_of_row w g 17 _ _ _ h.box]; rfl
theorem StB.q18 (h : StB B w g c s) : w.cell? ⟨g, 18, none⟩ = some (.int .u8 (c.tk.m : Int)) := by rw [cell_of_row w g 18 _ _ _ h.box]; rfl
theorem StB.q19 (h : StB B w g c s) : w.cell? ⟨g, 19, none⟩ = some (.slice s.ta c.tk.l.length s.tc) := by rw [cell_of_row w g 19 _ _ _ h.box]; rfl
theorem StB.q20 (h : StB B w g c s) : w.cell? ⟨g, 20, none⟩ = some (.int .u8 (c.tk.p : Int)) := by rw [cell_of_row w g 20 _ _ _ h.box]; rfl
theorem StB.q21 (h : StB B w g c s) : w.cell? ⟨g, 21, none⟩ = some (.bool c.tk.fi) := by rw [cell_of_row w g 21 _ _ _ h.box]; rfl
theorem StB.q22 (h : StB B w g c s) : w.cell? ⟨g, 22, none⟩ = some (.bool c.rl) := by rw [cell_of_row w g 22 _ _ _ h.box]; rfl
theorem StB.q23 (h : StB B w g c s) : w.cell? ⟨g, 23, none⟩ = some (.int .u8 (c.rm : Int)) := by rw [cell_of_row w g 23 _ _ _ h.box]; rfl
theorem StB.q24 (h : StB B w g c s) : w.cell? ⟨g, 24, none⟩ = some (.bool c.err) := by rw [cell_of_row w g 24 _ _ _ h.box]; rfl
theorem StB.q25 (h : StB B w g c s) : w.cell? ⟨g, 25, none⟩ = some (.bool c.owed) := by rw [cell_of_row w g 25 _ _ _ h.box]; rfl
end

/-- In a method's body: the state, the box of the result (still zero, laid first), and what was kept. -/
structure Mb (B : Nat) (w wr : World) (g : Nat) (c : Ct) (s s1 : Sl) : Prop where
  st : StB B wr g c s1
  lt : g < w.heap.size
  hp : wr.heap[w.heap.size]? = some (.cells hap0 63 (0, 0))
  wr : Wr g w wr
  nh : NBs s1 w.heap.size
  ns : ∀ k, k < w.heap.size → NBs s k → NBs s1 k

/-- What a method without a result leaves. -/
structure Left (B : Nat) (w w' : World) (g : Nat) (c' : Ct) (s s' : Sl) : Prop where
  st : StB B w' g c' s'
  wr : Wr g w w'
  ns : ∀ k, k < w.heap.size → NBs s k → NBs s' k

section
variable {B g : Nat} {w wr w2 : World} {c c' : Ct} {s s1 s2 : Sl}

theorem StB.nbs (h : StB B w g c s) {k : Nat} (hk : w.heap.size ≤ k) : NBs s k :=
  ⟨fun q hq e => by have := (h.da.ltB hq).1; omega, fun q hq e => by have := (h.wi.ltB hq).1; omega, fun q hq e => by have := (h.ti.ltB hq).1; omega⟩

theorem Mb.start (h : StB B w g c s) : Mb B w (w.alloc (.cells hap0 63)) g c s s :=
  ⟨h.alloc _, h.lt, heap_alloc_new w _, (Wr.refl g w).alloc _, h.nbs (Nat.le_refl _), fun k hk hn => hn⟩

theorem Mb.size (h : Mb B w wr g c s s1) : w.heap.size + 1 ≤ wr.heap.size := bx_lt h.hp

theorem Mb.left (h : Mb B w wr g c s s1) (l : Left B wr w2 g c' s1 s2) : Mb B w w2 g c' s s2 :=
  ⟨l.st, h.lt, by rw [l.wr.block _ (by have := h.size; omega) (by have := h.lt; omega)]; exact h.hp, h.wr.trans l.wr, l.ns _ (by have := h.size; omega) h.nh, fun k hk hn => l.ns k (by have := h.size; omega) (h.ns k hk hn)⟩

theorem Mb.call (h : Mb B w wr g c s s1) (k : Below wr.heap.size wr w2) : Mb B w w2 g c s s1 :=
  ⟨h.st.below k, h.lt, bx_below h.hp k, h.wr.call k, h.nh, h.ns⟩

theorem Mb.alloc (h : Mb B w wr g c s s1) (o : Obj) : Mb B w (wr.alloc o) g c s s1 := h.call (bnew0 wr o)
theorem Mb.put (h : Mb B w wr g c s s1) (i : Nat) (v : Value) (c' : Ct) (hc : (ctA c s1).setIfInBounds i v = ctA c' s1) (e1 : c'.give.data = c.give.data) (e2 : c'.wire = c.wire) (e3 : c'.tk.l = c.tk.l) : Mb B w (wr.setCell ⟨g, i, none⟩ v) g c' s s1 :=
  ⟨h.st.put i v c' hc e1 e2 e3, h.lt, by rw [Below.heap_setCell _ _ _ _ (by have := h.lt; show w.heap.size ≠ g; omega)]; exact h.hp, h.wr.setCell (.inl rfl) v, h.nh, h.ns⟩
theorem Mb.putCf (h : Mb B w wr g c s s1) (f : Cf) : Mb B w (((((wr.setCell ⟨g, 2, none⟩ (.int .i64 f.t)).setCell ⟨g, 3, none⟩ (.int .i64 f.r)).setCell ⟨g, 4, none⟩ (.bool f.o)).setCell ⟨g, 5, none⟩ (.int .i64 f.n)).setCell ⟨g, 6, none⟩ (.int .i64 f.m)) g { c with cf := f } s s1 :=
  ⟨h.st.putCf f, h.lt, by
    have := h.lt
    have hk : ∀ (v : World) i u, (v.setCell ⟨g, i, none⟩ u).heap[w.heap.size]? = v.heap[w.heap.size]? := fun v i u => Below.heap_setCell _ _ _ _ (by show w.heap.size ≠ g; omega)
    rw [hk, hk, hk, hk, hk]; exact h.hp, ((((h.wr.setCell (.inl rfl) _).setCell (.inl rfl) _).setCell (.inl rfl) _).setCell (.inl rfl) _).setCell (.inl rfl) _, h.nh, h.ns⟩

/-- The result's box: its six cells. -/
theorem Mb.hps (h : Mb B w wr g c s s1) : wr.cell? ⟨w.heap.size, 0, none⟩ = some (.int .u8 0) ∧ wr.cell? ⟨w.heap.size, 1, none⟩ = some (.int .u32 0) ∧ wr.cell? ⟨w.heap.size, 2, none⟩ = some (.bool false) ∧ wr.cell? ⟨w.heap.size, 3, none⟩ = some (.bool false) ∧ wr.cell? ⟨w.heap.size, 4, none⟩ = some (.int .u8 0) ∧ wr.cell? ⟨w.heap.size, 5, none⟩ = some (.slice none 0 0) :=
  ⟨by rw [cell_of_row _ _ 0 _ _ _ h.hp]; rfl, by rw [cell_of_row _ _ 1 _ _ _ h.hp]; rfl, by rw [cell_of_row _ _ 2 _ _ _ h.hp]; rfl, by rw [cell_of_row _ _ 3 _ _ _ h.hp]; rfl, by rw [cell_of_row _ _ 4 _ _ _ h.hp]; rfl, by rw [cell_of_row _ _ 5 _ _ _ h.hp]; rfl⟩
theorem Mb.hpf (h : Mb B w wr g c s s1) (i : Nat) : wr.frozen? ⟨w.heap.size, i, none⟩ = false := bx_thaw h.hp i

/-- Behind six stores into the result's box. -/
theorem Mb.fin (h : Mb B w wr g c s s1) (v0 v1 v2 v3 v4 v5 : Value) :
    Left B w ((((((wr.setCell ⟨w.heap.size, 0, none⟩ v0).setCell ⟨w.heap.size, 1, none⟩ v1).setCell ⟨w.heap.size, 2, none⟩ v2).setCell ⟨w.heap.size, 3, none⟩ v3).setCell ⟨w.heap.size, 4, none⟩ v4).setCell ⟨w.heap.size, 5, none⟩ v5) g c s s1 := by
  have hq : g ≠ w.heap.size := by have := h.lt; omega
  exact ⟨(((((h.st.other hq h.nh 0 v0).other hq h.nh 1 v1).other hq h.nh 2 v2).other hq h.nh 3 v3).other hq h.nh 4 v4).other hq h.nh 5 v5,
    (((((h.wr.setCell (.inr (Nat.le_refl _)) v0).setCell (.inr (Nat.le_refl _)) v1).setCell (.inr (Nat.le_refl _)) v2).setCell (.inr (Nat.le_refl _)) v3).setCell (.inr (Nat.le_refl _)) v4).setCell (.inr (Nat.le_refl _)) v5, h.ns⟩

theorem set6_other {k q : Nat} (hq : k ≠ q) (v0 v1 v2 v3 v4 v5 : Value) : ((((((wr.setCell ⟨q, 0, none⟩ v0).setCell ⟨q, 1, none⟩ v1).setCell ⟨q, 2, none⟩ v2).setCell ⟨q, 3, none⟩ v3).setCell ⟨q, 4, none⟩ v4).setCell ⟨q, 5, none⟩ v5).heap[k]? = wr.heap[k]? := by
  rw [Below.heap_setCell _ _ _ _ hq, Below.heap_setCell _ _ _ _ hq, Below.heap_setCell _ _ _ _ hq, Below.heap_setCell _ _ _ _ hq, Below.heap_setCell _ _ _ _ hq, Below.heap_setCell _ _ _ _ hq]
end

/-- What a method leaves that tells what happened. -/
def Told (B : Nat) (w : World) (g : Nat) (s : Sl) (r : Ct × Hp) (e : Ending) (w' : World) : Prop :=
  ∃ s' a n, e = .returned (.agg #[.int .u8 (r.2.1 : Int), .int .u32 (r.2.2.id : Int), .bool r.2.2.ext, .bool r.2.2.rem, .int .u8 (r.2.2.dlc : Int), .slice a r.2.2.data.length n]) ∧ Left B w w' g r.1 s s' ∧ OL bv 5 B w' a r.2.2.data.length n r.2.2.data ∧ (∀ k, k < w.heap.size → NBs s k → NB a k)

theorem Told.plain {B g : Nat} {w w' : World} {s s' : Sl} {r : Ct × Hp} (k : Nat) (h : r.2 = (k, zeroFr)) (l : Left B w w' g r.1 s s') : Told B w g s r (.returned (.agg (hapA (k, zeroFr) none 0))) w' :=
  ⟨s', none, 0, by rw [h]; rfl, l, by rw [h]; exact OL.nil _ _ _ _, fun k _ _ => NB.nil k⟩

/-- What a callee told, handed on. -/
theorem Mb.told {B g : Nat} {w w3 w4 : World} {c3 : Ct} {s s3 s4 : Sl} {r : Ct × Hp} {a : Option Addr} {n : Nat} (m : Mb B w w3 g c3 s s3) (l : Left B w3 w4 g r.1 s3 s4) (ho : OL bv 5 B w4 a r.2.2.data.length n r.2.2.data)
    (hb : ∀ k, k < w3.heap.size → NBs s3 k → NB a k) (v0 v1 v2 v3 v4 v5 : Value) : Told B w g s r (.returned (.agg (hapA r.2 a n))) ((((((w4.setCell ⟨w.heap.size, 0, none⟩ v0).setCell ⟨w.heap.size, 1, none⟩ v1).setCell ⟨w.heap.size, 2, none⟩ v2).setCell ⟨w.heap.size, 3, none⟩ v3).setCell ⟨w.heap.size, 4, none⟩ v4).setCell ⟨w.heap.size, 5, none⟩ v5) := by
  have hn : NB a w.heap.size := hb _ (by have := m.size; omega) m.nh
  exact ⟨s4, a, n, rfl, (m.left l).fin _ _ _ _ _ _, ho.kept fun k hk => set6_other (hn _ hk) _ _ _ _ _ _, fun k hk hs => hb k (by have := m.size; omega) (m.ns k hk hs)⟩

theorem Mb.now {B g : Nat} {w wr : World} {c : Ct} {s s1 : Sl} {r : Ct × Hp} (m : Mb B w wr g c s s1) (k : Nat) (h1 : r.1 = c) (h : r.2 = (k, zeroFr)) : Told B w g s r (.returned (.agg (hapA (k, zeroFr) none 0))) wr :=
  Told.plain k h (by rw [h1]; exact ⟨m.st, m.wr, m.ns⟩)

theorem Mb.six {B g : Nat} {w wr : World} {c : Ct} {s s1 : Sl} {r : Ct × Hp} (m : Mb B w wr g c s s1) (k : Nat) (h1 : r.1 = c) (h : r.2 = (k, zeroFr)) (v0 v1 v2 v3 v4 v5 : Value) :
    Told B w g s r (.returned (.agg (hapA (k, zeroFr) none 0))) ((((((wr.setCell ⟨w.heap.size, 0, none⟩ v0).setCell ⟨w.heap.size, 1, none⟩ v1).setCell ⟨w.heap.size, 2, none⟩ v2).setCell ⟨w.heap.size, 3, none⟩ v3).setCell ⟨w.heap.size, 4, none⟩ v4).setCell ⟨w.heap.size, 5, none⟩ v5) :=
  Told.plain k h (by rw [h1]; exact m.fin _ _ _ _ _ _)
end Go.Proofs.YtgpmhmdofefdcaaGreat
