/-
  A map that counts steps, as the statement on masks uses one: what a step reads as.
-/
import Derived.Test.YtoeeaohgihipgaaM5g
import Derived.Test.YtoeeaohgihipgaaBase2K
import Derived.Maps.OwnOps
import Derived.Maps.Views
namespace Go.Proofs.Ytoeeaohgihipgaa
open Go.RowKit Go.Maps Go.Sort
set_option linter.unusedVariables false

theorem wf64 (x : Int) (h1 : -9223372036854775808 ≤ x) (h2 : x ≤ 9223372036854775807) : (Lit.int .i64 x).wf = true := by
  simp [Lit.wf, IntKind.min, IntKind.max, IntKind.signed, IntKind.bits]; omega

theorem lawI : Keyed Try.prog 3 := int_keyed Try.underlying3
theorem zeroI (w : World) : (zeroValue 3).run Try.prog w = .ok (.int .i64 0) w := by kernel_rfl

/-- The map reads 0 at just those steps that are not among ts. -/
def HitD (D : DataW Unit) (ts : List Int) : Prop :=
  IsMap D ∧ ∀ t : Int, ∃ c : Int, D.atKey (.int .i64 t) (.lit (.int .i64 0)) = .lit (.int .i64 c) ∧ 0 ≤ c ∧ c ≤ ts.length ∧ (c = 0 ↔ t ∉ ts)

theorem hit_made : HitD (.map []) [] := ⟨isMap_empty, fun t => ⟨0, rfl, by omega, by simp, by simp⟩⟩

theorem hit_put {D : DataW Unit} {ts : List Int} {t c : Int} (h : HitD D ts) (hc : D.atKey (.int .i64 t) (.lit (.int .i64 0)) = .lit (.int .i64 c)) : HitD (D.put (.int .i64 t) (.lit (.int .i64 (c + 1)))) (ts ++ [t]) := by
  refine ⟨h.1.put _ _, fun u => ?_⟩
  by_cases e : u = t
  · subst e
    obtain ⟨c', h1, h2, h3, h4⟩ := h.2 u
    rw [hc] at h1
    obtain rfl : c = c' := by simpa using h1
    refine ⟨c + 1, atKey_put_same h.1 (show WideAt.IsKeyLit (.int .i64 u) by simp [WideAt.IsKeyLit]) _ _, by omega, by simp; omega, by simp; omega⟩
  · obtain ⟨c', h1, h2, h3, h4⟩ := h.2 u
    have hne : (Lit.int .i64 u) ≠ (Lit.int .i64 t) := fun e' => e (by simpa using e')
    refine ⟨c', by rw [atKey_put_other hne]; exact h1, h2, by simp; omega, by rw [h4]; simp [e]⟩

theorem hit_at {D : DataW Unit} {ts : List Int} {t c : Int} (h : HitD D ts) (hc : D.atKey (.int .i64 t) (.lit (.int .i64 0)) = .lit (.int .i64 c)) : 0 ≤ c ∧ c ≤ ts.length ∧ (c = 0 ↔ t ∉ ts) := by
  obtain ⟨c', h1, h2⟩ := h.2 t
  rw [hc] at h1
  obtain rfl : c = c' := by simpa using h1
  exact h2

theorem grown_of {w w' : World} (h : Below w.heap.size w w') : w.grownBy w' none := ⟨h.os, h.tape, h.output, h.size, fun k hk _ => h.block k hk⟩

/-- A number as a cell. -/
def iv (x : Int) : Value := .int .i64 x

theorem RK.keptAt {α : Type} {enc : α → List Value} {k : Nat} {w w' : World} {a : Option Addr} {n c : Nat} {l : List α} (h : RK enc k w a n c l) (hk : ∀ b off, a = some ⟨b, off, none⟩ → b < w.heap.size → w'.heap[b]? = w.heap[b]?) (hs : w.heap.size ≤ w'.heap.size) : RK enc k w' a n c l :=
  ⟨h.len, h.cap, fun hn => by
    obtain ⟨b, off, ha, hlt, hc⟩ := h.cell hn
    exact ⟨b, off, ha, Nat.lt_of_lt_of_le hlt hs, fun i x j v hx hv => (World.cell?_of_block (a := ⟨b, off + (i * k + j), none⟩) (hk b off ha hlt)).trans (hc i x j v hx hv)⟩⟩

/-- The row of asked steps grows beside a row of flips that is read. -/
structure AskS (B : Nat) (w0 wr : World) (aa : Option Addr) (m cc : Nat) (ts : List Int) (ax : Option Addr) (nx cx : Nat) (xs : List Fl) : Prop where
  row : OL iv 3 B wr aa m cc ts
  rk : RK fe 2 wr ax nx cx xs
  dis : ∀ p q, aa = some p → ax = some q → p.block ≠ q.block
  bel : Below B w0 wr
  le : B ≤ wr.heap.size
  lt : ∀ q, ax = some q → q.block < wr.heap.size

theorem AskS.alloc {B : Nat} {w0 wr : World} {aa : Option Addr} {m cc : Nat} {ts : List Int} {ax : Option Addr} {nx cx : Nat} {xs : List Fl} (h : AskS B w0 wr aa m cc ts ax nx cx xs) (o : Obj) : AskS B w0 (wr.alloc o) aa m cc ts ax nx cx xs :=
  ⟨h.row.alloc o, h.rk.below (bnew0 wr o), h.dis, h.bel.alloc h.le o, by have := h.le; simp; omega, fun q hq => by have := h.lt q hq; simp; omega⟩

theorem AskS.app {B : Nat} {w0 wr w2 : World} {aa a' : Option Addr} {m cc m' c' : Nat} {ts ts' : List Int} {ax : Option Addr} {nx cx : Nat} {xs : List Fl} (h : AskS B w0 wr aa m cc ts ax nx cx xs) (ho : OL iv 3 B w2 a' m' c' ts') (g : Below B wr w2) (hk : ∀ k, k < wr.heap.size → NB aa k → w2.heap[k]? = wr.heap[k]? ∧ NB a' k) : AskS B w0 w2 a' m' c' ts' ax nx cx xs := by
  have hnb : ∀ q, ax = some q → NB aa q.block := fun q hq p hp e => h.dis p q hp hq e
  refine ⟨ho, h.rk.keptAt (fun b off hb hlt => (hk b hlt (hnb _ hb)).1) g.size, fun p q hp hq => (hk q.block (h.lt q hq) (hnb q hq)).2 p hp, h.bel.trans g, Nat.le_trans h.le g.size, fun q hq => Nat.lt_of_lt_of_le (h.lt q hq) g.size⟩
end Go.Proofs.Ytoeeaohgihipgaa
