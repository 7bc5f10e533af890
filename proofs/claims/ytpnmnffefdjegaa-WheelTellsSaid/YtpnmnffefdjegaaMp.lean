/-
  Words on a map of the call's own, from numbers to numbers: what it reads, and what keeps it.
-/
import Derived.Test.YtpnmnffefdjegaaCh
import Derived.Test.YtpnmnffefdjegaaCt0
import Derived.Maps.OwnOps
import Derived.Maps.OwnSet
import Derived.Maps.Views
namespace Go.Sort
end Go.Sort
namespace Go.Proofs.Ytpnmnffefdjegaa
open Go.RowKit Go.Maps Go.Sort
set_option linter.unusedVariables false

theorem wf64 (x : Int) (h1 : -9223372036854775808 ≤ x) (h2 : x ≤ 9223372036854775807) : (Lit.int .i64 x).wf = true := by
  simp [Lit.wf, IntKind.min, IntKind.max, IntKind.signed, IntKind.bits]; omega

theorem lawI : Keyed Try.prog 3 := int_keyed Try.underlying3
theorem zeroI (w : World) : (zeroValue 3).run Try.prog w = .ok (.int .i64 0) w := by kernel_rfl

/-- The map reads 0 at just those steps that are not among ts. -/
def HitD (D : DataW Unit) (ts : List Int) : Prop :=
  IsMap D ∧ ∀ t : Int, ∃ c : Int, D.atKey (.int .i64 t) (.lit (.int .i64 0)) = .lit (.int .i64 c) ∧ 0 ≤ c ∧ c ≤ ts.length ∧ (c = 0 ↔ t ∉ ts)

theorem hit_made : HitD (.map []) [] := ⟨isMap_empty, fun t => ⟨0, rfl, by omega, by simp, by simp⟩⟩

theorem hit_put {D : DataW Unit} {ts : List Int} {t c : Int} (h : HitD D ts) (hc : D.atKey (.int .i64 t) (.lit (.int .i64 0)) = .lit (.int .i64 c)) : HitD (D.put (.int .i64 t) (.lit (.int .i64 (c + 1)))) (ts ++ [t]) := by
  refine ⟨h.1.put _ _, fun u => ?_⟩
  by_cases e : u = t
  · subst e
    obtain ⟨c', h1, h2, h3, h4⟩ := h.2 u
    rw [hc] at h1
    obtain rfl : c = c' := by simpa using h1
    refine ⟨c + 1, atKey_put_same h.1 (show WideAt.IsKeyLit (.int .i64 u) by simp [WideAt.IsKeyLit]) _ _, by omega, by simp; omega, by simp; omega⟩
  · obtain ⟨c', h1, h2, h3, h4⟩ := h.2 u
    have hne : (Lit.int .i64 u) ≠ (Lit.int .i64 t) := fun e' => e (by simpa using e')
    refine ⟨c', by rw [atKey_put_other hne]; exact h1, h2, by simp; omega, by rw [h4]; simp [e]⟩

theorem hit_at {D : DataW Unit} {ts : List Int} {t c : Int} (h : HitD D ts) (hc : D.atKey (.int .i64 t) (.lit (.int .i64 0)) = .lit (.int .i64 c)) : 0 ≤ c ∧ c ≤ ts.length ∧ (c = 0 ↔ t ∉ ts) := by
  obtain ⟨c', h1, h2⟩ := h.2 t
  rw [hc] at h1
  obtain rfl : c = c' := by simpa using h1
  exact h2

theorem grown_of {w w' : World} (h : Below w.heap.size w w') : w.grownBy w' none := ⟨h.os, h.tape, h.output, h.size, fun k hk _ => h.block k hk⟩

/-- A map from numbers to numbers, of the call's own, in block b. -/
abbrev MI (w : World) (b n : Nat) (D : DataW Unit) : Prop := w.ownsMap Try.prog 3 (plainElem Try.prog 3) b n D
section
variable {w w1 : World} {b n : Nat} {D : DataW Unit} {S : Nat → Prop}
theorem MI.at (h : MI w b n D) (k : w1.heap[b]? = w.heap[b]?) : MI w1 b n D := by
  obtain ⟨es, clock, hb, F, hs, hD⟩ := h
  exact ⟨es, clock, k.trans hb, F, hs, hD⟩
theorem MI.ch (h : MI w b n D) (k : Ch S w w1) (hn : ¬ S b) : MI w1 b n D := h.at (k.block b h.lt hn)
theorem MI.below (h : MI w b n D) (k : Below w.heap.size w w1) : MI w1 b n D := h.at (k.block b h.lt)

/-- A look-up behind a guard that lets it by. -/
theorem wpList_lookupW {P : Program} {w : World} {ops : Array Oper} {rest : List Oper} {o : Oper} {a : Act} {Q : Exit → Act → World → Prop}
    (hw : Region.wanted o (yielded ops a.tmps) = true) (m x : Operand) (t : TypeId) (hop : o.op = Op.lookup t m x false)
    (k e : TypeId) (q : IntKind) (K : Keyed P k) (ht : P.underlying t = some (.map k e)) (he : P.underlying e = some (.int q)) (hz : (zeroValue e).run P w = .ok (.int q 0) w) (b n : Nat) (D : DataW Unit)
    (hm : a.eval m = .map (some b)) (hown : w.ownsMap P k (plainElem P e) b n D) (key : Value) (kl : Lit) (hx : a.eval x = key) (hkey : keyOf P k key = some kl)
    (hK : ∀ c : Int, D.atKey kl (.lit (.int q 0)) = .lit (.int q c) → (Lit.int q c).wf = true → wpList P ops Q rest (a.put o.dst (.int q c)) w) :
    wpList P ops Q (o :: rest) a w := by
  refine wpList_step fun K' hK' => ?_
  rw [if_pos hw]
  obtain ⟨c, hrun, hat, hwc⟩ := hown.lookup_int K ht he hz hkey
  unfold Oper.wp
  simp [execOp, hop, hm, hx, hrun, Result.andThen]
  exact hK' _ _ (hK c hat hwc)

/-- What a key of a map that counts reads as. -/
theorem hit_get {D : DataW Unit} {ts : List Int} (h : HitD D ts) (t : Int) : ∃ c : Int, D.atKey (.int .i64 t) (.lit (.int .i64 0)) = .lit (.int .i64 c) ∧ 0 ≤ c ∧ c ≤ ts.length ∧ (c = 0 ↔ t ∉ ts) := h.2 t
end
/-- A look-up, as an equation. -/
theorem mi_look {w : World} {b n : Nat} {D : DataW Unit} (h : MI w b n D) {t c : Int} (hat : D.atKey (.int .i64 t) (.lit (.int .i64 0)) = .lit (.int .i64 c)) (hwf : (Lit.int .i64 t).wf = true) :
    (Instr.lookup 50 (.map (some b)) (.int .i64 t) false).run Try.prog w = .ok (.int .i64 c) w := by
  obtain ⟨c', hrun, hat', _⟩ := World.ownsMap.lookup_int h lawI Try.underlying50 Try.underlying3 (zeroI _) (keyOf_int_mk Try.underlying3 hwf)
  rw [hat] at hat'
  obtain rfl : c = c' := by simpa using hat'
  exact hrun
/-- A map whose keys are just those of a list. -/
structure Met (D : DataW Unit) (ts : List Int) : Prop where
  tidy : Tidy D
  has : ∀ t : Int, Maps.has D (.int .i64 t) = decide (t ∈ ts)
  size : Maps.size D = ts.length
theorem Met.new : Met (.map []) [] := ⟨tidy_empty, fun t => rfl, rfl⟩
theorem Met.no {D : DataW Unit} {ts : List Int} (h : Met D ts) {t : Int} (ht : t ∉ ts) : D.atKey (.int .i64 t) (.lit (.int .i64 0)) = .lit (.int .i64 0) := by
  have := h.has t
  rw [decide_eq_false ht] at this
  exact atKey_of_not_has this _
theorem Met.put {D : DataW Unit} {ts : List Int} (h : Met D ts) {t : Int} (ht : t ∉ ts) (d : DataW Unit) : Met (D.put (.int .i64 t) d) (ts ++ [t]) := by
  have hk : WideAt.IsKeyLit (.int .i64 t) := by simp [WideAt.IsKeyLit]
  refine ⟨h.tidy.put hk d, fun u => ?_, ?_⟩
  · by_cases e : u = t
    · subst e
      rw [has_put_same h.tidy.isMap hk]; simp
    · rw [has_put_other (fun e' => e (by simpa using e')), h.has u, decide_eq_decide]; simp [e]
  · rw [size_put h.tidy, h.has t, decide_eq_false ht]
    simp [h.size]
end Go.Proofs.Ytpnmnffefdjegaa
