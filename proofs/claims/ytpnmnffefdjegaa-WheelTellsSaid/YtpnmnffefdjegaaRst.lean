/-
  Laws for regions that draw their order: rows loaded and stored, functions called; loads that are taken first until those that wait for them are through.
-/
import Derived.Test.YtpnmnffefdjegaaRw
import Derived.WalkKit
import Derived.OrdersHeld
import Derived.Deep.Quiet
import Derived.BigQuiet
import Derived.Lib.QuietBelow
namespace Go.Proofs.Ytpnmnffefdjegaa
open Go.RowKit Go.Sort
set_option linter.unusedVariables false

/-- A function of the program's own text. -/
noncomputable def plainFn (F : FuncId) : Bool := match Try.prog.funcs[F]? with
  | some fn => !(fn.name == "runtime.NumGoroutine") && !fn.body.isNone
  | none => false
theorem plain_fn {F : FuncId} (h : plainFn F = true) : ∃ fn, Try.prog.funcs[F]? = some fn ∧ (fn.name == "runtime.NumGoroutine") = false ∧ fn.body.isNone = false := by
  unfold plainFn at h
  cases hf : Try.prog.funcs[F]? with
  | none => rw [hf] at h; cases h
  | some fn => rw [hf] at h; simp at h; exact ⟨fn, rfl, by simpa using h.1, by simpa using h.2⟩

theorem call_plain {F : FuncId} (h : plainFn F = true) (args : Array Value) (w : World) : (callFunc F args).run Try.prog w = .ok (.enter F args) w := by
  obtain ⟨fn, h1, h2, h3⟩ := plain_fn h
  unfold callFunc
  rw [Sem.run_bind]
  have hp : (Go.program).run Try.prog w = .ok Try.prog w := rfl
  rw [hp]
  have n1 : ¬ fn.name = "runtime.NumGoroutine" := fun e => by rw [e] at h2; simp at h2
  have n2 : ¬ fn.body = none := fun e => by rw [e] at h3; simp at h3
  simp [h1, n1, n2]

section
variable {ops : Array Oper} {rest : List Oper} {o : Oper} {a : Act} {C : World → Prop} {Q : Act → Prop} {T : TypeId} {n : Nat}

theorem quiet_loadR (hT : RowT Try.prog T n) (hgd : o.guard = none) (x : Operand) (ho : o.op = .load T x) (g : Nat) (hx : a.eval x = .pointer (some ⟨g, 0, none⟩)) {t : TypeId} {cs : Array Value} {fr : Nat × Nat}
    (hg : ∀ w, C w → w.heap[g]? = some (.cells cs t fr)) (hn : cs.size = n) (h : wpQuiet Try.prog ops C Q rest (a.put o.dst (.agg cs))) : wpQuiet Try.prog ops C Q (o :: rest) a := by
  obtain ⟨d, hu, hd⟩ := hT.und
  refine wpQuiet_step fun K hK => ?_
  rw [if_pos (by simp [Region.wanted, hgd])]
  refine ⟨.agg cs, fun w hw => ?_, hK _ h⟩
  have e := run_loadVar_row (P := Try.prog) w g t T cs fr d (hg w hw) hu (by cases d <;> simp_all) (by rw [hT.size, hn])
  unfold Oper.quietAt execOp
  simp only [ho, hx, Instr.loadAt, Instr.sureAddr, Sem.run_bind, Sem.run_pure, Result.andThen_ok, e]
  exact ⟨rfl, rfl⟩

theorem quiet_callF (F : FuncId) (hpl : plainFn F = true) (hgd : o.guard = none) (x : Operand) (xs : Array Operand) (ts : Array TypeId) (ho : o.op = Op.call { callee := .value x, args := xs, argTypes := ts }) (hx : a.eval x = .func (.func F) #[] #[])
    (args : Array Value) (ha : xs.map a.eval = args) (v : Value) (hc : ∀ w, C w → Calls Try.prog F args w fun e w'' => e = .returned v ∧ C w'') (h : wpQuiet Try.prog ops C Q rest (a.put o.dst v)) : wpQuiet Try.prog ops C Q (o :: rest) a := by
  refine wpQuiet_step fun K hK => ?_
  rw [if_pos (by simp [Region.wanted, hgd])]
  refine ⟨v, fun w hw => ?_, hK _ h⟩
  unfold Oper.quietAt
  have e : (execOp a.eval o).run Try.prog w = .ok (.enter F args) w := by
    subst ha
    have := call_plain hpl (xs.map a.eval) w
    simp [execOp, ho, resolve, Deferred.ofValue, hx, invoke, this]
  rw [e]
  exact ⟨rfl, hc w hw⟩

theorem quiet_assign (hgd : o.guard = none) (x : Operand) (ho : o.op = .assign x) (v : Value) (hx : a.eval x = v) (h : wpQuiet Try.prog ops C Q rest (a.put o.dst v)) : wpQuiet Try.prog ops C Q (o :: rest) a := by
  refine wpQuiet_step fun K hK => ?_
  rw [if_pos (by simp [Region.wanted, hgd])]
  refine ⟨v, fun w hw => ?_, hK _ h⟩
  unfold Oper.quietAt execOp
  simp [ho, hx, Oper.quietUpon, Sem.run_pure]
end

section
variable {ops : Array Oper} {o : Oper} {a : Act} {w : World} {K : Act → World → Prop} {Q : Exit → Act → World → Prop} {T : TypeId} {n : Nat}

/-- A function called, in a region that draws its order. -/
theorem draw_callF (F : FuncId) (hpl : plainFn F = true) (hw : Region.wanted o (yielded ops a.tmps) = true) (x : Operand) (xs : Array Operand) (ts : Array TypeId) (ho : o.op = Op.call { callee := .value x, args := xs, argTypes := ts }) (hx : a.eval x = .func (.func F) #[] #[])
    (args : Array Value) (ha : xs.map a.eval = args) (R : Ending → World → Prop) (hc : Calls Try.prog F args w R) (h : ∀ e w', R e w' → ∃ v, e = .returned v ∧ K (a.put o.dst v) w') :
    if Region.wanted o (yielded ops a.tmps) = true then Oper.wp Try.prog o a w K Q else K (a.put o.dst undef) w := by
  rw [if_pos hw]
  unfold Oper.wp
  have e : (execOp a.eval o).run Try.prog w = .ok (.enter F args) w := by
    subst ha
    have := call_plain hpl (xs.map a.eval) w
    simp [execOp, ho, resolve, Deferred.ofValue, hx, invoke, this]
  rw [e]
  refine hc.mono fun e w' hR => ?_
  obtain ⟨v, rfl, hk⟩ := h e w' hR
  exact hk

theorem draw_loadW (hT : RowT Try.prog T n) (hw : Region.wanted o (yielded ops a.tmps) = true) (x : Operand) (ho : o.op = .load T x)
    (g : Nat) (hx : a.eval x = .pointer (some ⟨g, 0, none⟩)) {t : TypeId} {cs : Array Value} {fr : Nat × Nat} (hg : w.heap[g]? = some (.cells cs t fr)) (hn : cs.size = n)
    (h : K (a.put o.dst (.agg cs)) w) : if Region.wanted o (yielded ops a.tmps) = true then Oper.wp Try.prog o a w K Q else K (a.put o.dst undef) w := by
  obtain ⟨d, hu, hd⟩ := hT.und
  rw [if_pos hw]
  exact wp_load_row T x ho g hx t cs fr d hg hu (by cases d <;> simp_all) (by rw [hT.size, hn]) h
end

section
variable {P : Program} {md : Region.Mode} {ops : Array Oper} {Q : Exit → Act → World → Prop} {S : World → Prop} {X : List Nat}

/-- Those of X are all through. -/
def Thru (X : List Nat) (l : Array Bool) : Prop := ∀ k ∈ X, l.getD k true = true

/-- Whatever order is picked: `S` holds behind each operation, until those of X are all through. -/
def Rest (P : Program) (md : Region.Mode) (ops : Array Oper) (Q : Exit → Act → World → Prop) (S : World → Prop) (X : List Nat) : Nat → Array Bool → Act → World → Prop
  | 0, l, a, w => Region.ready md ops l = [] ∧ Q .normal a w
  | m + 1, l, a, w => (Region.ready md ops l = [] → Q .normal a w) ∧
      ∀ i ∈ Region.ready md ops l, wpOp P ops Q i (fun a' w' => (S w' ∨ Thru X (l.setIfInBounds i true)) ∧ Rest P md ops Q S X m (l.setIfInBounds i true) a' w') a w

theorem Rest.any : ∀ (m : Nat) (l : Array Bool) (a : Act) (w : World), Rest P md ops Q S X m l a w → wpAny P md ops Q m l a w
  | 0, _, _, _, h => h
  | m + 1, _, _, _, h => ⟨h.1, fun i hi => wpOp_mono (fun a' w' h' => Rest.any m _ a' w' h'.2) (h.2 i hi)⟩

theorem thru_set {l : Array Bool} (h : Thru X l) (i : Nat) : Thru X (l.setIfInBounds i true) := fun k hk => by
  have := h k hk
  by_cases e : i = k
  · subst e
    simp only [Array.getD_eq_getD_getElem?, Array.getElem?_setIfInBounds_self] at *
    split <;> simp_all
  · rw [getD_set_ne true e]; exact this

theorem thru_of {l : Array Bool} (h : (X.all fun k => l.getD k true) = true) : Thru X l := fun k hk => List.all_eq_true.1 h k hk

/-- Once they are through it is the plain word. -/
theorem Rest.of_any : ∀ (m : Nat) (l : Array Bool) (a : Act) (w : World), Thru X l → wpAny P md ops Q m l a w → Rest P md ops Q S X m l a w
  | 0, _, _, _, _, h => h
  | m + 1, _, _, _, ht, h => ⟨h.1, fun i hi => wpOp_mono (fun a' w' h' => ⟨.inr (thru_set ht i), Rest.of_any m _ a' w' (thru_set ht i) h'⟩) (h.2 i hi)⟩

/-- One of X, not through yet, waits for i. -/
def waitsB (md : Region.Mode) (ops : Array Oper) (l : Array Bool) (X : List Nat) (i : Nat) : Bool :=
  X.any fun k => k != i && !l.getD k true && (match ops[k]? with | some o => o.after.any (fun e => Region.binds md e && e.on == i) | none => false)

theorem waitsB_spec {l : Array Bool} {i : Nat} (h : waitsB md ops l X i = true) : ∃ k o, k ∈ X ∧ k ≠ i ∧ l.getD k true = false ∧ ops[k]? = some o ∧ ∃ e ∈ o.after, Region.binds md e = true ∧ e.on = i := by
  obtain ⟨k, hk, h1⟩ := List.any_eq_true.1 h
  simp only [Bool.and_eq_true, bne_iff_ne, ne_eq, Bool.not_eq_true'] at h1
  obtain ⟨⟨h2, h3⟩, h4⟩ := h1
  cases ho : ops[k]? with
  | none => rw [ho] at h4; cases h4
  | some o =>
    rw [ho] at h4
    obtain ⟨e, he, hb⟩ := Array.any_eq_true'.1 h4
    simp only [Bool.and_eq_true, beq_iff_eq] at hb
    exact ⟨k, o, hk, h2, h3, ho, e, he, hb.1, hb.2⟩

theorem not_ready {l : Array Bool} {i : Nat} {oj : Oper} (hi : i ∈ Region.ready md ops l) (hall : ∀ e ∈ oj.after, Region.binds md e = true → l.getD e.on false = true) : ∀ e ∈ oj.after, Region.binds md e = true → e.on ≠ i := fun e he hb heq => by
  have h1 := hall e he hb
  have h0 := (mem_ready.1 hi).1
  rw [heq] at h1
  rcases Nat.lt_or_ge i l.size with h' | h'
  · simp [h'] at h0 h1; rw [h0] at h1; cases h1
  · simp [Array.getElem?_eq_none h'] at h1

/-- What yields its value in every world that meets S, and is waited for, may be taken first; and so may what is none of X and yields in every world. -/
theorem Rest.first {i : Nat} {oi : Oper} {v : Value} (hi : ops[i]? = some oi) (hsel : ∀ (j : Nat) (o : Oper) cs b, ops[j]? = some o → o.op ≠ .select cs b)
    (hQ : ∀ c a w, Q (.panic c) (a.put oi.dst v) w → Q (.panic c) a w) (pure : Bool) (hX : pure = true → i ∉ X) :
    ∀ (m : Nat) (l : Array Bool) (a : Act) (w : World),
      (∀ j oj, ops[j]? = some oj → j ≠ i → l.getD j true = false → (∀ e ∈ oj.after, Region.binds md e = true → e.on ≠ i) → oi.apart ops oj = true) →
      (pure = false → ∃ k o, k ∈ X ∧ k ≠ i ∧ l.getD k true = false ∧ ops[k]? = some o ∧ ∃ e ∈ o.after, Region.binds md e = true ∧ e.on = i) →
      i ∈ Region.ready md ops l → YieldsIf P ops (fun w => pure = true ∨ S w) oi v a → (pure = true ∨ S w) → (S w ∨ Thru X l) →
      Rest P md ops Q S X m (l.setIfInBounds i true) (a.put oi.dst v) w → Rest P md ops Q S X (m + 1) l a w := by
  intro m
  induction m with
  | zero =>
    intro l a w _ _ hr hy hS hT H
    refine ⟨fun h => (by rw [h] at hr; cases hr), fun j hj => ?_⟩
    by_cases hji : j = i
    · subst hji; exact hy.wpOp hi hS ⟨hT.imp id fun h => thru_set h j, H⟩
    · have := ready_mono hj hji
      rw [H.1] at this
      cases this
  | succ m ih =>
    intro l a w hfree hwait hr hy hS hT H
    refine ⟨fun h => (by rw [h] at hr; cases hr), fun j hj => ?_⟩
    by_cases hji : j = i
    · subst hji; exact hy.wpOp hi hS ⟨hT.imp id fun h => thru_set h j, H⟩
    · have h1 := H.2 j (ready_mono hj hji)
      obtain ⟨hjun, oj, hoj, hall⟩ := mem_ready.1 hj
      have hnot := not_ready hr hall
      have h2 := wpOp_putIf hoj (hfree j oj hoj hji hjun hnot) (fun cs b => hsel i oi cs b hi) (fun cs b => hsel j oj cs b hoj) hQ hy h1
      have hfree' : ∀ k ok, ops[k]? = some ok → k ≠ i → (l.setIfInBounds j true).getD k true = false →
          (∀ e ∈ ok.after, Region.binds md e = true → e.on ≠ i) → oi.apart ops ok = true := fun k ok hk hki hun hno => by
        refine hfree k ok hk hki ?_ hno
        by_cases hjk : j = k
        · subst hjk; exact hjun
        · rw [getD_set_ne true hjk] at hun; exact hun
      have hwait' : pure = false → ∃ k o, k ∈ X ∧ k ≠ i ∧ (l.setIfInBounds j true).getD k true = false ∧ ops[k]? = some o ∧ ∃ e ∈ o.after, Region.binds md e = true ∧ e.on = i := fun hp => by
        obtain ⟨k, o, k1, k2, k3, k4, e, he, hb, ho⟩ := hwait hp
        refine ⟨k, o, k1, k2, ?_, k4, e, he, hb, ho⟩
        have : j ≠ k := fun hjk => by
          subst hjk
          rw [hoj] at k4; cases k4
          exact hnot e he hb ho
        rw [getD_set_ne true this]; exact k3
      refine wpOp_mono (fun a' w' h3 => ?_) h2
      obtain ⟨hy', hd, hR⟩ := h3
      rw [Array.setIfInBounds_comm _ _ (Ne.symm hji)] at hR
      have key : (pure = true ∨ S w') ∧ (S w' ∨ Thru X (l.setIfInBounds j true)) := by
        rcases hd with hd | hd
        · exact ⟨.inr hd, .inl hd⟩
        · cases hp : pure with
          | true =>
            refine ⟨.inl rfl, .inr fun k hk => ?_⟩
            have hki : i ≠ k := fun e => hX hp (e ▸ hk)
            have := hd k hk
            rw [Array.setIfInBounds_comm _ _ (Ne.symm hji), getD_set_ne true hki] at this
            exact this
          | false =>
            obtain ⟨k, o, k1, k2, k3, _⟩ := hwait' hp
            have := hd k k1
            rw [Array.setIfInBounds_comm _ _ (Ne.symm hji), getD_set_ne true (Ne.symm k2), k3] at this
            cases this
      exact ⟨key.2, ih (l.setIfInBounds j true) a' w' hfree' hwait' (ready_mono hr (Ne.symm hji)) hy' key.1 key.2 hR⟩

variable {i m : Nat} {o oi : Oper} {v : Value} {l : Array Bool} {a : Act} {w : World}

/-- Take a load first. -/
theorem Rest.takeS (hi : ops[i]? = some oi) (hs : Region.noSelect ops = true) (hf : Region.free md ops l i = true) (hr : (Region.ready md ops l).contains i = true) (hw : waitsB md ops l X i = true)
    (hQ : ∀ c a w, Q (.panic c) (a.put oi.dst v) w → Q (.panic c) a w) (hS : S w) (hy : YieldsIf P ops S oi v a)
    (h : Rest P md ops Q S X m (l.setIfInBounds i true) (a.put oi.dst v) w) : Rest P md ops Q S X (m + 1) l a w :=
  Rest.first hi (Region.noSelect_spec hs) hQ false (fun h => by cases h) m l a w (Region.free_spec hi hf) (fun _ => waitsB_spec hw) (by simpa using hr)
    (hy.imp (fun ⟨k, g⟩ => ⟨k, fun w hw => g w (hw.resolve_left (by simp))⟩) id) (.inr hS) (.inl hS) h

/-- Take what hangs on no world first. -/
theorem Rest.take (hi : ops[i]? = some oi) (hs : Region.noSelect ops = true) (hf : Region.free md ops l i = true) (hr : (Region.ready md ops l).contains i = true) (hX : X.contains i = false)
    (hQ : ∀ c a w, Q (.panic c) (a.put oi.dst v) w → Q (.panic c) a w) (hS : S w ∨ Thru X l) (hy : Yields P ops oi v a)
    (h : Rest P md ops Q S X m (l.setIfInBounds i true) (a.put oi.dst v) w) : Rest P md ops Q S X (m + 1) l a w :=
  Rest.first hi (Region.noSelect_spec hs) hQ true (fun _ => by simpa using hX) m l a w (Region.free_spec hi hf) (fun h => by cases h) (by simpa using hr)
    hy.yieldsIf (.inl rfl) hS h

/-- The one that may come up now comes up. -/
theorem Rest.one (hr : Region.ready md ops l = [i]) (ho : ops[i]? = some o)
    (h : ∀ K' : Act → World → Prop, (∀ a w, (S w ∨ Thru X (l.setIfInBounds i true)) ∧ Rest P md ops Q S X m (l.setIfInBounds i true) a w → K' a w) → if Region.wanted o (yielded ops a.tmps) = true then Oper.wp P o a w K' Q else K' (a.put o.dst undef) w) :
    Rest P md ops Q S X (m + 1) l a w :=
  ⟨fun h0 => (by rw [hr] at h0; cases h0), fun j hj => by
    rw [hr] at hj
    have hji : j = i := by simpa using hj
    subst hji
    exact wpOp_step ho h⟩

theorem Rest.begin {id : Nat} (hm : P.follows .mixedOrders = true) (h : Rest P .any ops Q S X ops.size (Array.replicate ops.size false) a w.drew) : (Code.region id ops true).wp P Q a w :=
  wp_region_any hm (Rest.any _ _ _ _ h)

/-- A row that stands in every world that meets S. -/
theorem yields_loadR {T : TypeId} {n : Nat} (hT : RowT P T n) (hw : Region.wanted o (yielded ops a.tmps) = true) (x : Operand) (ho : o.op = .load T x) (g : Nat) (hx : a.eval x = .pointer (some ⟨g, 0, none⟩)) (cs : Array Value) (hn : cs.size = n)
    (hS : ∀ w, S w → ∃ t fr, w.heap[g]? = some (.cells cs t fr)) : YieldsIf P ops S o (.agg cs) a := by
  obtain ⟨d, hu, hd⟩ := hT.und
  refine .inl ⟨hw, fun w h => ?_⟩
  obtain ⟨t, fr, hg⟩ := hS w h
  have e := run_loadVar_row (P := P) w g t T cs fr d hg hu (by cases d <;> simp_all) (by rw [hT.size, hn])
  unfold execOp
  simp only [ho, hx, Instr.loadAt, Instr.sureAddr, Sem.run_bind, Sem.run_pure, Result.andThen_ok, e]
end
end Go.Proofs.Ytpnmnffefdjegaa
