/-
  Steps of regions that draw their order, where two may come up; rows appended to a fresh one: for every seat.
-/
import Derived.Test.YtpnmnffefdjegaaRst
import Derived.Test.YtpnmnffefdjegaaCh
import Derived.ArgAppend
namespace Go.Proofs.Ytpnmnffefdjegaa
open Go.RowKit Go.Sort
set_option linter.unusedVariables false
set_option linter.unusedSimpArgs false

section
variable {P : Program} {md : Region.Mode} {ops : Array Oper} {Q : Exit → Act → World → Prop} {S : World → Prop} {X : List Nat} {i j m : Nat} {oi oj : Oper} {l : Array Bool} {a : Act} {w : World}
/-- Two may come up now: both are walked. -/
theorem Rest.two (hr : Region.ready md ops l = [i, j]) (hi : ops[i]? = some oi) (hj : ops[j]? = some oj)
    (h1 : ∀ K' : Act → World → Prop, (∀ a w, (S w ∨ Thru X (l.setIfInBounds i true)) ∧ Rest P md ops Q S X m (l.setIfInBounds i true) a w → K' a w) → if Region.wanted oi (yielded ops a.tmps) = true then Oper.wp P oi a w K' Q else K' (a.put oi.dst undef) w)
    (h2 : ∀ K' : Act → World → Prop, (∀ a w, (S w ∨ Thru X (l.setIfInBounds j true)) ∧ Rest P md ops Q S X m (l.setIfInBounds j true) a w → K' a w) → if Region.wanted oj (yielded ops a.tmps) = true then Oper.wp P oj a w K' Q else K' (a.put oj.dst undef) w) :
    Rest P md ops Q S X (m + 1) l a w :=
  ⟨fun h0 => (by rw [hr] at h0; cases h0), fun k hk => by
    rw [hr] at hk
    simp only [List.mem_cons, List.not_mem_nil, or_false] at hk
    rcases hk with rfl | rfl
    · exact wpOp_step hi h1
    · exact wpOp_step hj h2⟩
end

/-- 'append([]T{}, x...)': a row of the call's own; no block that was there is turned. -/
theorem wp_app0K {α : Type} {enc : α → List Value} {k : Nat} {E T : TypeId} {z : Value} {bytes : Nat} {B : Nat} {w : World} {P : Program} {m : List α} {h : Addr} {o : Oper} {ac : Act} {K : Act → World → Prop} {Q : Exit → Act → World → Prop} (hT : ElK P T E k z bytes) (hk : EnK enc k) (s x : Operand)
    (ho : o.op = .call { callee := .builtin .append, args := #[s, x], argTypes := #[T, T] }) (hs : ac.eval s = .slice (some h) 0 0) (hown : OK enc k E B w (some h) 0 0 []) {a2 : Option Addr} {n2 c2 : Nat} (hx : ac.eval x = .slice a2 n2 c2) (hr : RK enc k w a2 n2 c2 m)
    (h63 : n2 ≤ 1000000) (hby : bytes ≤ 64) (hbase : B ≤ w.heap.size)
    (hK : ∀ w' a' c', OK enc k E B w' a' n2 c' m → Below w.heap.size w w' → K (ac.put o.dst (.slice a' n2 c')) w') : o.wp P ac w K Q := by
  obtain ⟨i, hi, hz0, hz1, hz2⟩ := info_parts hT.info
  by_cases h0 : n2 = 0
  · subst h0
    have hm : m = [] := List.eq_nil_of_length_eq_zero hr.len
    subst hm
    have hrun : (Builtin.append_ #[T, T] o.type #[.slice (some h) 0 0, .slice a2 0 c2]).run P w = .ok (.slice (some h) 0 0) w := by
      cases a2 <;> simp [Builtin.append_, run_underlying hT.und, sizeOf, typeInfo, hi, Builtin.lenOf, Builtin.firstCells, storeCells, loadCells, loadCellsFrom]
    unfold Oper.wp
    simp [execOp, ho, resolve, invoke, builtin, hs, hx, hrun, Result.andThen]
    exact hK w _ _ hown (Below.refl _ _)
  · obtain ⟨b, off, rfl, hb, hc⟩ := hr.cell (by omega)
    obtain ⟨v', w', hrun, r1, r2⟩ := run_append_arg_grows (P := P) w T o.type E i z k bytes hT.und hi hz0 hz1 hz2 hT.zc hT.pos h 0 0 [] (by simp) (fun j u hu => by simp at hu) ⟨b, off, none⟩ n2 c2 (m.flatMap enc) (by rw [flat_len hk, hr.len]) (fun j u hu => by
      obtain ⟨i', j', y, h1, h2, rfl⟩ := flat_back hk m j u hu
      rw [Addr.add_lit]
      exact hc i' y j' u h1 h2) (by omega) (by unfold maxLen; omega) (by rw [Nat.zero_add]; have := Nat.mul_le_mul h63 hby; omega)
    obtain ⟨a', c', rfl, hol⟩ := ok_of_ownsRow (enc := enc) (l := m) r1 (by simp) (by rw [hr.len, Nat.zero_add])
    rw [Nat.zero_add] at hol hrun
    unfold Oper.wp
    simp [execOp, ho, resolve, invoke, builtin, hs, hx, hrun, Result.andThen]
    exact hK _ _ _ (hol.mono hbase) ⟨r2.os, r2.tape, r2.output, r2.size, fun k hk => r2.block k hk (by simp)⟩

/-- 'append([]T{}, x...)', elements of one cell: a row of the call's own; no block that was there is turned. -/
theorem wpList_app0 {α : Type} {f : α → Value} {E T : TypeId} {z : Value} {bytes : Nat} {B : Nat} {w : World} {P : Program} {m : List α} {h : Addr} {ops : Array Oper} {rest : List Oper} {o : Oper} {ac : Act} {Q : Exit → Act → World → Prop} (hT : ElT P T E z bytes) (hgd : o.guard = none) (s x : Operand)
    (ho : o.op = .call { callee := .builtin .append, args := #[s, x], argTypes := #[T, T] }) (hs : ac.eval s = .slice (some h) 0 0) (hown : OL f E B w (some h) 0 0 []) {a2 : Option Addr} {n2 c2 : Nat} (hx : ac.eval x = .slice a2 n2 c2) (hr : RL f w a2 n2 c2 m)
    (h63 : n2 ≤ 1000000) (hby : bytes ≤ 64) (hbase : B ≤ w.heap.size)
    (hK : ∀ w' a' c', OL f E B w' a' n2 c' m → Below w.heap.size w w' → (∃ q, a' = some q) → wpList P ops Q rest (ac.put o.dst (.slice a' n2 c')) w') : wpList P ops Q (o :: rest) ac w := by
  obtain ⟨i, hi, hz0, hz1, hz2⟩ := info_parts hT.info
  refine wpList_plain hgd fun K hK' => ?_
  by_cases h0 : n2 = 0
  · subst h0
    have hm : m = [] := List.eq_nil_of_length_eq_zero hr.len
    subst hm
    have hrun : (Builtin.append_ #[T, T] o.type #[.slice (some h) 0 0, .slice a2 0 c2]).run P w = .ok (.slice (some h) 0 0) w := by
      cases a2 <;> simp [Builtin.append_, run_underlying hT.und, sizeOf, typeInfo, hi, Builtin.lenOf, Builtin.firstCells, storeCells, loadCells, loadCellsFrom]
    unfold Oper.wp
    simp [execOp, ho, resolve, invoke, builtin, hs, hx, hrun, Result.andThen]
    exact hK' _ _ (hK w _ _ hown (Below.refl _ _) ⟨_, rfl⟩)
  · obtain ⟨b, off, rfl, hb, hc⟩ := hr.cell (by omega)
    obtain ⟨v', w', hrun, r1, r2⟩ := run_append_arg_grows (P := P) w T o.type E i z 1 bytes hT.und hi hz0 hz1 hz2 hT.zc (by decide) h 0 0 [] (by simp) (fun j u hu => by simp at hu) ⟨b, off, none⟩ n2 c2 (m.map f) (by rw [List.length_map, hr.len, Nat.mul_one]) (fun j u hu => by
      rw [List.getElem?_map] at hu
      cases hj : m[j]? with
      | none => rw [hj] at hu; cases hu
      | some y =>
        rw [hj] at hu
        simp only [Option.map_some, Option.some.injEq] at hu
        subst hu
        rw [Addr.add_lit]
        exact hc j y hj) (by omega) (by unfold maxLen; omega) (by rw [Nat.zero_add]; have := Nat.mul_le_mul h63 hby; omega)
    obtain ⟨a', c', rfl, hol⟩ := of_ownsRow (f := f) (l := m) r1 (by simp)
    rw [Nat.zero_add] at hol hrun
    unfold Oper.wp
    simp [execOp, ho, resolve, invoke, builtin, hs, hx, hrun, Result.andThen]
    refine hK' _ _ (hK _ _ _ (hol.mono hbase) ⟨r2.os, r2.tape, r2.output, r2.size, fun k hk => r2.block k hk (by simp)⟩ ?_)
    rcases hol.ex with ⟨_, hn, _⟩ | ⟨g, cur, ha, _⟩
    · omega
    · exact ⟨_, ha⟩
end Go.Proofs.Ytpnmnffefdjegaa
