/-
  A slice that is cut at its begin and appended to at its end, in memory of the call's own (elements of one cell): a queue.
-/
import Derived.Test.YtkojljmhgeehoaaCh
import Derived.Test.YtkojljmhgeehoaaRw
import Derived.ArgAppend
namespace Go.Proofs.Ytkojljmhgeehoaa
open Go.RowKit
set_option linter.unusedVariables false

/-- '.slice a n c' reads as l; it lies somewhere in a block of the call's own, from block B on, and so does what is behind it up to its capacity. -/
structure QL {α : Type} (f : α → Value) (E : TypeId) (B : Nat) (w : World) (a : Option Addr) (n c : Nat) (l : List α) : Prop where
  len : l.length = n
  cap : n ≤ c
  ad : 0 < c → ∃ b off cur, a = some ⟨b, off, none⟩ ∧ B ≤ b ∧ w.heap[b]? = some (.cells cur E (0, 0)) ∧ off + c ≤ cur.size ∧ ∀ (i : Nat) (x : α), l[i]? = some x → cur[off + i]? = some (f x)

section
variable {α : Type} {f : α → Value} {E T : TypeId} {z : Value} {bytes : Nat} {B : Nat} {w w' : World} {P : Program} {l : List α} {n c : Nat} {a : Option Addr} {S : Nat → Prop}

theorem QL.nil (f : α → Value) (E : TypeId) (B : Nat) (w : World) : QL f E B w none 0 0 [] := ⟨rfl, Nat.le_refl _, fun h => absurd h (by omega)⟩
theorem QL.ch (h : QL f E B w a n c l) (k : Ch S w w') (hn : 0 < c → ∀ q, a = some q → ¬ S q.block) : QL f E B w' a n c l :=
  ⟨h.len, h.cap, fun h0 => by
    obtain ⟨b, off, cur, ha, hB, hh, hs, hc⟩ := h.ad h0
    exact ⟨b, off, cur, ha, hB, k.bx hh (hn h0 _ ha), hs, hc⟩⟩
theorem QL.below (h : QL f E B w a n c l) (k : Below w.heap.size w w') : QL f E B w' a n c l := h.ch (S := fun _ => False) (Ch.of_below k) (fun _ _ _ e => e)
theorem QL.alloc (h : QL f E B w a n c l) (o : Obj) : QL f E B (w.alloc o) a n c l := h.below (bnew0 w o)
theorem QL.lt (h : QL f E B w a n c l) (h0 : 0 < c) {q : Addr} (hq : a = some q) : q.block < w.heap.size ∧ B ≤ q.block := by
  obtain ⟨b, off, cur, ha, hB, hh, _⟩ := h.ad h0
  rw [ha] at hq; cases hq; exact ⟨bx_lt hh, hB⟩
theorem QL.rl (h : QL f E B w a n c l) : RL f w a n c l :=
  ⟨h.len, h.cap, fun h0 => by
    obtain ⟨b, off, cur, ha, hB, hh, hs, hc⟩ := h.ad (Nat.lt_of_lt_of_le h0 h.cap)
    exact ⟨b, off, ha, bx_lt hh, fun i x hx => by rw [cell_of_row w b _ _ _ _ hh]; exact hc i x hx⟩⟩

/-- A cut at the begin. -/
theorem QL.cut (h : QL f E B w a n c l) (h1 : 1 ≤ n) : ∃ a', Go.sliced a 1 n c 1 = .slice a' (n - 1) (c - 1) ∧ QL f E B w a' (n - 1) (c - 1) (l.drop 1) ∧ (0 < c - 1 → ∀ q, a' = some q → ∃ q0, a = some q0 ∧ q0.block = q.block) := by
  have hc := h.cap
  obtain ⟨b, off, cur, ha, hB, hh, hs, hcl⟩ := h.ad (by omega)
  refine ⟨_, rfl, ⟨by rw [List.length_drop, h.len], by omega, fun h0 => ?_⟩, fun h0 q hq => ?_⟩
  · rw [if_neg (by omega), ha]
    refine ⟨b, off + 1, cur, by simp [Addr.add_lit], hB, hh, by omega, fun i x hx => ?_⟩
    rw [List.getElem?_drop] at hx
    have := hcl (1 + i) x hx
    rw [← this]; congr 1; omega
  · rw [if_neg (by omega), ha] at hq
    refine ⟨_, ha, ?_⟩
    simp [Addr.add_lit] at hq
    rw [← hq]

theorem OL.ql (h : OL f E B w a n c l) : QL f E B w a n c l :=
  ⟨h.len, h.cap, fun h0 => by
    rcases h.ex with ⟨_, _, hc, _⟩ | ⟨g, cur, ha, hB, hh, hs⟩
    · omega
    · refine ⟨g, 0, cur, ha, hB, hh, by omega, fun i x hx => ?_⟩
      have hi : i < n := by rw [← h.len]; exact (List.getElem?_eq_some_iff.1 hx).1
      obtain ⟨b, off, e, _, hc⟩ := h.rl.cell (by omega)
      rw [ha] at e
      cases e
      have := hc i x hx
      rwa [cell_of_row w g _ _ _ _ hh] at this⟩

/-- 'v[lo:]', what comes of it given. -/
theorem wpList_cutFromE {ops : Array Oper} {rest : List Oper} {o : Oper} {ac : Act} {Q : Exit → Act → World → Prop} {a' : Option Addr} {M C : Nat} (hT : ElT P T E z bytes) (hgd : o.guard = none) (s lo : Operand) (ho : o.op = .slice T s (some lo) none none) (kl : IntKind) (L : Int) (l0 : Nat)
    (hs : ac.eval s = .slice a n c) (hl : ac.eval lo = .int kl L) (hL : L = (l0 : Int)) (h2 : l0 ≤ n)
    (he : Go.sliced a l0 n c 1 = .slice a' M C) (h : wpList P ops Q rest (ac.put o.dst (.slice a' M C)) w) : wpList P ops Q (o :: rest) ac w := by
  subst hL
  refine wpList_plain hgd fun K hK => ?_
  have hu : P.underlying T = some (.slice (P.elem T)) := by rw [hT.und, hT.el]
  have hrun := run_slice_l (P := P) w T a n c hu kl l0 (by omega) (by omega)
  unfold Oper.wp
  simp only [Int.toNat_natCast, run_sizeOf_el hT, Result.andThen] at hrun
  simp [execOp, ho, hs, hl, run_sliceAt_slice w T _ _ _ _ hu, hrun, he, Result.andThen]
  exact hK _ _ h

/-- One more at the end. -/
theorem wpList_appQ {ops : Array Oper} {rest : List Oper} {o : Oper} {ac : Act} {Q : Exit → Act → World → Prop} (hT : ElT P T E z bytes) (hgd : o.guard = none) (s x : Operand)
    (ho : o.op = .call { callee := .builtin .append, args := #[s, x], argTypes := #[T, T] })
    {a2 : Option Addr} {c2 : Nat} {y : α} (hs : ac.eval s = .slice a n c) (hq : QL f E B w a n c l) (hx : ac.eval x = .slice a2 1 c2) (hr : RL f w a2 1 c2 [y])
    (h1 : ∀ u, (f u).oneCell' = true) (h63 : n + 1 ≤ 1000000) (hby : bytes ≤ 64) (hbase : B ≤ w.heap.size)
    (h : ∀ w' a' c', QL f E B w' a' (n + 1) c' (l ++ [y]) → Ch (fun k => 0 < c ∧ ∃ q, a = some q ∧ q.block = k) w w' → (∀ q, a' = some q → (0 < c ∧ ∃ q0, a = some q0 ∧ q0.block = q.block) ∨ w.heap.size ≤ q.block) → wpList P ops Q rest (ac.put o.dst (.slice a' (n + 1) c')) w') :
    wpList P ops Q (o :: rest) ac w := by
  obtain ⟨i, hi, hz0, hz1, hz2⟩ := info_parts hT.info
  obtain ⟨b2', off2, rfl, hb2, hc2⟩ := hr.cell (by omega)
  have hnews : ∀ j u, [f y][j]? = some u → w.cell? ((⟨b2', off2, none⟩ : Addr).add j) = some u := fun j u hu => by
    have hj : j = 0 := by have := (List.getElem?_eq_some_iff.1 hu).1; simp at this; omega
    subst hj
    simp at hu
    subst hu
    rw [Addr.add_lit]
    exact hc2 0 y rfl
  have hlo : (l.map f).length = n * 1 := by rw [List.length_map, hq.len, Nat.mul_one]
  have hgrow : ∀ v' w', w'.ownsRow w.heap.size E 1 v' (n + 1) (l.map f ++ [f y]) → w.grownBy w' none → wpList P ops Q rest (ac.put o.dst v') w' := fun v' w' hown hg => by
    obtain ⟨a', c', rfl, hol⟩ := of_ownsRow (f := f) (l := l ++ [y]) hown (by simp)
    have hq' := hol.ql
    refine h w' a' c' ⟨hq'.len, hq'.cap, fun h0 => ?_⟩ ⟨hg.os, hg.tape, hg.output, hg.size, fun k hk _ => hg.block k hk (by simp)⟩ (fun q hq => .inr (hol.ltB hq).2)
    obtain ⟨b, off, cur, ha, hB, rest'⟩ := hq'.ad h0
    exact ⟨b, off, cur, ha, Nat.le_trans hbase hB, rest'⟩
  have b1 : n + 1 ≤ maxLen := by unfold maxLen; omega
  have b2 : (n + 1) * bytes ≤ 140737488355328 := by have := Nat.mul_le_mul h63 hby; omega
  by_cases h0 : c = 0
  · have hn0 : n = 0 := by have := hq.cap; omega
    have hl0 : l = [] := List.eq_nil_of_length_eq_zero (by rw [hq.len, hn0])
    refine wpList_append_grows w hgd s x T ho E i z 1 bytes hT.und hi hz0 hz1 hz2 hT.zc (by decide) a n c (l.map f) hs (fun _ => ⟨hn0, h0⟩) hlo (fun b _ j u hu => by rw [hl0] at hu; simp at hu) ⟨b2', off2, none⟩ 1 c2 [f y] hx rfl hnews (fun u hu => by simp at hu; subst hu; exact h1 y) (by omega) b1 b2 hgrow
  · obtain ⟨b, off, cur, rfl, hB, hh, hs', hc⟩ := hq.ad (by omega)
    have hnc : ∀ j, j < c → (w.cell? ⟨b, off + j, none⟩).isSome = true ∧ w.frozen? ⟨b, off + j, none⟩ = false := fun j hj => by
      refine ⟨?_, frozen_of_row w b _ _ _ hh⟩
      rw [cell_of_row w b _ _ _ _ hh, Array.getElem?_eq_getElem (by omega)]; rfl
    refine wpList_append_arg w hgd s x T ho E i z 1 bytes hT.und hi hz0 hz1 hz2 hT.zc (by decide) b off n c (l.map f) hs hlo (fun j u hu => ?_) ⟨b2', off2, none⟩ 1 c2 [f y] hx rfl hnews (fun u hu => by simp at hu; subst hu; exact h1 y) (fun hr j hj => ?_) b1 b2 (fun hr => ?_) (fun _ => hgrow)
    · rw [List.getElem?_map] at hu
      cases hj : l[j]? with
      | none => rw [hj] at hu; cases hu
      | some v =>
        rw [hj] at hu
        simp only [Option.map_some, Option.some.injEq] at hu
        subst hu
        rw [cell_of_row w b _ _ _ _ hh]; exact hc j v hj
    · have hj0 : j = 0 := by simp at hj; omega
      subst hj0
      have := hnc n (by omega)
      simpa [Nat.mul_one] using this
    · have kW : Wr b w (w.setCells b (off + n * 1) [f y]) := wr_setCells b _ _ _
      refine h _ _ _ ⟨by simp [hq.len], by omega, fun _ => ⟨b, off, wrC cur (off + n * 1) [f y], rfl, hB, heap_setCells_same b E _ _ w cur hh, by rw [wrC_size]; exact hs', fun i v hv => ?_⟩⟩ ⟨kW.os, kW.tape, kW.output, kW.size, fun k hk hn => kW.block k hk (fun e => hn ⟨by omega, _, rfl, e.symm⟩)⟩ (fun q hq => .inl ⟨by omega, _, rfl, by cases hq; rfl⟩)
      show (cur.setIfInBounds (off + n * 1) (f y))[off + i]? = _
      rw [Nat.mul_one]
      by_cases hi' : i < n
      · rw [List.getElem?_append_left (by rw [hq.len]; exact hi')] at hv
        rw [Array.getElem?_setIfInBounds_ne (by omega)]
        exact hc i v hv
      · have hin : i = n := by have := (List.getElem?_eq_some_iff.1 hv).1; simp [hq.len] at this; omega
        subst hin
        rw [List.getElem?_append_right (by rw [hq.len]; exact Nat.le_refl _), hq.len, Nat.sub_self] at hv
        simp at hv
        subst hv
        rw [Array.getElem?_setIfInBounds_self_of_lt (by omega)]
end
end Go.Proofs.Ytkojljmhgeehoaa
