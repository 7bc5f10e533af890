/-
  An append to a slice of structs turns no block but the slice's own one: for two rows that grow side by side.
-/
import Derived.Test.YtoeeaohgihipgaaBaseK
import Derived.Test.YtoeeaohgihipgaaBase2
namespace Go.Proofs.Ytoeeaohgihipgaa
open Go.RowKit
set_option linter.unusedVariables false

section
variable {α : Type} {enc : α → List Value} {k : Nat} {E T : TypeId} {z : Value} {bytes : Nat} {B : Nat} {w w' : World} {P : Program} {l m : List α} {n c : Nat} {a : Option Addr}

/-- Where an append's result lies. -/
theorem app_whereK (hT : ElK P T E k z bytes) (hk : EnK enc k) {ty : TypeId} {ad : Addr} {n2 c2 : Nat} (hown : OK enc k E B w a n c l) (h0 : 0 < n2) (hlm : m.length = n2) (hnews : ∀ j v, (m.flatMap enc)[j]? = some v → w.cell? (ad.add j) = some v)
    (h63 : n + n2 ≤ 1000000000) (hby : bytes ≤ 64) {v' : Value} {w' : World}
    (hrun : (Builtin.append_ #[T, T] ty #[.slice a n c, .slice (some ad) n2 c2]).run P w = .ok v' w') : ∃ q N C, v' = .slice (some q) N C ∧ (a = some q ∨ q.block = w.heap.size) := by
  obtain ⟨i, hi, hz0, hz1, hz2⟩ := info_parts hT.info
  have hb64 : (n + n2) * bytes ≤ 140737488355328 := by
    have := Nat.mul_le_mul h63 hby
    omega
  have hlen : (m.flatMap enc).length = n2 * i.size := by rw [hz1, flat_len hk, hlm]
  rcases hown.own.2 with ⟨h', hn0⟩ | ⟨g, cap, cur, h', hB, hg, hnc, hcm, hcs, htake⟩
  · simp only [Value.slice.injEq] at h'
    obtain ⟨rfl, rfl, rfl⟩ := h'
    rw [run_append_nil (P := P) w T ty E i z hT.und hi hz0 ad n2 c2 (m.flatMap enc) hlen hnews h0 (by omega) (by rw [hz2]; have hb := hb64; simp only [Nat.zero_add] at hb; omega)] at hrun
    injection hrun with e1 e2
    exact ⟨_, _, _, e1.symm, .inr rfl⟩
  · simp only [Value.slice.injEq, true_and] at h'
    obtain ⟨rfl, rfl⟩ := h'
    by_cases hroom : n + n2 ≤ c
    · have hle : n * k + n2 * k ≤ c * k := by rw [← Nat.add_mul]; exact Nat.mul_le_mul_right k hroom
      rw [run_append_room (P := P) w T ty E i hT.und hi g n c cur hg ad n2 c2 (m.flatMap enc) hlen hnews (flat_one hk m) hroom (by
        rw [hlen, hcs, hz1]; exact hle)] at hrun
      injection hrun with e1 e2
      exact ⟨_, _, _, e1.symm, .inl rfl⟩
    · have holds : ∀ j u, (l.flatMap enc)[j]? = some u → w.cell? ((⟨g, 0, none⟩ : Addr).add j) = some u := hown.own.cells (g := g) rfl
      rw [run_append_grow (P := P) w T ty E i z hT.und hi hz0 ⟨g, 0, none⟩ n c (l.flatMap enc) (by rw [hz1, flat_len hk, hown.len]) holds ad n2 c2 (m.flatMap enc) hlen hnews (by omega) (by omega) (growslice_fits (by omega) (by rw [hz2]; exact hb64))] at hrun
      injection hrun with e1 e2
      exact ⟨_, _, _, e1.symm, .inr rfl⟩

/-- 'append(v, x...)' of at least one element: v of the call's own; no other block is turned, and the result lies in v's or in a new one. -/
theorem wp_appgK {o : Oper} {ac : Act} {K : Act → World → Prop} {Q : Exit → Act → World → Prop} (hT : ElK P T E k z bytes) (hk : EnK enc k) (s x : Operand)
    (ho : o.op = .call { callee := .builtin .append, args := #[s, x], argTypes := #[T, T] })
    {a2 : Option Addr} {n2 c2 : Nat} (hs : ac.eval s = .slice a n c) (hown : OK enc k E B w a n c l) (hx : ac.eval x = .slice a2 n2 c2) (hr : RK enc k w a2 n2 c2 m) (h0 : 0 < n2)
    (h63 : n + n2 ≤ 1000000000) (hby : bytes ≤ 64) (hbase : B ≤ w.heap.size)
    (h : ∀ w' a' c', OK enc k E B w' a' (n + n2) c' (l ++ m) → Below B w w' → (∀ q, q < w.heap.size → NB a q → w'.heap[q]? = w.heap[q]? ∧ NB a' q) → w.heap.size ≤ w'.heap.size → K (ac.put o.dst (.slice a' (n + n2) c')) w') : o.wp P ac w K Q := by
  obtain ⟨i, hi, hz0, hz1, hz2⟩ := info_parts hT.info
  have hbl : ∀ q, (Value.slice a n c).ownBlock = some q → B ≤ q := fun q hq => (hown.own.lt q hq).1
  obtain ⟨b, off, rfl, hb, hc⟩ := hr.cell h0
  have hnews : ∀ j v, (m.flatMap enc)[j]? = some v → w.cell? ((⟨b, off, none⟩ : Addr).add j) = some v := by
    intro j u hu
    obtain ⟨i', j', y, h1, h2, rfl⟩ := flat_back hk m j u hu
    rw [Addr.add_lit]
    exact hc i' y j' u h1 h2
  obtain ⟨v', w', hrun, h2, h3, h4⟩ := run_append_own (P := P) w B T o.type E i z k bytes hT.und hi hz0 hz1 hz2 hT.zc hT.pos (.slice a n c) n (l.flatMap enc) hown.own ⟨b, off, none⟩ n2 c2 (m.flatMap enc) (by rw [flat_len hk, hr.len]) hnews
    (flat_one hk m) (by unfold maxLen; omega) (by have := Nat.mul_le_mul h63 hby; omega) hbase
  obtain ⟨q, N, C, rfl, hq⟩ := app_whereK hT hk hown h0 hr.len hnews h63 hby hrun
  obtain ⟨a', c', e', hol⟩ := ok_of_ownsRow (enc := enc) (l := l ++ m) h2 (by simp) (by rw [List.length_append, hown.len, hr.len])
  simp only [Value.slice.injEq] at e'
  obtain ⟨rfl, rfl, rfl⟩ := e'
  unfold Oper.wp execOp
  simp only [ho, resolve, invoke, builtin, Sem.run_bind, Sem.run_pure, Result.andThen_ok, List.map_toArray, List.map_cons, List.map_nil, hs, hx, hrun]
  refine h w' _ _ hol ((Below.refl B w).grown h3 hbase hbl) (fun k hk hn => ⟨h3.block k hk ?_, ?_⟩) h3.size
  · intro e
    cases a with
    | none => simp [Value.ownBlock] at e
    | some p => simp [Value.ownBlock] at e; exact hn p rfl e.symm
  · intro p hp
    cases hp
    rcases hq with rfl | hq
    · exact hn _ rfl
    · omega

theorem wpList_appgK {ops : Array Oper} {rest : List Oper} {o : Oper} {ac : Act} {Q : Exit → Act → World → Prop} (hT : ElK P T E k z bytes) (hk : EnK enc k) (hgd : o.guard = none) (s x : Operand)
    (ho : o.op = .call { callee := .builtin .append, args := #[s, x], argTypes := #[T, T] })
    {a2 : Option Addr} {n2 c2 : Nat} (hs : ac.eval s = .slice a n c) (hown : OK enc k E B w a n c l) (hx : ac.eval x = .slice a2 n2 c2) (hr : RK enc k w a2 n2 c2 m) (h0 : 0 < n2)
    (h63 : n + n2 ≤ 1000000000) (hby : bytes ≤ 64) (hbase : B ≤ w.heap.size)
    (h : ∀ w' a' c', OK enc k E B w' a' (n + n2) c' (l ++ m) → Below B w w' → (∀ q, q < w.heap.size → NB a q → w'.heap[q]? = w.heap[q]? ∧ NB a' q) → w.heap.size ≤ w'.heap.size → wpList P ops Q rest (ac.put o.dst (.slice a' (n + n2) c')) w') : wpList P ops Q (o :: rest) ac w :=
  wpList_plain hgd fun _ hK => wp_appgK hT hk s x ho hs hown hx hr h0 h63 hby hbase fun w' a' c' h2 h3 h4 h5 => hK _ _ (h w' a' c' h2 h3 h4 h5)

/-- Two rows of the call's own that grow side by side. -/
structure Two (enc : α → List Value) (k : Nat) (E : TypeId) (w0 w : World) (a1 : Option Addr) (n1 c1 : Nat) (l1 : List α) (a2 : Option Addr) (n2 c2 : Nat) (l2 : List α) : Prop where
  r1 : OK enc k E w0.heap.size w a1 n1 c1 l1
  r2 : OK enc k E w0.heap.size w a2 n2 c2 l2
  dis : ∀ p q, a1 = some p → a2 = some q → p.block ≠ q.block
  bel : Below w0.heap.size w0 w

variable {w0 w2 : World} {a1 a2 a' : Option Addr} {n1 n2 c1 c2 n' c' : Nat} {l1 l2 l' : List α}

theorem Two.start (enc : α → List Value) (k : Nat) (E : TypeId) (w0 : World) : Two enc k E w0 w0 none 0 0 [] none 0 0 [] := ⟨OK.nil _ _ _ _ _, OK.nil _ _ _ _ _, (fun p q hp hq => by cases hp), Below.refl _ _⟩
theorem Two.alloc (h : Two enc k E w0 w a1 n1 c1 l1 a2 n2 c2 l2) (o : Obj) : Two enc k E w0 (w.alloc o) a1 n1 c1 l1 a2 n2 c2 l2 := ⟨h.r1.alloc o, h.r2.alloc o, h.dis, h.bel.alloc h.bel.size o⟩
theorem Two.call (h : Two enc k E w0 w a1 n1 c1 l1 a2 n2 c2 l2) (g : Below w.heap.size w w2) : Two enc k E w0 w2 a1 n1 c1 l1 a2 n2 c2 l2 := ⟨h.r1.below g, h.r2.below g, h.dis, bstep h.bel g⟩
theorem Two.swap (h : Two enc k E w0 w a1 n1 c1 l1 a2 n2 c2 l2) : Two enc k E w0 w a2 n2 c2 l2 a1 n1 c1 l1 := ⟨h.r2, h.r1, fun p q hp hq e => h.dis q p hq hp e.symm, h.bel⟩
theorem Two.sz (h : Two enc k E w0 w a1 n1 c1 l1 a2 n2 c2 l2) : w0.heap.size ≤ w.heap.size := h.bel.size
theorem Two.app (h : Two enc k E w0 w a1 n1 c1 l1 a2 n2 c2 l2) (ho : OK enc k E w0.heap.size w2 a' n' c' l') (g : Below w0.heap.size w w2) (hk : ∀ q, q < w.heap.size → NB a1 q → w2.heap[q]? = w.heap[q]? ∧ NB a' q) : Two enc k E w0 w2 a' n' c' l' a2 n2 c2 l2 := by
  have hnb : ∀ q, a2 = some q → NB a1 q.block := fun q hq p hp e => h.dis p q hp hq e
  refine ⟨ho, h.r2.kept fun b hb => ?_, fun p q hp hq => ?_, h.bel.trans g⟩
  · have hl := h.r2.ltB hb
    exact (hk b hl.1 (hnb _ hb)).1
  · have hl := h.r2.ltB hq
    exact (hk q.block hl.1 (hnb _ hq)).2 p hp
/-- A block that is newer than a row lies apart from it. -/
theorem Two.nb (h : Two enc k E w0 w a1 n1 c1 l1 a2 n2 c2 l2) {q : Nat} (hq : w.heap.size ≤ q) : NB a1 q := fun p hp e => by
  have := (h.r1.ltB hp).1
  omega
end
end Go.Proofs.Ytoeeaohgihipgaa
