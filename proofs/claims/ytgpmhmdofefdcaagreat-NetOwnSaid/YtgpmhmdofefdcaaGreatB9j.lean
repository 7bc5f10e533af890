/-
  Words for net.Step: what lies there while it goes through the nodes, and that it stays when something else is written.
  Contract: a bit of a net (Step).
  Contracts: a net that crashes at a node (Crash), a net that has come to rest (Quiet); a net that lies in a box.
-/
import Derived.Test.YtgpmhmdofefdcaaGreatB9r
import Derived.Test.YtgpmhmdofefdcaaGreatB1f
import Derived.Test.YtgpmhmdofefdcaaGreatB1
namespace Go.Proofs.YtgpmhmdofefdcaaGreat
open Go.RowKit Go.Sort
set_option linter.unusedVariables false

abbrev lnZ : Array Value := #[.slice none 0 0, .bool false, .slice none 0 0, .slice none 0 0]
/-- The cells of a bit of a net. -/
abbrev lnA (da : Option Addr) (dn dc : Nat) (x : Bool) (sa : Option Addr) (sn sc : Nat) (ha : Option Addr) (hn hc : Nat) : Array Value := #[.slice da dn dc, .bool x, .slice sa sn sc, .slice ha hn hc]
theorem ln_ones (da : Option Addr) (dn dc : Nat) (x : Bool) (sa : Option Addr) (sn sc : Nat) (ha : Option Addr) (hn hc : Nat) : (lnA da dn dc x sa sn sc ha hn hc).all (·.oneCell') = true := by kernel_rfl

/-- What lies there beside the rows that grow: the boxes, what was driven, the nodes, what happened. -/
structure Mz (g0 : Nat) (wr : World) (s : Na) (n : Nat) (z : Int) (gN : Nat) (cr : List Bool) (qs : List Nd) (fb : Array Value) (ad : Option Addr) (cd : Nat) (dl : List Bool) (hs : List Hd) : Prop where
  box : wr.heap[g0]? = some (.cells (ntA s n n z) 31 (0, 0))
  fbx : wr.heap[g0 + 1]? = some (.cells fb 41 (0, 0))
  res : wr.heap[g0 + 2]? = some (.cells ntZ 31 (0, 0))
  rln : wr.heap[g0 + 3]? = some (.cells lnZ 36 (0, 0))
  dro : OL .bool 4 (g0 + 4) wr ad n cd dl
  sna : s.na = some ⟨gN, 0, none⟩
  nod : OK enC 26 54 (g0 + 4) wr (some ⟨gN, 0, none⟩) n s.nc qs
  cra : OL .bool 4 (g0 + 4) wr s.ca n s.cc cr
  sl : ∀ p ∈ qs, CtO (g0 + 4) wr p.1 p.2
  hsl : ∀ h ∈ hs, OL bv 5 (g0 + 4) wr h.2.1 h.1.2.data.length h.2.2 h.1.2.data
/-- A block in which nothing of that lies. -/
structure MzN (g0 gN : Nat) (s : Na) (qs : List Nd) (ad : Option Addr) (hs : List Hd) (q : Nat) : Prop where
  lo : g0 + 4 ≤ q
  gn : q ≠ gN
  ad : NB ad q
  ca : NB s.ca q
  sl : ∀ p ∈ qs, NBs p.2 q
  hs : ∀ h ∈ hs, NB h.2.1 q

section
variable {g0 gN cd n : Nat} {wr w1 : World} {s : Na} {z : Int} {cr dl : List Bool} {qs : List Nd} {fb : Array Value} {ad : Option Addr} {hs : List Hd}

theorem ol_mem {α : Type} {f : α → Value} {E : TypeId} {B : Nat} {a : Option Addr} {k c : Nat} {l : List α} (h : OL f E B wr a k c l) (hk : ∀ q, q < wr.heap.size → w1.heap[q]? = wr.heap[q]? ∨ NB a q) : OL f E B w1 a k c l :=
  h.kept fun q hq => (hk q (h.ltB hq).1).resolve_right fun e => e _ hq rfl

theorem Mz.kept (h : Mz g0 wr s n z gN cr qs fb ad cd dl hs) (hk : ∀ q, q < wr.heap.size → w1.heap[q]? = wr.heap[q]? ∨ MzN g0 gN s qs ad hs q) : Mz g0 w1 s n z gN cr qs fb ad cd dl hs := by
  have lo : ∀ q, q < wr.heap.size → q < g0 + 4 → w1.heap[q]? = wr.heap[q]? := fun q h1 h2 => (hk q h1).resolve_right fun e => by have := e.lo; omega
  refine ⟨(lo _ (bx_lt h.box) (by omega)).trans h.box, (lo _ (bx_lt h.fbx) (by omega)).trans h.fbx, (lo _ (bx_lt h.res) (by omega)).trans h.res, (lo _ (bx_lt h.rln) (by omega)).trans h.rln,
    ol_mem h.dro fun q hq => (hk q hq).imp id (·.ad), h.sna, h.nod.kept fun q hq => (hk q (h.nod.ltB hq).1).resolve_right fun e => (by cases hq; exact e.gn rfl), ol_mem h.cra fun q hq => (hk q hq).imp id (·.ca), fun p hp => ?_, fun x hx => ol_mem (h.hsl x hx) fun q hq => (hk q hq).imp id fun e => e.hs x hx⟩
  exact (h.sl p hp).kept fun q => by
    by_cases hq : q < wr.heap.size
    · exact (hk q hq).symm.imp (fun e => e.sl p hp) id
    · exact .inl ((h.sl p hp).fresh (by omega))

theorem Mz.call (h : Mz g0 wr s n z gN cr qs fb ad cd dl hs) (g : Below wr.heap.size wr w1) : Mz g0 w1 s n z gN cr qs fb ad cd dl hs := h.kept fun q hq => .inl (g.block q hq)

/-- A node written anew. -/
theorem Mz.put (h : Mz g0 wr s n z gN cr qs fb ad cd dl hs) {k : Nat} {c : Ct} {s1 : Sl} (hp : OK enC 26 54 (g0 + 4) w1 (some ⟨gN, 0, none⟩) n s.nc (qs.set k (c, s1))) (hk : ∀ q, q < wr.heap.size → q ≠ gN → w1.heap[q]? = wr.heap[q]?) (hg : g0 + 4 ≤ gN)
    (n1 : NB ad gN) (n2 : NB s.ca gN) (n3 : ∀ p ∈ qs, NBs p.2 gN) (n4 : ∀ x ∈ hs, NB x.2.1 gN) (ho : CtO (g0 + 4) w1 c s1) : Mz g0 w1 s n z gN cr (qs.set k (c, s1)) fb ad cd dl hs := by
  have key : ∀ (a : Option Addr), NB a gN → ∀ q, q < wr.heap.size → w1.heap[q]? = wr.heap[q]? ∨ NB a q := fun a ha q hq => by
    by_cases e : q = gN
    · subst e; exact .inr ha
    · exact .inl (hk q hq e)
  refine ⟨(hk _ (bx_lt h.box) (by omega)).trans h.box, (hk _ (bx_lt h.fbx) (by omega)).trans h.fbx, (hk _ (bx_lt h.res) (by omega)).trans h.res, (hk _ (bx_lt h.rln) (by omega)).trans h.rln,
    ol_mem h.dro (key _ n1), h.sna, hp, ol_mem h.cra (key _ n2), fun p hp' => ?_, fun x hx => ol_mem (h.hsl x hx) (key _ (n4 x hx))⟩
  rcases List.mem_or_eq_of_mem_set hp' with hp' | rfl
  · exact (h.sl p hp').kept fun q => by
      by_cases e : q = gN
      · subst e; exact .inl (n3 p hp')
      · by_cases hq : q < wr.heap.size
        · exact .inr (hk q hq e)
        · exact .inl ((h.sl p hp').fresh (by omega))
  · exact ho
end

/-- Behind some nodes. -/
structure Sp (w wr : World) (s : Na) (n : Nat) (z : Int) (gN gL : Nat) (cr : List Bool) (qs : List Nd) (fb : Array Value) (ad : Option Addr) (cd : Nat) (dl : List Bool) (x : Bool) (ks : Nat) (sa : Option Addr) (sc : Nat) (sm : List Bool) (kh : Nat) (ha : Option Addr) (hc : Nat) (hs : List Hd) : Prop where
  m : Mz w.heap.size wr s n z gN cr qs fb ad cd dl hs
  lin : wr.heap[gL]? = some (.cells (lnA ad n cd x sa ks sc ha kh hc) 36 (0, 0))
  sam : OL .bool 4 (gL + 1) wr sa ks sc sm
  hap : OK enH 6 63 (gL + 1) wr ha kh hc hs
  nL : MzN w.heap.size gN s qs ad hs gL
  nS : ∀ q, sa = some ⟨q, 0, none⟩ → MzN w.heap.size gN s qs ad hs q ∧ NB ha q
  nH : ∀ q, ha = some ⟨q, 0, none⟩ → MzN w.heap.size gN s qs ad hs q ∧ NB sa q
  nG : NB ad gN ∧ NB s.ca gN ∧ (∀ p ∈ qs, NBs p.2 gN) ∧ (∀ h ∈ hs, NB h.2.1 gN)
  lt : w.heap.size + 4 ≤ gN ∧ gN < gL
  bel : Below w.heap.size w wr
  nC : ∀ q, s.ca = some ⟨q, 0, none⟩ → ∀ p ∈ qs, NBs p.2 q

section
variable {w wr w1 : World} {gN gL cd n ks kh sc hc : Nat} {s : Na} {z : Int} {cr dl sm : List Bool} {qs : List Nd} {fb : Array Value} {ad sa ha : Option Addr} {hs : List Hd} {x : Bool}

theorem Sp.call (h : Sp w wr s n z gN gL cr qs fb ad cd dl x ks sa sc sm kh ha hc hs) (g : Below wr.heap.size wr w1) : Sp w w1 s n z gN gL cr qs fb ad cd dl x ks sa sc sm kh ha hc hs :=
  ⟨h.m.call g, bx_below h.lin g, h.sam.below g, h.hap.below g, h.nL, h.nS, h.nH, h.nG, h.lt, bstep h.bel g, h.nC⟩

theorem Sp.gl (h : Sp w wr s n z gN gL cr qs fb ad cd dl x ks sa sc sm kh ha hc hs) : gL < wr.heap.size := bx_lt h.lin

theorem Sp.hlen (h : Sp w wr s n z gN gL cr qs fb ad cd dl x ks sa sc sm kh ha hc hs) : hs.length = kh := h.hap.1

theorem MzN.set {g0 gN : Nat} {q k : Nat} {c : Ct} {s1 : Sl} (h : MzN g0 gN s qs ad hs q) (hn : NBs s1 q) : MzN g0 gN s (qs.set k (c, s1)) ad hs q :=
  ⟨h.lo, h.gn, h.ad, h.ca, fun p hp => (List.mem_or_eq_of_mem_set hp).elim (fun hp => h.sl p hp) (fun e => by subst e; exact hn), h.hs⟩
theorem MzN.more {g0 gN : Nat} {q : Nat} {d : Hd} (h : MzN g0 gN s qs ad hs q) (hn : NB d.2.1 q) : MzN g0 gN s qs ad (hs ++ [d]) q :=
  ⟨h.lo, h.gn, h.ad, h.ca, h.sl, fun y hy => (List.mem_append.1 hy).elim (fun hy => h.hs y hy) (fun e => by rw [List.mem_singleton] at e; subst e; exact hn)⟩

/-- A node is stepped: it is written anew. -/
theorem Sp.put (h : Sp w wr s n z gN gL cr qs fb ad cd dl x ks sa sc sm kh ha hc hs) {k : Nat} {c : Ct} {s1 : Sl} (hp : OK enC 26 54 (w.heap.size + 4) w1 (some ⟨gN, 0, none⟩) n s.nc (qs.set k (c, s1))) (hw : Wr gN wr w1)
    (ho : CtO (w.heap.size + 4) wr c s1) (hn : ∀ q, (q = gL ∨ q = gN ∨ sa = some ⟨q, 0, none⟩ ∨ ha = some ⟨q, 0, none⟩ ∨ s.ca = some ⟨q, 0, none⟩) → NBs s1 q) : Sp w w1 s n z gN gL cr (qs.set k (c, s1)) fb ad cd dl x ks sa sc sm kh ha hc hs := by
  obtain ⟨l1, l2⟩ := h.lt
  have hg := hn gN (.inr (.inl rfl))
  have ho' : CtO (w.heap.size + 4) w1 c s1 := ho.kept fun q => by
    by_cases e : q = gN
    · subst e; exact .inl hg
    · by_cases hq : q < wr.heap.size
      · exact .inr (hw.block q hq e)
      · exact .inl (ho.fresh (by omega))
  refine ⟨h.m.put hp hw.block l1 h.nG.1 h.nG.2.1 h.nG.2.2.1 h.nG.2.2.2 ho', (hw.block _ h.gl (by omega)).trans h.lin, h.sam.kept fun q hq => hw.block q (h.sam.ltB hq).1 (by have := (h.sam.ltB hq).2; simp at this; omega),
    h.hap.kept fun q hq => hw.block q (h.hap.ltB hq).1 (by have := (h.hap.ltB hq).2; simp at this; omega), h.nL.set (hn gL (.inl rfl)), fun q hq => ⟨(h.nS q hq).1.set (hn q (.inr (.inr (.inl hq)))), (h.nS q hq).2⟩, fun q hq => ⟨(h.nH q hq).1.set (hn q (.inr (.inr (.inr (.inl hq))))), (h.nH q hq).2⟩,
    ⟨h.nG.1, h.nG.2.1, fun p hp => ?_, h.nG.2.2.2⟩, ⟨l1, l2⟩, hw.below h.bel (by omega) (by have := h.gl; omega), fun q hq p hp => ?_⟩
  · rcases List.mem_or_eq_of_mem_set hp with hp | rfl
    · exact h.nG.2.2.1 p hp
    · exact hg
  · rcases List.mem_or_eq_of_mem_set hp with hp | rfl
    · exact h.nC q hq p hp
    · exact hn q (.inr (.inr (.inr (.inr hq))))

theorem Mz.fresh {g0 : Nat} (h : Mz g0 wr s n z gN cr qs fb ad cd dl hs) {q : Nat} (hq : wr.heap.size ≤ q) : MzN g0 gN s qs ad hs q :=
  ⟨by have := (h.nod.ltB rfl); simp at this; omega, by have := (h.nod.ltB rfl); simp at this; omega, fun p hp e => by have := (h.dro.ltB hp).1; omega, fun p hp e => by have := (h.cra.ltB hp).1; omega, fun p hp => (h.sl p hp).fresh hq, fun y hy p hp e => by have := ((h.hsl y hy).ltB hp).1; omega⟩

theorem nb_or {α : Type} {f : α → Value} {E : TypeId} {B : Nat} {a : Option Addr} {k c : Nat} {l : List α} (h : OL f E B wr a k c l) (q : Nat) : NB a q ∨ a = some ⟨q, 0, none⟩ := by
  rcases h.ex with ⟨rfl, _⟩ | ⟨g, cur, rfl, _⟩
  · exact .inl (NB.nil q)
  · by_cases e : g = q
    · subst e; exact .inr rfl
    · exact .inl fun p hp => by cases hp; exact e
theorem nb_orK {α : Type} {enc : α → List Value} {m : Nat} {E : TypeId} {B : Nat} {a : Option Addr} {k c : Nat} {l : List α} (h : OK enc m E B wr a k c l) (q : Nat) : NB a q ∨ a = some ⟨q, 0, none⟩ := by
  rcases h.ex with ⟨rfl, _⟩ | ⟨g, cur, rfl, _⟩
  · exact .inl (NB.nil q)
  · by_cases e : g = q
    · subst e; exact .inr rfl
    · exact .inl fun p hp => by cases hp; exact e

/-- What was sampled grows. -/
theorem Sp.samp (h : Sp w wr s n z gN gL cr qs fb ad cd dl x ks sa sc sm kh ha hc hs) {a' : Option Addr} {c' : Nat} {sm' : List Bool} (ho : OL .bool 4 (gL + 1) w1 a' (ks + 1) c' sm') (hb : Below (gL + 1) wr w1)
    (hk : ∀ q, q < wr.heap.size → NB sa q → w1.heap[q]? = wr.heap[q]? ∧ NB a' q) : Sp w (w1.setCell ⟨gL, 2, none⟩ (.slice a' (ks + 1) c')) s n z gN gL cr qs fb ad cd dl x (ks + 1) a' c' sm' kh ha hc hs := by
  obtain ⟨l1, l2⟩ := h.lt
  have l3 := h.gl
  have hz : wr.heap.size ≤ w1.heap.size := hb.size
  have hset : ∀ q, q ≠ gL → (w1.setCell ⟨gL, 2, none⟩ (.slice a' (ks + 1) c')).heap[q]? = w1.heap[q]? := fun q hq => heap_setCell_other _ _ _ _ hq
  have m1 : Mz w.heap.size w1 s n z gN cr qs fb ad cd dl hs := h.m.kept fun q hq => (nb_or h.sam q).imp (fun e => (hk q hq e).1) (fun e => (h.nS q e).1)
  have hnS : ∀ q, a' = some ⟨q, 0, none⟩ → MzN w.heap.size gN s qs ad hs q ∧ NB ha q := fun q hq => by
    by_cases hl : q < wr.heap.size
    · rcases nb_or h.sam q with e | e
      · exact absurd rfl ((hk q hl e).2 _ hq)
      · exact h.nS q e
    · exact ⟨h.m.fresh (by omega), fun p hp e => by have := (h.hap.ltB hp).1; omega⟩
  refine ⟨m1.kept fun q hq => ?_, ?_, ?_, ?_, h.nL, hnS, fun q hq => ⟨(h.nH q hq).1, (hk q (h.hap.ltB hq).1 (h.nH q hq).2).2⟩, h.nG, ⟨l1, l2⟩, (h.bel.trans (hb.mono (by omega))).setCell (show w.heap.size ≤ gL by omega) _, h.nC⟩
  · by_cases e : q = gL
    · subst e; exact .inr h.nL
    · exact .inl (hset q e)
  · have e := (hb.block gL (by omega)).trans h.lin
    exact heap_setCell_same w1 gL 2 _ _ _ e
  · exact ho.kept fun q hq => hset q (by have := (ho.ltB hq).2; simp at this; omega)
  · exact (h.hap.kept fun q hq => (hk q (h.hap.ltB hq).1 (h.nH q hq).2).1).kept fun q hq => hset q (by have := (h.hap.ltB hq).2; simp at this; omega)

/-- What happened grows. -/
theorem Sp.more (h : Sp w wr s n z gN gL cr qs fb ad cd dl x ks sa sc sm kh ha hc hs) {a' : Option Addr} {c' : Nat} {d : Hd} (ho : OK enH 6 63 (gL + 1) w1 a' (kh + 1) c' (hs ++ [d])) (hb : Below (gL + 1) wr w1)
    (hk : ∀ q, q < wr.heap.size → NB ha q → w1.heap[q]? = wr.heap[q]? ∧ NB a' q) (hd : OL bv 5 (w.heap.size + 4) wr d.2.1 d.1.2.data.length d.2.2 d.1.2.data)
    (hn : ∀ q, (q = gL ∨ q = gN ∨ sa = some ⟨q, 0, none⟩ ∨ ha = some ⟨q, 0, none⟩) → NB d.2.1 q) : Sp w (w1.setCell ⟨gL, 3, none⟩ (.slice a' (kh + 1) c')) s n z gN gL cr qs fb ad cd dl x ks sa sc sm (kh + 1) a' c' (hs ++ [d]) := by
  obtain ⟨l1, l2⟩ := h.lt
  have l3 := h.gl
  have hz : wr.heap.size ≤ w1.heap.size := hb.size
  have hset : ∀ q, q ≠ gL → (w1.setCell ⟨gL, 3, none⟩ (.slice a' (kh + 1) c')).heap[q]? = w1.heap[q]? := fun q hq => heap_setCell_other _ _ _ _ hq
  have m0 : Mz w.heap.size wr s n z gN cr qs fb ad cd dl (hs ++ [d]) := ⟨h.m.box, h.m.fbx, h.m.res, h.m.rln, h.m.dro, h.m.sna, h.m.nod, h.m.cra, h.m.sl, fun y hy => (List.mem_append.1 hy).elim (h.m.hsl y) (fun e => by rw [List.mem_singleton] at e; subst e; exact hd)⟩
  have m1 : Mz w.heap.size w1 s n z gN cr qs fb ad cd dl (hs ++ [d]) := m0.kept fun q hq => (nb_orK h.hap q).imp (fun e => (hk q hq e).1) (fun e => (h.nH q e).1.more (hn q (.inr (.inr (.inr e)))))
  have hnL := h.nL.more (hn gL (.inl rfl))
  have hnH : ∀ q, a' = some ⟨q, 0, none⟩ → MzN w.heap.size gN s qs ad (hs ++ [d]) q ∧ NB sa q := fun q hq => by
    by_cases hl : q < wr.heap.size
    · rcases nb_orK h.hap q with e | e
      · exact absurd rfl ((hk q hl e).2 _ hq)
      · exact ⟨(h.nH q e).1.more (hn q (.inr (.inr (.inr e)))), (h.nH q e).2⟩
    · exact ⟨m0.fresh (by omega), fun p hp e => by have := (h.sam.ltB hp).1; omega⟩
  refine ⟨m1.kept fun q hq => ?_, ?_, ?_, ?_, hnL, fun q hq => ⟨(h.nS q hq).1.more (hn q (.inr (.inr (.inl hq)))), (hk q (h.sam.ltB hq).1 (h.nS q hq).2).2⟩, hnH, ⟨h.nG.1, h.nG.2.1, h.nG.2.2.1, fun y hy => (List.mem_append.1 hy).elim (h.nG.2.2.2 y) (fun e => by rw [List.mem_singleton] at e; subst e; exact hn gN (.inr (.inl rfl)))⟩, ⟨l1, l2⟩, (h.bel.trans (hb.mono (by omega))).setCell (show w.heap.size ≤ gL by omega) _, h.nC⟩
  · by_cases e : q = gL
    · subst e; exact .inr hnL
    · exact .inl (hset q e)
  · have e := (hb.block gL (by omega)).trans h.lin
    exact heap_setCell_same w1 gL 3 _ _ _ e
  · exact (h.sam.kept fun q hq => (hk q (h.sam.ltB hq).1 (h.nS q hq).2).1).kept fun q hq => hset q (by have := (h.sam.ltB hq).2; simp at this; omega)
  · exact ho.kept fun q hq => hset q (by have := (ho.ltB hq).2; simp at this; omega)
/-- A box beside all that is written. -/
theorem Sp.other (h : Sp w wr s n z gN gL cr qs fb ad cd dl x ks sa sc sm kh ha hc hs) {q : Nat} (hm : MzN w.heap.size gN s qs ad hs q) (h1 : NB sa q) (h2 : NB ha q) (h3 : q ≠ gL) (cs : Array Value) (hq : q < wr.heap.size) : Sp w (wr.setRow q cs) s n z gN gL cr qs fb ad cd dl x ks sa sc sm kh ha hc hs :=
  ⟨h.m.kept fun p _ => by
      by_cases e : p = q
      · subst e; exact .inr hm
      · exact .inl (setRow_other _ _ _ _ e), (setRow_other _ _ _ _ (Ne.symm h3)).trans h.lin, h.sam.kept fun p hp => setRow_other _ _ _ _ (h1 _ hp), h.hap.kept fun p hp => setRow_other _ _ _ _ (h2 _ hp), h.nL, h.nS, h.nH, h.nG, h.lt, below_setRow h.bel (by have := hm.lo; omega) _, h.nC⟩
end
/-- Where all from B on stays. -/
theorem NtO.keptHi {B : Nat} {w w1 : World} {s : Na} {ps : List Nd} {cr : List Bool} (h : NtO B w s ps cr) (hk : ∀ q, B ≤ q → w1.heap[q]? = w.heap[q]?) : NtO B w1 s ps cr :=
  ⟨h.nod.kept fun q hq => hk q (by have := (h.nod.ltB hq).2; simpa using this), h.cra.kept fun q hq => hk q (by have := (h.cra.ltB hq).2; simpa using this),
    fun p hp => (h.sl p hp).kept fun q => by
      by_cases e : B ≤ q
      · exact .inr (hk q e)
      · exact .inl ((h.sl p hp).nbs (by omega)), h.sn, h.sc⟩
end Go.Proofs.YtgpmhmdofefdcaaGreat

namespace Go.Proofs.YtgpmhmdofefdcaaGreat
open Go.RowKit Go.Sort
set_option linter.unusedVariables false

/-- What a node samples. -/
def biN (x : Bool) (l : List Int) (j : Nat) : Bool := x != decide ((j : Int) ∈ l)
def smL (n : Nat) (x : Bool) (l : List Int) : List Bool := (List.range n).map (biN x l)
/-- What becomes of a node, and what happens at it. -/
def nxC (cr : List Bool) (x : Bool) (l : List Int) (j : Nat) (c : Ct) : Ct := if cr[j]?.getD false then c else (stC c (biN x l j)).1
def hpC (cr : List Bool) (x : Bool) (l : List Int) (j : Nat) (c : Ct) : Hp := if cr[j]?.getD false then noH else (stC c (biN x l j)).2
theorem smL_at {n : Nat} {x : Bool} {l : List Int} {k : Nat} (h : k < n) : (smL n x l)[k]? = some (biN x l k) := by
  unfold smL; rw [List.getElem?_map, List.getElem?_range h]; rfl

theorem hap_lit (d : Hp) (a : Option Addr) (k : Nat) : (Array.foldl (fun (cs : Array Value) (x : Value × Nat) => cs.setIfInBounds x.snd x.fst) #[.int .u8 0, .int .u32 0, .bool false, .bool false, .int .u8 0, .slice none 0 0] (hapA d a k).zipIdx 0 (hapA d a k).size).toList = [(d, (a, k))].flatMap enH := by
  simp [hapA, enH]

theorem results_row21 {P : Program} {T U : TypeId} {n m : Nat} (hT : RowT P T n) (hU : RowT P U m) {fn : Func} {p q r : Tmp} (h : fn.results = #[.cell p T, .cell q U, .tmp r]) (tmps : Array Value) (w : World) (g k : Nat) {t u : TypeId} {cs ds : Array Value} {fr fs : Nat × Nat} {v : Value}
    (hp : tmps.getD p undef = .pointer (some ⟨g, 0, none⟩)) (hq : tmps.getD q undef = .pointer (some ⟨k, 0, none⟩)) (hr : tmps.getD r undef = v) (hg : w.heap[g]? = some (.cells cs t fr)) (hk : w.heap[k]? = some (.cells ds u fs)) (hn : cs.size = n) (hm : ds.size = m) :
    (results fn tmps).run P w = .ok (.tuple #[.agg cs, .agg ds, v]) w := by
  obtain ⟨d, hu, hd⟩ := hT.und
  obtain ⟨d2, hu2, hd2⟩ := hU.und
  have hp' : tmps[p]?.getD undef = .pointer (some ⟨g, 0, none⟩) := by simpa using hp
  have hq' : tmps[q]?.getD undef = .pointer (some ⟨k, 0, none⟩) := by simpa using hq
  have hr' : tmps[r]?.getD undef = v := by simpa using hr
  have e1 := run_loadVar_row (P := P) w g t T cs fr d hg hu (by cases d <;> simp_all) (by rw [hT.size, hn])
  have e2 := run_loadVar_row (P := P) w k u U ds fs d2 hk hu2 (by cases d2 <;> simp_all) (by rw [hU.size, hm])
  simp [results, h, hp', hq', hr', asAddr, e1, e2]

/-- Where the lists of a bit lie. -/
structure La where
  da : Option Addr
  dc : Nat
  sa : Option Addr
  sc : Nat
  ha : Option Addr
  hc : Nat
abbrev lnV (a : La) (n : Nat) (x : Bool) : Array Value := lnA a.da n a.dc x a.sa n a.sc a.ha n a.hc
/-- A bit, read. -/
structure LnR (w : World) (a : La) (n : Nat) (dl sm : List Bool) (hs : List Hd) : Prop where
  dro : RL .bool w a.da n a.dc dl
  sam : RL .bool w a.sa n a.sc sm
  hap : RK enH 6 w a.ha n a.hc hs
  hsl : ∀ h ∈ hs, RL bv w h.2.1 h.1.2.data.length h.2.2 h.1.2.data
/-- .. in memory of its own, from B on. -/
structure LnO (B : Nat) (w : World) (a : La) (n : Nat) (dl sm : List Bool) (hs : List Hd) : Prop where
  dro : OL .bool 4 B w a.da n a.dc dl
  sam : OL .bool 4 B w a.sa n a.sc sm
  hap : OK enH 6 63 B w a.ha n a.hc hs
  hsl : ∀ h ∈ hs, OL bv 5 B w h.2.1 h.1.2.data.length h.2.2 h.1.2.data
theorem LnO.r {B : Nat} {w : World} {a : La} {n : Nat} {dl sm : List Bool} {hs : List Hd} (h : LnO B w a n dl sm hs) : LnR w a n dl sm hs := ⟨h.dro.rl, h.sam.rl, h.hap.rk enH_k, fun y hy => (h.hsl y hy).rl⟩
theorem LnO.keptHi {B : Nat} {w w1 : World} {a : La} {n : Nat} {dl sm : List Bool} {hs : List Hd} (h : LnO B w a n dl sm hs) (hk : ∀ q, B ≤ q → w1.heap[q]? = w.heap[q]?) : LnO B w1 a n dl sm hs :=
  ⟨h.dro.kept fun q hq => hk q (by have := (h.dro.ltB hq).2; simpa using this), h.sam.kept fun q hq => hk q (by have := (h.sam.ltB hq).2; simpa using this), h.hap.kept fun q hq => hk q (by have := (h.hap.ltB hq).2; simpa using this),
    fun y hy => (h.hsl y hy).kept fun q hq => hk q (by have := ((h.hsl y hy).ltB hq).2; simpa using this)⟩
theorem LnO.below {B : Nat} {w w1 : World} {a : La} {n : Nat} {dl sm : List Bool} {hs : List Hd} (h : LnO B w a n dl sm hs) (g : Below w.heap.size w w1) : LnO B w1 a n dl sm hs := ⟨h.dro.below g, h.sam.below g, h.hap.below g, fun y hy => (h.hsl y hy).below g⟩
theorem LnR.below {w w1 : World} {a : La} {n : Nat} {dl sm : List Bool} {hs : List Hd} (h : LnR w a n dl sm hs) (g : Below w.heap.size w w1) : LnR w1 a n dl sm hs := ⟨h.dro.below g, h.sam.below g, h.hap.below g, fun x hx => (h.hsl x hx).below g⟩

set_option maxRecDepth 100000 in
set_option maxHeartbeats 8000000 in
theorem netStep_any (w : World) (s : Na) (ps : List Nd) (cr : List Bool) (n : Nat) (z : Int) (fa : Option Addr) (fn fc : Nat) (l : List Int) (h : NtR w s ps cr) (hn : ps.length = n) (hm : cr.length = n) (hle : n ≤ 100000) (hok : ∀ p ∈ ps, StepOK p.1)
    (hl : RL zv w fa fn fc l) (hfn : fn ≤ 1000000) (hg : ∀ x ∈ l, 0 ≤ x ∧ x < (n : Int)) (hz : 0 ≤ z ∧ z ≤ 1000000000) (hn2 : 0 < n) (x : Bool) (hx : x = (dvL (cts ps) cr).all id) :
    Calls Tryz.prog 7 #[.agg (ntA s n n z), .slice fa fn fc] w fun e w' => ∃ s' a, e = .returned (.tuple #[.agg (ntA s' n n (z + 1)), .agg (lnV a n x), .int .i64 0]) ∧ ∃ qs hs, qs.length = n ∧ (∀ j c, (cts ps)[j]? = some c → (cts qs)[j]? = some (nxC cr x l j c)) ∧
      hs.length = n ∧ (∀ j c, (cts ps)[j]? = some c → (hs.map Prod.fst)[j]? = some (hpC cr x l j c)) ∧ NtO w.heap.size w' s' qs cr ∧ LnO w.heap.size w' a n (dvL (cts ps) cr) (smL n x l) hs ∧ Below w.heap.size w w' := by
  have hb0 : ((((w.alloc (.cells (ntA s n n z) 31)).alloc (.cells #[.slice fa fn fc] 41)).alloc (.cells ntZ 31)).alloc (.cells lnZ 36)).heap[w.heap.size]? = some (.cells (ntA s n n z) 31 (0, 0)) := bx_alloc _ (bx_alloc _ (bx_alloc _ (heap_alloc_new w _)))
  have hf0 : ((((w.alloc (.cells (ntA s n n z) 31)).alloc (.cells #[.slice fa fn fc] 41)).alloc (.cells ntZ 31)).alloc (.cells lnZ 36)).heap[w.heap.size + 1]? = some (.cells #[.slice fa fn fc] 41 (0, 0)) := by
    have := bx_alloc (.cells lnZ 36) (bx_alloc (.cells ntZ 31) (heap_alloc_new (w.alloc (.cells (ntA s n n z) 31)) (.cells #[.slice fa fn fc] 41))); rwa [heap_size_alloc] at this
  have hr0 : ((((w.alloc (.cells (ntA s n n z) 31)).alloc (.cells #[.slice fa fn fc] 41)).alloc (.cells ntZ 31)).alloc (.cells lnZ 36)).heap[w.heap.size + 2]? = some (.cells ntZ 31 (0, 0)) := by
    have := bx_alloc (.cells lnZ 36) (heap_alloc_new ((w.alloc (.cells (ntA s n n z) 31)).alloc (.cells #[.slice fa fn fc] 41)) (.cells ntZ 31)); rwa [heap_size_alloc, heap_size_alloc] at this
  have hq0 : ((((w.alloc (.cells (ntA s n n z) 31)).alloc (.cells #[.slice fa fn fc] 41)).alloc (.cells ntZ 31)).alloc (.cells lnZ 36)).heap[w.heap.size + 3]? = some (.cells lnZ 36 (0, 0)) := by
    have := heap_alloc_new (((w.alloc (.cells (ntA s n n z) 31)).alloc (.cells #[.slice fa fn fc] 41)).alloc (.cells ntZ 31)) (.cells lnZ 36); rwa [heap_size_alloc, heap_size_alloc, heap_size_alloc] at this
  have g0 : Below w.heap.size w ((((w.alloc (.cells (ntA s n n z) 31)).alloc (.cells #[.slice fa fn fc] 41)).alloc (.cells ntZ 31)).alloc (.cells lnZ 36)) := bnew (bnew (bnew (bnew0 w _) _) _) _
  have z0 : ((((w.alloc (.cells (ntA s n n z) 31)).alloc (.cells #[.slice fa fn fc] 41)).alloc (.cells ntZ 31)).alloc (.cells lnZ 36)).heap.size = w.heap.size + 4 := by simp
  have qf0 : ((((w.alloc (.cells (ntA s n n z) 31)).alloc (.cells #[.slice fa fn fc] 41)).alloc (.cells ntZ 31)).alloc (.cells lnZ 36)).cell? ⟨w.heap.size + 1, 0, none⟩ = some (.slice fa fn fc) := by rw [cell_of_row _ _ 0 _ _ _ hf0]; rfl
  have hmf : ∀ (fn : Fn) (first cap : Array Value) (w : World), (Instr.makeFunc fn first cap).run Tryz.prog w = .ok (.func fn first cap) w := fun _ _ _ _ => rfl
  have hS : ∀ p ∈ ps, Shr p.1 := fun p hp => ⟨(hok p hp).dl, (hok p hp).wl, (hok p hp).tl⟩
  have hBus : ∀ (w1 : World) (ad : Option Addr) (cd : Nat), RL .bool w1 ad n cd (dvL (cts ps) cr) → Calls Tryz.prog 28 #[.slice ad n cd] w1 fun e w' => e = .returned (.bool x) ∧ w1 = w' := fun w1 ad cd k => by
    have := bus_any w1 ad n cd _ k (by omega)
    rwa [← hx] at this
  have HX := hid hx
  clear hx
  go_enter Tryz.func7, Tryz.ntmps7
  go_wp2_with (first
    | (go_at_call 21; (with_reducible refine (containsFunc_good _ w.heap.size s n n z hb0 fa fn fc l (hl.below g0) hfn hg).mono ?_); rintro e w1 ⟨rfl, g1⟩
       have hb1 := bx_below hb0 g1
       have hf1 := bx_below hf0 g1
       have hr1 := bx_below hr0 g1
       have hq1 := bx_below hq0 g1
       have gg1 := bstep g0 g1
       have l1 := g1.size
       rw [z0] at l1)
    | (with_reducible refine wpList_loadR rowN rfl _ rfl _ rfl hb1 rfl ?_)
    | (go_at_call 26; (with_reducible refine (netApart_any _ s ps cr n z (h.below gg1) hn hm hle hS).mono ?_); rintro e w2 ⟨s2, rfl, qs2, k1, k2, o2, g2⟩
       have hb2 := bx_below hb1 g2
       have hf2 := bx_below hf1 g2
       have hr2 := bx_below hr1 g2
       have hq2 := bx_below hq1 g2
       have gg2 := bstep gg1 g2
       have hb3 : (w2.setRow w.heap.size (ntA s2 n n z)).heap[w.heap.size]? = some (.cells (ntA s2 n n z) 31 (0, 0)) := setRow_heap _ _ _ _ _ _ hb2
       have hf3 := (setRow_other w2 w.heap.size (w.heap.size + 1) (ntA s2 n n z) (by omega)).trans hf2
       have hr3 := (setRow_other w2 w.heap.size (w.heap.size + 2) (ntA s2 n n z) (by omega)).trans hr2
       have hq3 := (setRow_other w2 w.heap.size (w.heap.size + 3) (ntA s2 n n z) (by omega)).trans hq2
       have gg3 : Below w.heap.size w (w2.setRow w.heap.size (ntA s2 n n z)) := below_setRow gg2 (Nat.le_refl _) _
       have o3 : NtO w1.heap.size (w2.setRow w.heap.size (ntA s2 n n z)) s2 qs2 cr := o2.setRow (bx_lt hb1) _)
    | (with_reducible refine wpList_storeR rowN rfl _ _ rfl _ _ rfl rfl hb2 rfl rfl (nt_ones _ _ _ _) ?_)
    | (with_reducible refine wpList_loadR rowN rfl _ rfl _ rfl hb3 rfl ?_)
    | (go_at_call 27; (with_reducible refine (drives_any _ s2 qs2 cr n z o3.r k1 hm hle (fun p hp => by
          have e1 : p.1 ∈ cts qs2 := List.mem_map_of_mem hp
          rw [k2] at e1
          obtain ⟨p', h1, h2⟩ := List.mem_map.1 e1
          rw [← h2]; exact hok p' h1)).mono ?_); rintro e w4 ⟨ad, cd, rfl, od, g4⟩
       rw [k2] at od
       have hb4 := bx_below hb3 g4
       have hf4 := bx_below hf3 g4
       have hr4 := bx_below hr3 g4
       have hq4 := bx_below hq3 g4
       have gg4 := bstep gg3 g4
       have o4 := o3.below g4
       have odr := od.rl)
    | (go_at_call 28; (with_reducible refine (hBus _ ad cd odr).mono ?_); rintro e w5 ⟨rfl, rfl⟩
       have hz4 := heap_alloc_new w4 (.cells lnZ 36)
       have hb5 := (setRow_other (w4.alloc (.cells lnZ 36)) w4.heap.size w.heap.size (lnA ad n cd x none 0 0 none 0 0) (by have := bx_lt hb4; omega)).trans (bx_alloc _ hb4)
       have q5 := (bx3 hb5).1)
    | (with_reducible refine wpList_storeR rowLn rfl _ _ rfl _ _ rfl rfl hz4 rfl rfl (ln_ones _ _ _ _ _ _ _ _ _ _) ?_))
  obtain ⟨gN, hgN, hgB, hgl⟩ := o2.nod.addr (by omega)
  have z2 : (w2.setRow w.heap.size (ntA s2 n n z)).heap.size = w2.heap.size := by simp
  have M4 : Mz w.heap.size w4 s2 n z gN cr qs2 #[.slice fa fn fc] ad cd (dvL (cts ps) cr) [] := by
    refine ⟨hb4, hf4, hr4, hq4, od.mono (by rw [z2]; omega), hgN, ?_, ?_, fun p hp => (o4.sl p hp).mono l1, fun y hy => (by cases hy)⟩
    · have := o4.nod.mono l1
      rw [k1, hgN] at this; exact this
    · have := o4.cra.mono l1
      rw [hm] at this; exact this
  have g45 : Below w4.heap.size w4 ((w4.alloc (.cells lnZ 36)).setRow w4.heap.size (lnA ad n cd x none 0 0 none 0 0)) := below_setRow (bnew0 w4 _) (Nat.le_refl _) _
  have S5 : Sp w ((w4.alloc (.cells lnZ 36)).setRow w4.heap.size (lnA ad n cd x none 0 0 none 0 0)) s2 n z gN w4.heap.size cr qs2 #[.slice fa fn fc] ad cd (dvL (cts ps) cr) x 0 none 0 ((smL n x l).take 0) 0 none 0 [] := by
    refine ⟨M4.call g45, setRow_heap _ _ _ _ _ _ hz4, OL.nil _ _ _ _, OK.nil _ _ _ _ _, M4.fresh (Nat.le_refl _), fun q hq => (by cases hq), fun q hq => (by cases hq), ⟨ol_nb od (by rw [z2]; exact hgl), (o2.sn gN hgN).2, (o2.sn gN hgN).1, fun y hy => (by cases hy)⟩, ⟨by omega, by have := g4.size; rw [z2] at this; omega⟩, bstep gg4 g45, fun q hq => (o2.sc q hq).1⟩
  clear hb0 hf0 hr0 hq0 g0 z0 qf0 hb1 hf1 hr1 hq1 gg1 hb2 hf2 hr2 hq2 gg2 hb3 hf3 hr3 hq3 gg3 o3 hb4 hf4 hr4 hq4 gg4 o4 od odr hz4 hb5 q5 g1 g2 g4 o2 M4 z2 hS h hBus
  obtain ⟨gL, hgL⟩ : ∃ gL, gL = w4.heap.size := ⟨_, rfl⟩
  change Code.wp _ _ _ _ ((w4.alloc (.cells lnZ 36)).setRow w4.heap.size (lnA ad n cd x none 0 0 none 0 0))
  generalize (w4.alloc (.cells lnZ 36)).setRow w4.heap.size (lnA ad n cd x none 0 0 none 0 0) = W5 at *
  rw [← hgL] at S5 ⊢
  rw [hgN]
  clear hgL g45 hgB hgl l1 hg
  have hcl : (cts ps).length = n := by rw [cts_len, hn]
  go_loopg [31] n (fun gn i wr => ∃ (k : Nat) (qs : List Nd) (hs : List Hd) (sa : Option Addr) (sc : Nat) (ha : Option Addr) (hc : Nat), k ≤ n ∧ gn = n - k ∧ i = .int .i64 (k : Int) ∧ Sp w wr s2 n z gN gL cr qs #[.slice fa fn fc] ad cd (dvL (cts ps) cr) x k sa sc ((smL n x l).take k) k ha hc hs ∧
    qs.length = n ∧ (∀ j c, (cts ps)[j]? = some c → (cts qs)[j]? = some (if j < k then nxC cr x l j c else c)) ∧ (∀ j c, j < k → (cts ps)[j]? = some c → (hs.map Prod.fst)[j]? = some (hpC cr x l j c)))
  case atStart => exact ⟨0, qs2, [], none, 0, none, 0, by omega, rfl, rfl, S5, k1, fun j c hj => by rw [k2, if_neg (by omega)]; exact hj, fun j c hj => by omega⟩
  case round =>
    clear S5 k1 k2
    obtain ⟨k, qs, hs, sa, sc, ha, hc, hk, rfl, rfl, S0, hql, hqe, hhe⟩ := hrel
    by_cases hlt : k < n
    · obtain ⟨⟨c, s0⟩, hxk⟩ : ∃ y, qs[k]? = some y := ⟨qs[k]'(by omega), by simp [hql, hlt]⟩
      have hck : (cts ps)[k]? = some c := by
        obtain ⟨c', hc'⟩ : ∃ c', (cts ps)[k]? = some c' := ⟨_, List.getElem?_eq_getElem (by omega)⟩
        have e1 := hqe k c' hc'
        rw [if_neg (by omega), cts_at hxk] at e1
        rw [hc']; exact e1.symm
      have hokc : StepOK c := by
        obtain ⟨p', h1, h2⟩ := List.mem_map.1 (List.mem_of_getElem? hck)
        rw [← h2]; exact hok p' h1
      have hnod := S0.m.nod
      have hr1 : wr.rangeAt gN (k * 26) (ctA c s0).toList := hnod.range enC_k hxk
      have hmem : (c, s0) ∈ qs := List.mem_of_getElem? hxk
      have hz1 := heap_alloc_new wr (.cells ctZ 54)
      have hW1 : Below wr.heap.size wr ((wr.alloc (.cells ctZ 54)).setRow wr.heap.size (ctA c s0)) := below_setRow (bnew0 wr _) (Nat.le_refl _) _
      have hb2 : ((wr.alloc (.cells ctZ 54)).setRow wr.heap.size (ctA c s0)).heap[wr.heap.size]? = some (.cells (ctA c s0) 54 (0, 0)) := setRow_heap _ _ _ _ _ _ hz1
      have S1 := S0.call hW1
      have hnc : s2.nc = s2.nc := rfl
      clear hnod
      go_wp2_with (first
        | (with_reducible refine wpList_loadM rowC rfl _ rfl gN (k * 26) rfl (ctA c s0) hr1 rfl ?_)
        | (with_reducible refine wpList_storeR rowC rfl _ _ rfl _ _ rfl rfl hz1 rfl rfl (ct_ones _ _) ?_))
      have qb := wr.heap.size
      obtain ⟨qb, hqb⟩ : ∃ qb, qb = wr.heap.size := ⟨_, rfl⟩
      have lqb := S0.gl
      change Code.wp _ _ _ _ ((wr.alloc (.cells ctZ 54)).setRow wr.heap.size (ctA c s0))
      generalize (wr.alloc (.cells ctZ 54)).setRow wr.heap.size (ctA c s0) = W1 at *
      rw [← hqb] at hb2 lqb ⊢
      clear hz1 hW1 hr1 S0 hqb wr
      have hbD : Below W1.heap.size W1 W1.drew := below_drew1 (Below.refl _ _)
      go_cut [12] (fun v wx => v = .bool (biN x l k) ∧ Below W1.heap.size W1 wx)
      case first =>
        have hlin := S1.lin
        have hfbx := S1.m.fbx
        have hlr := hl.below S1.bel
        refine Rest.begin (S := fun w' => Below W1.heap.size W1 w') (X := [5]) (by kernel_rfl) ?_
        change Rest _ _ _ _ _ _ _ _ _ W1.drew
        refine Rest.take (i := 0) (v := .pointer (some ⟨gL, 1, none⟩)) rfl (by kernel_rfl) (by kernel_rfl) (by kernel_rfl) (by kernel_rfl) (fun _ _ _ h => h) (.inl hbD) (Or.inl ⟨by simp [Region.wanted], ?_⟩) ?_
        · intro w; go_simp
        refine Rest.takeS (i := 1) (v := .bool x) rfl (by kernel_rfl) (by kernel_rfl) (by kernel_rfl) (by kernel_rfl) (fun _ _ _ h => h) hbD (Or.inl ⟨by simp [Region.wanted], ?_⟩) ?_
        · intro w' h'
          have q := (bx4 (bx_below hlin h')).2.1
          go_simp
        refine Rest.take (i := 2) (v := .func (.func 24) #[] #[.pointer (some ⟨w.heap.size + 1, 0, none⟩)]) rfl (by kernel_rfl) (by kernel_rfl) (by kernel_rfl) (by kernel_rfl) (fun _ _ _ h => h) (.inl hbD) (Or.inl ⟨by simp [Region.wanted], ?_⟩) ?_
        · intro w; go_simp
        refine Rest.take (i := 3) (v := .int .i64 (k : Int)) rfl (by kernel_rfl) (by kernel_rfl) (by kernel_rfl) (by kernel_rfl) (fun _ _ _ h => h) (.inl hbD) (Or.inl ⟨by simp [Region.wanted], ?_⟩) ?_
        · intro w; go_simp
        refine Rest.one (i := 4) (by kernel_rfl) rfl (fun K hK => ?_)
        refine draw_callC 24 #[.pointer (some ⟨w.heap.size + 1, 0, none⟩)] plain_step2 (by simp [Region.wanted]) _ _ _ rfl (by simp [Act.eval, Act.put]) #[.int .i64 (k : Int), .pointer (some ⟨w.heap.size + 1, 0, none⟩)] (by simp [Act.eval, Act.put]) _ (step2_any W1.drew (w.heap.size + 1) fa fn fc l (k : Int) _ hfbx (hlr.below hbD) hfn) ?_
        rintro e w3 ⟨rfl, rfl⟩
        refine ⟨_, rfl, ?_⟩
        refine hK _ _ ⟨.inl hbD, ?_⟩; clear hK K
        refine Rest.one (i := 5) (by kernel_rfl) rfl (fun K hK => ?_)
        go_simp
        refine hK _ _ ⟨.inl hbD, Rest.of_any _ _ _ _ (thru_of (by kernel_rfl)) ?_⟩; clear hK K
        refine wpAny_ready (rs := [6]) (by kernel_rfl) (by simp) ?_
        refine AllReady.cons rfl (fun K hK => ?_) AllReady.nil
        go_simp
        refine hK _ _ ?_; clear hK K
        refine wpAny_done (by kernel_rfl) ?_ _
        go_wp2_with fail
        go_meet
        exact ⟨rfl, hbD⟩
      case rest =>
      obtain ⟨rfl, gc⟩ := hcut
      have S2 := S1.call gc
      have hb3 := bx_below hb2 gc
      have lc := gc.size
      clear S1 hb2 hbD gc
      obtain ⟨b, hb⟩ : ∃ b, b = biN x l k := ⟨_, rfl⟩
      rw [← hb]
      have HB := hid ((smL_at hlt (n := n) (x := x) (l := l)).trans (by rw [← hb]) : (smL n x l)[k]? = some b)
      have hzH := heap_alloc_new wc (.cells hap0 63)
      have hHb : Below wc.heap.size wc (wc.alloc (.cells hap0 63)) := bnew0 wc _
      have S3 := S2.call hHb
      have hb4 := bx_below hb3 hHb
      have lq := S2.gl
      have lqb2 := bx_lt hb3
      have hMz : MzN w.heap.size gN s2 qs ad hs wc.heap.size := S2.m.fresh (Nat.le_refl _)
      have hsaq : NB sa wc.heap.size := fun p hp e => by have := (S2.sam.ltB hp).1; omega
      have hhaq : NB ha wc.heap.size := fun p hp e => by have := (S2.hap.ltB hp).1; omega
      obtain ⟨bC, oC, y, hbC, hy, hcC⟩ := S3.m.cra.rl.at hlt
      have qC := (bx3 S3.m.box).2.1
      rw [hbC] at qC
      clear S2 hb3 lc
      go_upto_region 12 with fail
      obtain ⟨qh, hqh⟩ : ∃ qh, qh = wc.heap.size := ⟨_, rfl⟩
      change Code.wp _ _ _ _ (wc.alloc (.cells hap0 63))
      generalize wc.alloc (.cells hap0 63) = W2 at *
      rw [← hqh] at hzH lq lqb2 hMz hsaq hhaq ⊢
      clear hHb hqh wc
      go_upto_if 47 with fail
      go_cut [13] (fun p wx => p = .pointer (some ⟨qh, 0, none⟩) ∧ ∃ (s1 : Sl) (ah : Option Addr) (nh : Nat), Sp w wx s2 n z gN gL cr (qs.set k (nxC cr x l k c, s1)) #[.slice fa fn fc] ad cd (dvL (cts ps) cr) x k sa sc ((smL n x l).take k) k ha hc hs ∧
          wx.heap[qh]? = some (.cells (hapA (hpC cr x l k c) ah nh) 63 (0, 0)) ∧ OL bv 5 (w.heap.size + 4) wx ah (hpC cr x l k c).2.data.length nh (hpC cr x l k c).2.data ∧
          (∀ q, (q = gL ∨ q = gN ∨ sa = some ⟨q, 0, none⟩ ∨ ha = some ⟨q, 0, none⟩ ∨ q = qh) → NB ah q) ∧ MzN w.heap.size gN s2 (qs.set k (nxC cr x l k c, s1)) ad hs qh)
      case first =>
        cases y with
        | true =>
          have e1 : nxC cr x l k c = c := by unfold nxC; rw [hy]; rfl
          have e2 : hpC cr x l k c = noH := by unfold hpC; rw [hy]; rfl
          have e3 : qs.set k (c, s0) = qs := List.ext_getElem? fun j => by
            rw [List.getElem?_set]
            split
            · rename_i hj; subst hj; rw [if_pos (by omega), hxk]
            · rfl
          go_wp2_with fail
          go_meet
          rw [e1, e2]
          exact ⟨rfl, s0, none, 0, by rw [e3]; exact S3, hzH, OL.nil _ _ _ _, fun q _ => NB.nil q, by rw [e3]; exact hMz⟩
        | false =>
          have e1 : nxC cr x l k c = (stC c b).1 := by unfold nxC; rw [hy, hb]; rfl
          have e2 : hpC cr x l k c = (stC c b).2 := by unfold hpC; rw [hy, hb]; rfl
          have hbD : Below W2.heap.size W2 W2.drew := below_drew1 (Below.refl _ _)
          have q0 := (bx3 S3.m.box).1
          rw [S3.m.sna] at q0
          have hctr : CtR W2 c s0 := (S3.m.sl _ hmem).r
          go_upto_region 13 with fail
          refine Rest.begin (S := fun w' => Below W2.heap.size W2 w') (X := [5, 9, 10]) (by kernel_rfl) ?_
          change Rest _ _ _ _ _ _ _ _ _ W2.drew
          refine Rest.take (i := 0) (v := .pointer (some ⟨w.heap.size, 0, none⟩)) rfl (by kernel_rfl) (by kernel_rfl) (by kernel_rfl) (by kernel_rfl) (fun _ _ _ h => h) (.inl hbD) (Or.inl ⟨by simp [Region.wanted], ?_⟩) ?_
          · intro w; go_simp
          refine Rest.takeS (i := 1) (v := .slice (some ⟨gN, 0, none⟩) n s2.nc) rfl (by kernel_rfl) (by kernel_rfl) (by kernel_rfl) (by kernel_rfl) (fun _ _ _ h => h) hbD (Or.inl ⟨by simp [Region.wanted], ?_⟩) ?_
          · intro w' h'
            have q := (bx3 (bx_below S3.m.box h')).1
            rw [S3.m.sna] at q
            go_simp
          refine Rest.take (i := 2) (v := .int .i64 (k : Int)) rfl (by kernel_rfl) (by kernel_rfl) (by kernel_rfl) (by kernel_rfl) (fun _ _ _ h => h) (.inl hbD) (Or.inl ⟨by simp [Region.wanted], ?_⟩) ?_
          · intro w; go_simp
          refine Rest.takeS (i := 3) (v := .agg (ctA c s0)) rfl (by kernel_rfl) (by kernel_rfl) (by kernel_rfl) (by kernel_rfl) (fun _ _ _ h => h) hbD (yields_loadR rowC (by simp [Region.wanted]) _ rfl qb (by simp [Act.eval, Act.put]) _ rfl (fun w' h' => ⟨_, _, bx_below hb4 h'⟩)) ?_
          refine Rest.take (i := 4) (v := .bool b) rfl (by kernel_rfl) (by kernel_rfl) (by kernel_rfl) (by kernel_rfl) (fun _ _ _ h => h) (.inl hbD) (Or.inl ⟨by simp [Region.wanted], ?_⟩) ?_
          · intro w; go_simp
          refine Rest.one (i := 5) (by kernel_rfl) rfl (fun K hK => ?_)
          refine draw_callF 29 (by kernel_rfl) (by simp [Region.wanted]) _ _ _ rfl (by simp [Act.eval]) #[.agg (ctA c s0), .bool b] (by simp [Act.eval, Act.put]) _ (step_any W2.drew c s0 b (hctr.below hbD) hokc) ?_
          rintro e w5 ⟨s5, a5, n5, rfl, o5, y5, g5⟩
          refine ⟨_, rfl, ?_⟩
          have b5 : Below W2.heap.size W2 w5 := hbD.trans (g5.mono (by simp))
          obtain ⟨r, hr⟩ : ∃ r, r = stC c b := ⟨_, rfl⟩
          rw [← hr] at o5 y5 e1 e2 ⊢
          clear hr
          refine hK _ _ ⟨.inl b5, ?_⟩; clear hK K
          refine Rest.take (i := 6) (v := .tuple #[.agg (ctA r.1 s5), .agg (hapA r.2 a5 n5)]) rfl (by kernel_rfl) (by kernel_rfl) (by kernel_rfl) (by kernel_rfl) (fun _ _ _ h => h) (.inl b5) (Or.inl ⟨by simp [Region.wanted], ?_⟩) ?_
          · intro w; go_simp
          refine Rest.take (i := 7) (v := .agg (ctA r.1 s5)) rfl (by kernel_rfl) (by kernel_rfl) (by kernel_rfl) (by kernel_rfl) (fun _ _ _ h => h) (.inl b5) (Or.inl ⟨by simp [Region.wanted], ?_⟩) ?_
          · intro w; go_simp
          refine Rest.take (i := 8) (v := .agg (hapA r.2 a5 n5)) rfl (by kernel_rfl) (by kernel_rfl) (by kernel_rfl) (by kernel_rfl) (fun _ _ _ h => h) (.inl b5) (Or.inl ⟨by simp [Region.wanted], ?_⟩) ?_
          · intro w; go_simp
          refine Rest.takeS (i := 9) (v := .pointer (some ⟨gN, k * 26, none⟩)) rfl (by kernel_rfl) (by kernel_rfl) (by kernel_rfl) (by kernel_rfl) (fun _ _ _ h => h) b5 (Or.inl ⟨by simp [Region.wanted], ?_⟩) ?_
          · intro w _; go_simp
          have S5 := S3.call b5
          have hq5 := bx_below hzH b5
          have lW2 : W2.heap.size ≤ w5.heap.size := b5.size
          have lt2 := S3.lt
          have lgl := S3.gl
          have lqh := bx_lt hzH
          have hlow : ∀ q, q < W2.heap.size → NBs s5 q ∧ NB a5 q := fun q hq => ⟨o5.nbs (by simpa using hq), ol_nb y5 (by simpa using hq)⟩
          have hbl : ∀ q, (q = gL ∨ q = gN ∨ sa = some ⟨q, 0, none⟩ ∨ ha = some ⟨q, 0, none⟩ ∨ q = qh ∨ s2.ca = some ⟨q, 0, none⟩) → q < W2.heap.size := fun q hq => by
            rcases hq with rfl | rfl | hq | hq | rfl | hq
            · omega
            · omega
            · exact (S3.sam.ltB hq).1
            · exact (S3.hap.ltB hq).1
            · omega
            · exact (S3.m.cra.ltB hq).1
          refine Rest.one (i := 10) (by kernel_rfl) rfl (fun K hK => ?_)
          have hnod5 := S5.m.nod
          have hen : (ctA r.1 s5).toList = enC (r.1, s5) := rfl
          have hon := ct_ones r.1 s5
          (with_reducible refine draw_putM enC_k rowC ?zg ?zX ?zY ?zo hnod5 k hlt (r.1, s5) (ctA r.1 s5) hen ?zx ?zy hon ?zk)
          case zo => exact rfl
          case zg => exact rfl
          case zx => simp [Act.eval, Act.put]
          case zy => simp [Act.eval, Act.put]
          case zk =>
          intro w6 p6 r6 z6
          refine hK _ _ ⟨.inr (thru_of (by kernel_rfl)), Rest.of_any _ _ _ _ (thru_of (by kernel_rfl)) ?_⟩; clear hK K
          have S6 := S5.put p6 r6 (o5.mono (by have := S3.bel.size; simp; omega)) (fun q hq => (hlow q (hbl q (hq.imp id (·.imp id (·.imp id (·.imp id .inr)))))).1)
          have hq6 : w6.heap[qh]? = some (.cells hap0 63 (0, 0)) := (r6.block qh (by omega) (by omega)).trans hq5
          refine wpAny_ready (rs := [11]) (by kernel_rfl) (by simp) ?_
          refine AllReady.cons rfl (fun K hK => ?_) AllReady.nil
          have hhn := hap_ones r.2 a5 n5
          have hhs : (hapA r.2 a5 n5).size = 6 := rfl
          have hh0 : hap0.size = 6 := rfl
          (with_reducible refine draw_storeR rowH ?yg ?yX ?yY ?yo qh (hapA r.2 a5 n5) ?yx ?yy hq6 hhs hh0 hhn ?yk)
          case yo => exact rfl
          case yg => exact rfl
          case yx => simp [Act.eval, Act.put]
          case yy => simp [Act.eval, Act.put]
          case yk =>
          refine hK _ _ ?_; clear hK K
          have hM6 := hMz.set (k := k) (c := r.1) (hlow qh (by omega)).1
          have y6 : OL bv 5 (w.heap.size + 4) w5 a5 r.2.2.data.length n5 r.2.2.data := y5.mono (by have := S3.bel.size; simp; omega)
          have y7 : OL bv 5 (w.heap.size + 4) (w6.setRow qh (hapA r.2 a5 n5)) a5 r.2.2.data.length n5 r.2.2.data := by
            refine (y6.kept fun q hq => r6.block q ?_ ?_).kept fun q hq => setRow_other _ _ _ _ ?_
            · exact (y6.ltB hq).1
            · have := (y5.ltB hq).2; simp at this; omega
            · have := (y5.ltB hq).2; simp at this; omega
          have FIN := hid (And.intro e1 (And.intro e2 (And.intro (S6.other hM6 hsaq hhaq (by omega) (hapA r.2 a5 n5) (by omega)) (And.intro (setRow_heap _ _ _ (hapA r.2 a5 n5) _ _ hq6) (And.intro y7 (And.intro (fun q hq => (hlow q (hbl q (hq.imp id (·.imp id (·.imp id (·.imp id .inl)))))).2 : ∀ q, (q = gL ∨ q = gN ∨ sa = some ⟨q, 0, none⟩ ∨ ha = some ⟨q, 0, none⟩ ∨ q = qh) → NB a5 q) hM6))))))
          clear S5 S6 hq5 hq6 hlow hbl lW2 lt2 lgl lqh y5 y6 y7 o5 g5 b5 p6 r6 z6 hM6 e1 e2 hbD q0 hctr hnod5 hen hon hhn hhs hh0 S3 hzH hb4 lq lqb2 hMz hsaq hhaq qC hcC
          refine wpAny_done (by kernel_rfl) ?_ _
          go_wp2_with fail
          simp [Act.put]
          go_meet
          obtain ⟨e1, e2, f1, f2, f3, f4, f5⟩ := FIN.out
          rw [e1, e2]
          exact ⟨rfl, s5, a5, n5, f1, f2, f3, f4, f5⟩
      case rest =>
      obtain ⟨rfl, s1, ah, nh, S4, hq4, ho4, hn4, hM4⟩ := hcut
      obtain ⟨c', hc'⟩ : ∃ c', c' = nxC cr x l k c := ⟨_, rfl⟩
      obtain ⟨d, hd'⟩ : ∃ d, d = hpC cr x l k c := ⟨_, rfl⟩
      rw [← hc'] at S4 hM4
      rw [← hd'] at hq4 ho4
      have HE := hid (And.intro hc' hd')
      clear S3 hzH hb4 hMz hcC qC hy hbC hc' hd' hb hokc
      have q59 := (bx4 S4.lin).2.2.1
      have lg4 := S4.gl
      go_upto_region 15 with (first
        | (at_builtin
           refine wpList_appg (f := Value.bool) tB rfl _ _ rfl rfl (S4.call (bnew0 wc _)).sam rfl (ol_lit Value.bool 4 (gL + 1) wc [b] _ 1 rfl rfl (by omega) (by omega)).rl (by omega) (fun _ => rfl) (by omega) (by omega) (by simp; omega) ?_
           intro w6 a6 c6 o6 b6 k6 z6
           have bl6 := (b6.block gL (by omega)).trans (S4.call (bnew0 wc _)).lin
           have q6 := (bx4 bl6).2.2.1
           have f6 := bx_thaw bl6 2))
      have S6 := (S4.call (bnew0 wc (.cells #[.bool b] 4))).samp o6 b6 k6
      have hq6 : (w6.setCell ⟨gL, 2, none⟩ (.slice a6 (k + 1) c6)).heap[qh]? = some (.cells (hapA d ah nh) 63 (0, 0)) := by
        refine (heap_setCell_other _ _ _ _ (show qh ≠ gL by omega)).trans ?_
        have e := k6 qh (by have := bx_lt hq4; simp; omega) hsaq
        exact e.1.trans ((bnew0 wc _).block qh (bx_lt hq4) |>.trans hq4)
      have ho6 : OL bv 5 (w.heap.size + 4) (w6.setCell ⟨gL, 2, none⟩ (.slice a6 (k + 1) c6)) ah d.2.data.length nh d.2.data := by
        have nbsa : ∀ q, ah = some ⟨q, 0, none⟩ → NB sa q := fun q hq => (nb_or S4.sam q).resolve_right fun e => hn4 q (.inr (.inr (.inl e))) _ hq rfl
        exact ((ho4.alloc (.cells #[.bool b] 4)).kept fun q hq => (k6 q ((ho4.alloc (.cells #[.bool b] 4)).ltB hq).1 (nbsa q hq)).1).kept fun q hq => heap_setCell_other _ _ _ _ fun e => hn4 q (.inl e) _ hq rfl
      have hn6 : ∀ q, a6 = some ⟨q, 0, none⟩ → NB ah q := fun q hq => by
        by_cases hl : q < (wc.alloc (.cells #[.bool b] 4)).heap.size
        · rcases nb_or S4.sam q with e | e
          · exact absurd rfl ((k6 q hl e).2 _ hq)
          · exact hn4 q (.inr (.inr (.inl e)))
        · intro p hp e
          have := (ho4.ltB hp).1
          simp at hl
          omega
      have q65 := (bx4 S6.lin).2.2.2
      clear S4 q59 lg4 hq4 ho4 o6 b6 k6 z6 bl6 q6 f6
      change Code.wp _ _ _ _ (w6.setCell ⟨gL, 2, none⟩ (.slice a6 (k + 1) c6))
      generalize w6.setCell ⟨gL, 2, none⟩ (.slice a6 (k + 1) c6) = W7 at *
      have lg6 := S6.gl
      have hsz : (hapA d ah nh).size = 6 := rfl
      go_wp2_with (first
        | (with_reducible refine wpList_loadR rowH rfl _ rfl qh rfl hq6 rfl ?_)
        | (at_builtin
           refine wpList_appgK elH enH_k rfl _ _ rfl rfl (S6.call (bnew0 W7 _)).hap rfl ((ok_lit enH_k 63 (gL + 1) W7 [(d, (ah, nh))] _ 1 (hap_lit d ah nh) rfl (by omega) (by omega)).rk enH_k) (by omega) (by omega) (by omega) (by simp; omega) ?_
           intro w8 a8 c8 o8 b8 k8 z8
           have bl8 := (b8.block gL (by omega)).trans (S6.call (bnew0 W7 _)).lin
           have q8 := (bx4 bl8).2.2.2
           have f8 := bx_thaw bl8 3))
      have S8 := (S6.call (bnew0 W7 _)).more (d := (d, (ah, nh))) o8 b8 k8 (ho6.alloc _) (fun q hq => by
        rcases hq with h | h | h | h
        · exact hn4 q (.inl h)
        · exact hn4 q (.inr (.inl h))
        · exact hn6 q h
        · exact hn4 q (.inr (.inr (.inr (.inl h)))))
      have hE := HE.out
      clear hsz q65 lg6 o8 b8 k8 z8 bl8 q8 f8 hq6 ho6 hn4 hM4 S6 hsaq hhaq lq lqb2
      have hql' : (qs.set k (c', s1)).length = n := by rw [List.length_set]; exact hql
      have R1 : ∀ j c, (cts ps)[j]? = some c → (cts (qs.set k (c', s1)))[j]? = some (if j < k + 1 then nxC cr x l j c else c) := fun j cj hj => by
        rw [cts_set, List.getElem?_set]
        by_cases e : k = j
        · subst e
          rw [if_pos rfl, if_pos (by rw [cts_len]; omega), if_pos (by omega), hE.1]
          rw [hck] at hj; cases hj; rfl
        · rw [if_neg e, hqe j cj hj]
          by_cases e2 : j < k
          · rw [if_pos e2, if_pos (by omega)]
          · rw [if_neg e2, if_neg (by omega)]
      have hhl : hs.length = k := by have := S8.hlen; simpa using this
      have R2 : ∀ j c, j < k + 1 → (cts ps)[j]? = some c → ((hs ++ [(d, (ah, nh))]).map Prod.fst)[j]? = some (hpC cr x l j c) := fun j cj hj hc => by
        rw [List.map_append, List.getElem?_append]
        by_cases e : j < k
        · rw [if_pos (by rw [List.length_map]; omega)]; exact hhe j cj e hc
        · obtain rfl : j = k := by omega
          rw [if_neg (by rw [List.length_map]; omega), List.length_map, hhl, Nat.sub_self]
          rw [hck] at hc; cases hc
          rw [← hE.2]; rfl
      have RR := hid (And.intro hql' (And.intro R1 R2))
      have hsm : (smL n x l).take (k + 1) = (smL n x l).take k ++ [b] := take_snoc HB.out
      rw [← hsm] at S8
      clear R1 R2 hql' hqe hhe hE HE hsm hhl HB hck hmem hxk hql
      go_roundg (n - (k + 1))
      case measure => go_light; omega
      case rel => go_light; exact ⟨k + 1, _, _, _, _, _, _, by omega, rfl, by go_num, S8, RR.out.1, RR.out.2.1, RR.out.2.2⟩
    · obtain rfl : k = n := by omega
      have F1 : NtO (w.heap.size + 4) wr s2 qs cr := by
        refine ⟨?_, ?_, fun p hp => S0.m.sl p hp, fun g hg => ?_, fun g hg => ⟨S0.nC g hg, ?_⟩⟩
        · rw [hql, S0.m.sna]; exact S0.m.nod
        · rw [hm]; exact S0.m.cra
        · rw [S0.m.sna] at hg
          cases hg
          exact ⟨S0.nG.2.2.1, S0.nG.2.1⟩
        · rw [S0.m.sna]
          exact fun p hp e => by cases hp; exact S0.nG.2.1 _ hg e.symm
      have hlow : w.heap.size + 3 < wr.heap.size := bx_lt S0.m.rln
      have hsl : (smL k x l).take k = smL k x l := List.take_of_length_le (by unfold smL; simp)
      have hS := S0.sam
      rw [hsl] at hS
      have hF2 := And.intro S0.m.dro (And.intro hS (And.intro S0.hap S0.m.hsl))
      have q2 := (bx3 S0.m.box).2.2
      have f2 := bx_thaw S0.m.box 2
      have hb2 := S0.m.box
      have hr2 := S0.m.res
      have hq2 := S0.m.rln
      have hl2 := S0.lin
      have gg0 := S0.bel
      have HgL := hid (show w.heap.size + 4 ≤ gL ∧ gL < wr.heap.size from ⟨by have := S0.lt; omega, S0.gl⟩)
      have HR := hid (show qs.length = k ∧ ((∀ j c, (cts ps)[j]? = some c → (cts qs)[j]? = some (nxC cr x l j c)) ∧ hs.length = k) ∧ (∀ j c, (cts ps)[j]? = some c → (hs.map Prod.fst)[j]? = some (hpC cr x l j c)) from
        ⟨hql, ⟨fun j c hj => by have := hqe j c hj; rwa [if_pos (by have := (List.getElem?_eq_some_iff.1 hj).1; omega)] at this, S0.hlen⟩, fun j c hj => hhe j c (by have := (List.getElem?_eq_some_iff.1 hj).1; omega) hj⟩)
      clear S0 hS hsl hcl hqe hhe hql hok hl HX
      go_upto_region 18 with fail
      have z1 : (wr.setCell ⟨w.heap.size, 2, none⟩ (.int .i64 (z + 1))).heap.size = wr.heap.size := by simp
      have b3 : (wr.setCell ⟨w.heap.size, 2, none⟩ (.int .i64 (z + 1))).heap[w.heap.size]? = some (.cells (ntA s2 k k (z + 1)) 31 (0, 0)) := heap_setCell_same wr w.heap.size 2 _ _ _ hb2
      have oth : ∀ q, q ≠ w.heap.size → (wr.setCell ⟨w.heap.size, 2, none⟩ (.int .i64 (z + 1))).heap[q]? = wr.heap[q]? := fun q hq => heap_setCell_other _ _ _ _ hq
      have ngL : w.heap.size + 4 ≤ gL := HgL.out.1
      have l3 := (oth gL (by omega)).trans hl2
      have r3 := (oth (w.heap.size + 2) (by omega)).trans hr2
      have q3 := (oth (w.heap.size + 3) (by omega)).trans hq2
      obtain ⟨V, hV⟩ : ∃ V, V = wr.setCell ⟨w.heap.size, 2, none⟩ (.int .i64 (z + 1)) := ⟨_, rfl⟩
      have FV : NtO w.heap.size ((V.drew.setRow (w.heap.size + 2) (ntA s2 k k (z + 1))).setRow (w.heap.size + 3) (lnV ⟨ad, cd, sa, sc, ha, hc⟩ k x)) s2 qs cr ∧
          LnO w.heap.size ((V.drew.setRow (w.heap.size + 2) (ntA s2 k k (z + 1))).setRow (w.heap.size + 3) (lnV ⟨ad, cd, sa, sc, ha, hc⟩ k x)) ⟨ad, cd, sa, sc, ha, hc⟩ k (dvL (cts ps) cr) (smL k x l) hs ∧
          Below w.heap.size w ((V.drew.setRow (w.heap.size + 2) (ntA s2 k k (z + 1))).setRow (w.heap.size + 3) (lnV ⟨ad, cd, sa, sc, ha, hc⟩ k x)) := by
        have hk : ∀ q, w.heap.size + 4 ≤ q → ((V.drew.setRow (w.heap.size + 2) (ntA s2 k k (z + 1))).setRow (w.heap.size + 3) (lnV ⟨ad, cd, sa, sc, ha, hc⟩ k x)).heap[q]? = wr.heap[q]? := fun q hq =>
          (setRow_other _ _ _ _ (by omega)).trans ((setRow_other V.drew _ _ _ (by omega)).trans ((congrArg (fun u : World => u.heap[q]?) hV).trans (oth q (by omega))))
        obtain ⟨d1, d2, d3, d4⟩ := hF2
        refine ⟨(F1.keptHi hk).mono (by omega), ⟨(d1.kept fun q hq => hk q ?_).mono (by omega), (d2.kept fun q hq => hk q ?_).mono (by omega), (d3.kept fun q hq => hk q ?_).mono (by omega), fun y hy => ((d4 y hy).kept fun q hq => hk q ?_).mono (by omega)⟩, ?_⟩
        · have := (d1.ltB hq).2; simpa using this
        · have := (d2.ltB hq).2; simp at this; omega
        · have := (d3.ltB hq).2; simp at this; omega
        · have := ((d4 y hy).ltB hq).2; simpa using this
        · have b1 : Below w.heap.size w V := by rw [hV]; exact gg0.setCell (Nat.le_refl _) _
          exact below_setRow (below_setRow (below_drew1 b1) (by omega) _) (by omega) _
      clear F1 hF2 q2 f2 hb2 hr2 hq2 hl2 gg0 oth hlow
      change Code.wp _ _ _ _ (wr.setCell ⟨w.heap.size, 2, none⟩ (.int .i64 (z + 1)))
      rw [← hV] at b3 l3 r3 q3 ⊢
      have HF := hid FV
      clear FV hV z1 hz
      refine Rest.begin (S := fun w' => w'.heap[gL]? = some (.cells (lnA ad k cd x sa k sc ha k hc) 36 (0, 0)) ∧ w'.heap[w.heap.size]? = some (.cells (ntA s2 k k (z + 1)) 31 (0, 0))) (X := [2, 3]) (by kernel_rfl) ?_
      change Rest _ _ _ _ _ _ _ _ _ V.drew
      have hS0 : V.drew.heap[gL]? = some (.cells (lnA ad k cd x sa k sc ha k hc) 36 (0, 0)) ∧ V.drew.heap[w.heap.size]? = some (.cells (ntA s2 k k (z + 1)) 31 (0, 0)) := ⟨l3, b3⟩
      refine Rest.takeS (i := 0) (v := .agg (ntA s2 k k (z + 1))) rfl (by kernel_rfl) (by kernel_rfl) (by kernel_rfl) (by kernel_rfl) (fun _ _ _ h => h) hS0 (yields_loadR rowN (by simp [Region.wanted]) _ rfl w.heap.size (by simp [Act.eval]) _ rfl (fun w' h' => ⟨_, _, h'.2⟩)) ?_
      refine Rest.takeS (i := 1) (v := .agg (lnA ad k cd x sa k sc ha k hc)) rfl (by kernel_rfl) (by kernel_rfl) (by kernel_rfl) (by kernel_rfl) (fun _ _ _ h => h) hS0 (yields_loadR rowLn (by simp [Region.wanted]) _ rfl gL (by simp [Act.eval, Act.put]) _ rfl (fun w' h' => ⟨_, _, h'.1⟩)) ?_
      have hno := nt_ones s2 k k (z + 1)
      have hns : (ntA s2 k k (z + 1)).size = 3 := rfl
      have hn0 : ntZ.size = 3 := rfl
      have hlo := ln_ones ad k cd x sa k sc ha k hc
      have hls : (lnA ad k cd x sa k sc ha k hc).size = 4 := rfl
      have hl0 : lnZ.size = 4 := rfl
      refine Rest.one (i := 2) (by kernel_rfl) rfl (fun K hK => ?_)
      have r4 : V.drew.heap[w.heap.size + 2]? = some (.cells ntZ 31 (0, 0)) := r3
      (with_reducible refine draw_storeR rowN ?vg1 ?vX1 ?vY1 ?vo1 (w.heap.size + 2) (ntA s2 k k (z + 1)) ?vx1 ?vy1 r4 hns hn0 hno ?vk1)
      case vo1 => exact rfl
      case vg1 => exact rfl
      case vx1 => simp [Act.eval, Act.put]
      case vy1 => simp [Act.eval, Act.put]
      case vk1 =>
      have hS1 : (V.drew.setRow (w.heap.size + 2) (ntA s2 k k (z + 1))).heap[gL]? = some (.cells (lnA ad k cd x sa k sc ha k hc) 36 (0, 0)) ∧ (V.drew.setRow (w.heap.size + 2) (ntA s2 k k (z + 1))).heap[w.heap.size]? = some (.cells (ntA s2 k k (z + 1)) 31 (0, 0)) :=
        ⟨(setRow_other _ _ _ _ (by omega)).trans hS0.1, (setRow_other _ _ _ _ (by omega)).trans hS0.2⟩
      refine hK _ _ ⟨.inl hS1, ?_⟩; clear hK K
      refine Rest.one (i := 3) (by kernel_rfl) rfl (fun K hK => ?_)
      have q4 : (V.drew.setRow (w.heap.size + 2) (ntA s2 k k (z + 1))).heap[w.heap.size + 3]? = some (.cells lnZ 36 (0, 0)) := (setRow_other _ _ _ _ (by omega)).trans q3
      (with_reducible refine draw_storeR rowLn ?ug1 ?uX1 ?uY1 ?uo1 (w.heap.size + 3) (lnA ad k cd x sa k sc ha k hc) ?ux1 ?uy1 q4 hls hl0 hlo ?uk1)
      case uo1 => exact rfl
      case ug1 => exact rfl
      case ux1 => simp [Act.eval, Act.put]
      case uy1 => simp [Act.eval, Act.put]
      case uk1 =>
      refine hK _ _ ⟨.inr (thru_of (by kernel_rfl)), Rest.of_any _ _ _ _ (thru_of (by kernel_rfl)) ?_⟩; clear hK K
      have N5 := (setRow_other (V.drew.setRow (w.heap.size + 2) (ntA s2 k k (z + 1))) (w.heap.size + 3) (w.heap.size + 2) (lnA ad k cd x sa k sc ha k hc) (by omega)).trans (setRow_heap _ _ _ (ntA s2 k k (z + 1)) _ _ r4)
      have L5 := setRow_heap _ _ _ (lnA ad k cd x sa k sc ha k hc) _ _ q4
      have HNL := hid (And.intro N5 L5)
      clear N5 L5 q4 r4 hS0 hS1 b3 l3 r3 q3 hno hns hn0 hlo hls hl0
      refine wpAny_ready (rs := [4]) (by kernel_rfl) (by simp) ?_
      refine AllReady.cons rfl (fun K hK => ?_) AllReady.nil
      go_simp
      refine hK _ _ ?_; clear hK K
      refine wpAny_done (by kernel_rfl) ?_ _
      go_wp2
      obtain ⟨k1, k2, k3⟩ := HR.out
      exact bodyPost_ret (v := .tuple #[.agg (ntA s2 k k (z + 1)), .agg (lnV ⟨ad, cd, sa, sc, ha, hc⟩ k x), .int .i64 0]) (results_row21 rowN rowLn rfl _ _ _ _ rfl rfl rfl HNL.out.1 HNL.out.2 rfl rfl) rfl ⟨s2, ⟨ad, cd, sa, sc, ha, hc⟩, rfl, qs, hs, k1, k2.1, k2.2, k3, HF.out.1, HF.out.2.1, HF.out.2.2⟩
end Go.Proofs.YtgpmhmdofefdcaaGreat

namespace Go.Proofs.YtgpmhmdofefdcaaGreat
open Go.RowKit Go.Sort
set_option linter.unusedVariables false

theorem put_no9 (a : Act) (v : Value) : a.put none v = a := rfl

/-- A node that has come to rest. -/
def quN (c : Ct) (x : Bool) : Bool := !(!x && (decide (c.ph ≠ 9) && !(decide (c.ph = 0) && !c.has)))

/-- All of them have. -/
def quA (cs : List Ct) (cr : List Bool) : Bool := (List.zipWith quN cs cr).all id
theorem quA_true {cs : List Ct} {cr : List Bool} : quA cs cr = true ↔ ∀ (j : Nat) (c : Ct) (x : Bool), cs[j]? = some c → cr[j]? = some x → quN c x = true := by
  unfold quA
  rw [List.all_eq_true]
  constructor
  · intro h j c x hc hx
    have e : (List.zipWith quN cs cr)[j]? = some (quN c x) := by rw [List.getElem?_zipWith, hc, hx]
    exact h _ (List.mem_of_getElem? e)
  · intro h y hy
    obtain ⟨j, hj⟩ := List.getElem?_of_mem hy
    rw [List.getElem?_zipWith] at hj
    cases hc : cs[j]? with
    | none => rw [hc] at hj; cases hj
    | some c =>
      cases hx : cr[j]? with
      | none => rw [hc, hx] at hj; cases hj
      | some x => rw [hc, hx] at hj; cases hj; exact h j c x hc hx
theorem quA_false {cs : List Ct} {cr : List Bool} {j : Nat} {c : Ct} {x : Bool} (hc : cs[j]? = some c) (hx : cr[j]? = some x) (h : quN c x = false) : quA cs cr = false := by
  cases e : quA cs cr with
  | false => rfl
  | true => rw [quA_true.1 e j c x hc hx] at h; cases h

set_option maxRecDepth 100000 in
set_option maxHeartbeats 4000000 in
theorem quiet_any (w : World) (s : Na) (ps : List Nd) (cr : List Bool) (n : Nat) (z : Int) (h : NtR w s ps cr) (hn : ps.length = n) (hm : cr.length = n) (hle : n ≤ 100000) :
    Calls Tryz.prog 17 #[.agg (ntA s n n z)] w fun e w' => e = .returned (.bool (quA (cts ps) cr)) ∧ Below w.heap.size w w' := by
  have hU := fun w1 (g1 : Below w.heap.size w w1) (k : Int) => up_any w1 s n cr z k (h.cra.below g1) (by omega) (by omega)
  rw [hm] at hU
  obtain ⟨sna, snc, sca, scc⟩ := s
  have hN := h.nod
  rw [hn] at hN
  simp only at hN
  have hb0 := heap_alloc_new w (.cells (ntA ⟨sna, snc, sca, scc⟩ n n z) 31)
  have g0 : Below w.heap.size w (w.alloc (.cells (ntA ⟨sna, snc, sca, scc⟩ n n z) 31)) := bnew0 w _
  have q0 := (bx3 hb0).1
  have hcl : (cts ps).length = n := by rw [cts_len, hn]
  go_enter Tryz.func17, Tryz.ntmps17
  go_wp2
  clear q0
  go_loopg [9] n (fun gn i wr => ∃ (k : Nat), k ≤ n ∧ gn = n - k ∧ i = .int .i64 (k : Int) ∧ wr.heap[w.heap.size]? = some (.cells (ntA ⟨sna, snc, sca, scc⟩ n n z) 31 (0, 0)) ∧ Below w.heap.size w wr ∧ (∀ (j : Nat) (c : Ct) (x : Bool), j < k → (cts ps)[j]? = some c → cr[j]? = some x → quN c x = true))
  case atStart => exact ⟨0, by omega, rfl, rfl, hb0, g0, fun j _ _ hj => by omega⟩
  case round =>
    clear hb0 g0
    obtain ⟨k, hk, rfl, rfl, hbx, hbel, hq⟩ := hrel
    by_cases hlt : k < n
    · obtain ⟨⟨c, s0⟩, hx⟩ : ∃ x, ps[k]? = some x := ⟨ps[k]'(by omega), by simp [hn, hlt]⟩
      obtain ⟨b, off, hab, hbl, hr⟩ := hN.range hx
      have hr1 : wr.rangeAt b (off + k * 26) (ctA c s0).toList := fun j v hv => (hbel.cell (p := ⟨b, _, none⟩) hbl).trans (hr j v hv)
      obtain ⟨y, hy⟩ : ∃ y, cr[k]? = some y := ⟨cr[k]'(by omega), by simp⟩
      have hck := cts_at hx
      have hz1 := heap_alloc_new wr (.cells ctZ 54)
      have hW1 : Below wr.heap.size wr ((wr.alloc (.cells ctZ 54)).setRow wr.heap.size (ctA c s0)) := below_setRow (bnew0 wr _) (Nat.le_refl _) _
      have hb2 : ((wr.alloc (.cells ctZ 54)).setRow wr.heap.size (ctA c s0)).heap[wr.heap.size]? = some (.cells (ctA c s0) 54 (0, 0)) := setRow_heap _ _ _ _ _ _ hz1
      have hbx1 := bx_below hbx hW1
      have gb1 := bstep hbel hW1
      subst hab
      go_upto_region 4 with (first
        | (with_reducible refine wpList_loadM rowC rfl _ rfl b (off + k * 26) rfl (ctA c s0) hr1 rfl ?_)
        | (with_reducible refine wpList_storeR rowC rfl _ _ rfl _ _ rfl rfl hz1 rfl rfl (ct_ones _ _) ?_))
      change Code.wp _ _ _ _ ((wr.alloc (.cells ctZ 54)).setRow wr.heap.size (ctA c s0))
      generalize (wr.alloc (.cells ctZ 54)).setRow wr.heap.size (ctA c s0) = W1 at *
      have c0' : W1.cell? ⟨wr.heap.size, 0, none⟩ = some (.int .u8 (c.ph : Int)) := bxC hb2 0
      have c7' : W1.cell? ⟨wr.heap.size, 7, none⟩ = some (.bool c.has) := bxC hb2 7
      have hup : upB n cr (k : Int) = !y := by
        unfold upB
        rw [decide_eq_true (by omega), Int.toNat_natCast, hy, hm, decide_eq_false (by omega)]; simp
      have hU1 := hU W1 gb1 (k : Int)
      rw [hup] at hU1
      have hqk : Hid (quN c y = !(!y && (decide (c.ph ≠ 9) && !(decide (c.ph = 0) && !c.has)))) := rfl
      have HQ := hid (And.intro hq (And.intro hck hy))
      clear hz1 hW1 hr1 hb2 hr hbl hbx hbel hq hck hy hx hup hU
      rw [put_no9]
      go_cut [5] (fun v wx => v = .bool (decide (c.ph = 0) && !c.has) ∧ wx = W1)
      case first =>
        clear hU1 hqk
        generalize c.has = hh at *
        generalize c.ph = p at *
        by_cases h0 : p = 0
        · subst h0
          go_wp2_with fail
          go_meet
          exact ⟨by simp, rfl⟩
        · have i0 : ((p : Int) == 0) = false := by simp; omega
          have HP := hid h0
          clear h0
          go_wp2_with fail
          go_meet
          exact ⟨by rw [decide_eq_false HP.out]; rfl, rfl⟩
      case rest =>
      obtain ⟨rfl, rfl⟩ := hcut
      obtain ⟨i, hi⟩ : ∃ i, i = (decide (c.ph = 0) && !c.has) := ⟨_, rfl⟩
      rw [← hi] at hqk ⊢
      clear hi c7'
      go_upto_region 5 with fail
      go_cut [33] (fun v wx => v = .bool (!quN c y) ∧ Below wc.heap.size wc wx)
      case first =>
        generalize quN c y = q at *
        generalize c.ph = p at *
        cases y with
        | true =>
          have HF : Hid (q = true) := by show _ = _; rw [hqk.out]; rfl
          clear hqk
          go_wp2_with (first
            | (with_reducible refine wpList_loadR rowN rfl _ rfl _ rfl hbx1 rfl ?_)
            | (go_at_call 30; (with_reducible refine hU1.mono ?_); rintro e w3 ⟨rfl, g3⟩))
          go_meet
          exact ⟨by rw [HF.out]; rfl, g3⟩
        | false =>
          by_cases h9 : p = 9
          · have HF : Hid (q = true) := by show _ = _; rw [hqk.out, h9]; rfl
            subst h9
            clear hqk
            go_wp2_with (first
              | (with_reducible refine wpList_loadR rowN rfl _ rfl _ rfl hbx1 rfl ?_)
              | (go_at_call 30; (with_reducible refine hU1.mono ?_); rintro e w3 ⟨rfl, g3⟩; have c3 := (g3.cell (p := ⟨wr.heap.size, 0, none⟩) (block_lt_of_cell c0')).trans c0'))
            go_meet
            exact ⟨by rw [HF.out]; rfl, g3⟩
          · have i9 : ((p : Int) != 9) = true := by simp; omega
            have HF : Hid (q = i) := by show _ = _; rw [hqk.out, decide_eq_true h9]; cases i <;> rfl
            clear hqk h9
            go_wp2_with (first
              | (with_reducible refine wpList_loadR rowN rfl _ rfl _ rfl hbx1 rfl ?_)
              | (go_at_call 30; (with_reducible refine hU1.mono ?_); rintro e w3 ⟨rfl, g3⟩; have c3 := (g3.cell (p := ⟨wr.heap.size, 0, none⟩) (block_lt_of_cell c0')).trans c0'))
            go_meet
            exact ⟨by rw [HF.out], g3⟩
      case rest =>
      obtain ⟨rfl, g3⟩ := hcut
      have hb3 := bx_below hbx1 g3
      have gb3 := bstep gb1 g3
      clear c0' hbx1 hU1 hqk gb1 g3
      cases hq : quN c y with
      | true =>
        have HN := hid hq
        clear hq
        go_wp2
        go_roundg (n - (k + 1))
        case measure => go_light; omega
        case rel =>
          go_light
          refine ⟨k + 1, by omega, rfl, by go_num, hb3, gb3, fun j cj x hj h1 h2 => ?_⟩
          by_cases e : j < k
          · exact HQ.out.1 j cj x e h1 h2
          · obtain rfl : j = k := by omega
            rw [HQ.out.2.1] at h1; rw [HQ.out.2.2] at h2
            cases h1; cases h2
            exact HN.out
      | false =>
        have HN := hid hq
        clear hq
        go_wp2
        go_ret
        exact ⟨by rw [quA_false HQ.out.2.1 HQ.out.2.2 HN.out]; rfl, gb3⟩
    · obtain rfl : k = n := by omega
      have HQ := hid hq
      clear hbx hq hU hN
      go_wp2
      go_ret
      exact ⟨by rw [quA_true.2 fun j c x h1 h2 => HQ.out j c x (by have := (List.getElem?_eq_some_iff.1 h1).1; omega) h1 h2]; rfl, hbel⟩
end Go.Proofs.YtgpmhmdofefdcaaGreat
