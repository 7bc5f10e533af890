/-
  Timers, as plain lists: what is set, cancelled, due and told; and maps that hold them.
-/
import Derived.Test.YtpnmnffefdjegaaMp
namespace Go.Proofs.Ytpnmnffefdjegaa
open Go.RowKit Go.Maps
set_option linter.unusedVariables false

/-- A timer: its number, and when it is due. -/
abbrev Tm := Int × Int
/-- A wheel: the time, how many timers there may be, the timers in the order in which they were set. -/
structure Wh where
  now : Int
  most : Int
  L : List Tm

def outL (L : List Tm) (id : Int) : List Tm := L.filter (fun p => !(p.1 == id))
def hasL (L : List Tm) (id : Int) : Bool := L.any (fun p => p.1 == id)
def dueL (L : List Tm) (id : Int) : Int := ((L.find? (fun p => p.1 == id)).map (·.2)).getD 0
def ids (L : List Tm) : List Int := L.map (·.1)

structure WhI (m : Wh) : Prop where
  key : (ids m.L).Nodup
  rng : ∀ p ∈ m.L, 0 ≤ p.1 ∧ p.1 ≤ 1023 ∧ m.now < p.2 ∧ p.2 ≤ m.now + 1099511627776
  n0 : 0 ≤ m.now
  len : (m.L.length : Int) ≤ m.most
  most : m.most ≤ 1024

section
variable {L : List Tm} {id a v t : Int} {p : Tm} {m : Wh}

theorem hasL_iff : hasL L id = true ↔ id ∈ ids L := by
  unfold hasL ids
  rw [List.any_eq_true, List.mem_map]
  exact ⟨fun ⟨p, h, e⟩ => ⟨p, h, by simpa using e⟩, fun ⟨p, h, e⟩ => ⟨p, h, by simpa using e⟩⟩
theorem hasL_not : hasL L id = false ↔ id ∉ ids L := by
  rw [← hasL_iff]; cases hasL L id <;> simp
theorem hasL_dec : hasL L id = decide (id ∈ ids L) := by
  cases h : hasL L id
  · rw [decide_eq_false (hasL_not.1 h)]
  · rw [decide_eq_true (hasL_iff.1 h)]
theorem mem_outL : p ∈ outL L id ↔ p ∈ L ∧ p.1 ≠ id := by simp [outL]
theorem ids_out : ids (outL L id) = (ids L).filter (fun x => !(x == id)) := by
  unfold ids outL
  rw [List.filter_map]; rfl
theorem out_not (h : hasL L id = false) : outL L id = L := by
  unfold outL
  refine List.filter_eq_self.2 (fun p hp => ?_)
  have : p.1 ≠ id := fun e => hasL_not.1 h (e ▸ List.mem_map_of_mem hp)
  simp [this]
theorem id_out : id ∉ ids (outL L id) := by rw [ids_out]; simp
theorem due_mem (hk : (ids L).Nodup) (hp : p ∈ L) : dueL L p.1 = p.2 := by
  unfold dueL
  induction L with
  | nil => cases hp
  | cons q L ih =>
    rw [List.find?_cons]
    cases hq : q.1 == p.1
    · have hne : q.1 ≠ p.1 := by simpa using hq
      rcases List.mem_cons.1 hp with rfl | h
      · exact absurd rfl hne
      · exact ih (List.nodup_cons.1 hk).2 h
    · have he : q.1 = p.1 := by simpa using hq
      rcases List.mem_cons.1 hp with rfl | h
      · rfl
      · have h3 := List.mem_map_of_mem (f := fun x : Tm => x.1) h
        replace h3 : q.1 ∈ List.map (fun x : Tm => x.1) L := he ▸ h3
        exact absurd h3 (List.nodup_cons.1 hk).1
theorem mem_due (h : hasL L id = true) : (id, dueL L id) ∈ L := by
  unfold dueL
  obtain ⟨p, hp, e⟩ := List.any_eq_true.1 h
  obtain ⟨q, hq⟩ : ∃ q, L.find? (fun p => p.1 == id) = some q := by
    cases hf : L.find? (fun p => p.1 == id) with
    | none => exact absurd e (List.find?_eq_none.1 hf p hp)
    | some q => exact ⟨q, rfl⟩
  rw [hq]
  have h1 := List.mem_of_find?_eq_some hq
  have h2 : q.1 = id := by simpa using List.find?_some hq
  rw [← h2]
  exact h1
theorem due_no (h : hasL L id = false) : dueL L id = 0 := by
  unfold dueL
  rw [List.find?_eq_none.2 (fun p hp e => by
    have : hasL L id = true := List.any_eq_true.2 ⟨p, hp, e⟩
    rw [h] at this; cases this)]
  rfl
theorem pair_eq (hk : (ids L).Nodup) {q : Tm} (hp : p ∈ L) (hq : q ∈ L) (e : p.1 = q.1) : p = q := by
  have h1 := due_mem hk hp
  have h2 := due_mem hk hq
  rw [e] at h1
  exact Prod.ext e (h1.symm.trans h2)
theorem out_len (hk : (ids L).Nodup) : (outL L id).length + (if hasL L id = true then 1 else 0) = L.length := by
  induction L with
  | nil => rfl
  | cons q L ih =>
    have ih := ih (List.nodup_cons.1 hk).2
    have hn := (List.nodup_cons.1 hk).1
    by_cases he : q.1 = id
    · have h0 : hasL L id = false := hasL_not.2 (he ▸ hn)
      have e1 : outL (q :: L) id = outL L id := by simp [outL, he]
      have e2 : hasL (q :: L) id = true := by simp [hasL, he]
      rw [e1, e2, if_pos rfl, out_not h0]; rfl
    · have e1 : outL (q :: L) id = q :: outL L id := by simp [outL, he]
      have e2 : hasL (q :: L) id = hasL L id := by simp [hasL, he]
      rw [e1, e2, List.length_cons, List.length_cons]; omega
theorem out_le : (outL L id).length ≤ L.length := List.length_filter_le ..
theorem ids_nodup_filter (hk : (ids L).Nodup) (f : Tm → Bool) : (ids (L.filter f)).Nodup := hk.sublist ((List.filter_sublist).map _)
theorem ids_nodup_out (hk : (ids L).Nodup) : (ids (outL L id)).Nodup := ids_nodup_filter hk _
theorem ids_put (L : List Tm) (id v : Int) : ids (L ++ [(id, v)]) = ids L ++ [id] := by simp [ids]
theorem nodup_put (hk : (ids L).Nodup) (hn : id ∉ ids L) : (ids (L ++ [(id, v)])).Nodup := by
  rw [ids_put, List.nodup_append]
  exact ⟨hk, by simp, fun a ha b hb e => by simp at hb; subst hb; subst e; exact hn ha⟩
end

/-- Cancelled. -/
def cutW (m : Wh) (id : Int) : Wh := { m with L := outL m.L id }
def badA (id after : Int) : Bool := decide (id < 0) || decide (1023 < id) || decide (after < 1) || decide (1099511627776 < after)
/-- Set, and what is said of it. -/
def putW (m : Wh) (id after : Int) : Wh := { m with L := outL m.L id ++ [(id, m.now + after)] }
def fullW (m : Wh) (id : Int) : Bool := !hasL m.L id && decide ((m.L.length : Int) = m.most)
def setW (m : Wh) (id after : Int) : Wh := if badA id after then m else if fullW m id then m else putW m id after
def setC (m : Wh) (id after : Int) : Int := if badA id after then 2 else if fullW m id then 5 else 0
def tickW (m : Wh) : Wh := ⟨m.now + 1, m.most, m.L.filter (fun p => !(p.2 == m.now + 1))⟩
def leftW (m : Wh) (id : Int) : Int := if hasL m.L id then dueL m.L id - m.now else 0

section
variable {m : Wh} {id after : Int}
theorem WhI.cut (h : WhI m) (id : Int) : WhI (cutW m id) :=
  ⟨ids_nodup_out h.key, fun p hp => h.rng p (mem_outL.1 hp).1, h.n0, by have := h.len; have := out_le (L := m.L) (id := id); show ((outL m.L id).length : Int) ≤ m.most; omega, h.most⟩
theorem WhI.put (h : WhI m) (hb : badA id after = false) (hf : fullW m id = false) : WhI (putW m id after) := by
  simp only [badA, Bool.or_eq_false_iff, decide_eq_false_iff_not] at hb
  obtain ⟨⟨⟨b1, b2⟩, b3⟩, b4⟩ := hb
  have hn := h.n0
  refine ⟨nodup_put (ids_nodup_out h.key) id_out, fun p hp => ?_, h.n0, ?_, h.most⟩
  · rcases List.mem_append.1 hp with hp | hp
    · exact h.rng p (mem_outL.1 hp).1
    · simp at hp; subst hp
      show 0 ≤ id ∧ id ≤ 1023 ∧ m.now < m.now + after ∧ m.now + after ≤ m.now + 1099511627776
      omega
  · have h1 := out_len (id := id) h.key
    have h2 := h.len
    show ((outL m.L id ++ [(id, m.now + after)]).length : Int) ≤ m.most
    rw [List.length_append, List.length_singleton]
    cases hh : hasL m.L id
    · simp only [fullW, hh, Bool.not_false, Bool.true_and, decide_eq_false_iff_not] at hf
      rw [hh] at h1; simp at h1; omega
    · rw [hh, if_pos rfl] at h1; omega
theorem WhI.set (h : WhI m) (id after : Int) : WhI (setW m id after) := by
  unfold setW
  cases hb : badA id after
  · cases hf : fullW m id
    · exact h.put hb hf
    · exact h
  · exact h
theorem WhI.tick (h : WhI m) : WhI (tickW m) := by
  refine ⟨ids_nodup_filter h.key _, fun p hp => ?_, by show 0 ≤ m.now + 1; have := h.n0; omega, ?_, h.most⟩
  · obtain ⟨h1, h2⟩ := List.mem_filter.1 hp
    have := h.rng p h1
    have h3 : p.2 ≠ m.now + 1 := by simpa using h2
    show _ ∧ _ ∧ m.now + 1 < p.2 ∧ p.2 ≤ m.now + 1 + _
    omega
  · have := h.len
    have h2 : (m.L.filter (fun p => !(p.2 == m.now + 1))).length ≤ m.L.length := List.length_filter_le ..
    show ((m.L.filter _).length : Int) ≤ m.most
    omega
end

/-- What a tick tells: just the numbers of what is due then, rising. -/
structure Told (m : Wh) (t : List Int) : Prop where
  up : t.Pairwise (· < ·)
  has : ∀ i, i ∈ t ↔ (i, m.now + 1) ∈ m.L

theorem rising_eq : ∀ {a b : List Int}, a.Pairwise (· < ·) → b.Pairwise (· < ·) → (∀ i, i ∈ a ↔ i ∈ b) → a = b
  | [], [], _, _, _ => rfl
  | [], y :: b, _, _, h => by have := (h y).2 (by simp); simp at this
  | x :: a, [], _, _, h => by have := (h x).1 (by simp); simp at this
  | x :: a, y :: b, h1, h2, h => by
    obtain ⟨a1, a2⟩ := List.pairwise_cons.1 h1
    obtain ⟨b1, b2⟩ := List.pairwise_cons.1 h2
    have e : x = y := by
      rcases List.mem_cons.1 ((h x).1 (by simp)) with e | hx
      · exact e
      · rcases List.mem_cons.1 ((h y).2 (by simp)) with e | hy
        · exact e.symm
        · have := b1 x hx; have := a1 y hy; omega
    subst e
    rw [rising_eq a2 b2 (fun i => ⟨fun hi => by
      rcases List.mem_cons.1 ((h i).1 (List.mem_cons_of_mem _ hi)) with e | hb
      · have := a1 i hi; omega
      · exact hb, fun hi => by
      rcases List.mem_cons.1 ((h i).2 (List.mem_cons_of_mem _ hi)) with e | ha
      · have := b1 i hi; omega
      · exact ha⟩)]

/-! ### Maps that hold timers -/
section
variable {D : DataW Unit} {L : List Tm} {ts : List Int} {id v t : Int} {w : World} {b n k : Nat}

theorem keyLit (t : Int) : WideAt.IsKeyLit (.int .i64 t) := by simp [WideAt.IsKeyLit]
theorem lit_ne {t u : Int} (h : u ≠ t) : (Lit.int .i64 u) ≠ (Lit.int .i64 t) := fun e => h (by simpa using e)

theorem filter_out_len (t : Int) : ∀ {ts : List Int}, ts.Nodup → (ts.filter (fun x => !(x == t))).length + (if decide (t ∈ ts) = true then 1 else 0) = ts.length
  | [], _ => by simp
  | x :: ts, h => by
    obtain ⟨h1, h2⟩ := List.nodup_cons.1 h
    have ih := filter_out_len t h2
    by_cases e : x = t
    · subst e
      have e0 : ts.filter (fun y => !(y == x)) = ts := List.filter_eq_self.2 (fun y hy => by
        have : y ≠ x := fun e => h1 (e ▸ hy)
        simp [this])
      simp [e0]
    · have e1 : (x :: ts).filter (fun y => !(y == t)) = x :: ts.filter (fun y => !(y == t)) := by simp [e]
      have e2 : decide (t ∈ x :: ts) = decide (t ∈ ts) := by rw [decide_eq_decide]; simp [Ne.symm e]
      rw [e1, e2, List.length_cons, List.length_cons]; omega

theorem Met.del (h : Met D ts) (hn : ts.Nodup) (t : Int) : Met (D.del (.int .i64 t)) (ts.filter (fun x => !(x == t))) := by
  refine ⟨h.tidy.del _, fun u => ?_, ?_⟩
  · by_cases e : u = t
    · subst e
      rw [has_del_same]; simp
    · rw [has_del_other (lit_ne e), h.has u, decide_eq_decide]; simp [e]
  · have h1 := size_del (k := .int .i64 t) h.tidy
    rw [h.has t, h.size] at h1
    have h2 := filter_out_len t hn
    omega
theorem Met.swap {ts' : List Int} (h : Met D ts) (hm : ∀ i, i ∈ ts' ↔ i ∈ ts) (hl : ts'.length = ts.length) : Met D ts' :=
  ⟨h.tidy, fun t => by rw [h.has t, decide_eq_decide]; exact (hm t).symm, by rw [h.size, hl]⟩

/-- The map says of each number when it is due. -/
structure Due (D : DataW Unit) (L : List Tm) : Prop where
  met : Met D (ids L)
  at' : ∀ p ∈ L, D.atKey (.int .i64 p.1) (.lit (.int .i64 0)) = .lit (.int .i64 p.2)
theorem Due.new : Due (.map []) [] := ⟨Met.new, fun p hp => by cases hp⟩
theorem Due.del (h : Due D L) (hk : (ids L).Nodup) (id : Int) : Due (D.del (.int .i64 id)) (outL L id) := by
  refine ⟨by rw [ids_out]; exact h.met.del hk id, fun p hp => ?_⟩
  obtain ⟨h1, h2⟩ := mem_outL.1 hp
  rw [atKey_del_other (lit_ne h2)]
  exact h.at' p h1
theorem Due.put (h : Due D L) (hn : id ∉ ids L) (v : Int) : Due (D.put (.int .i64 id) (.lit (.int .i64 v))) (L ++ [(id, v)]) := by
  refine ⟨by rw [ids_put]; exact h.met.put hn _, fun p hp => ?_⟩
  rcases List.mem_append.1 hp with hp | hp
  · have : p.1 ≠ id := fun e => hn (e ▸ List.mem_map_of_mem hp)
    rw [atKey_put_other (lit_ne this)]
    exact h.at' p hp
  · simp at hp; subst hp
    exact atKey_put_same h.met.tidy.isMap (keyLit _) _ _
/-- What a number reads as. -/
theorem Due.look (h : Due D L) (id : Int) : D.atKey (.int .i64 id) (.lit (.int .i64 0)) = .lit (.int .i64 (dueL L id)) := by
  cases hh : hasL L id
  · rw [due_no hh]
    exact h.met.no (hasL_not.1 hh)
  · exact h.at' _ (mem_due hh)
theorem Due.hasEq (h : Due D L) (id : Int) : Maps.has D (.int .i64 id) = hasL L id := by
  rw [h.met.has, hasL_dec]

/-- The numbers of the timers that are due at ticks of a slot. -/
def slotIds (L : List Tm) (n k : Nat) : List Int := ids (L.filter (fun p => p.2 % (n : Int) == (k : Int)))
theorem mem_slot {i : Int} : i ∈ slotIds L n k ↔ ∃ v, (i, v) ∈ L ∧ v % (n : Int) = (k : Int) := by
  unfold slotIds ids
  rw [List.mem_map]
  constructor
  · rintro ⟨p, hp, rfl⟩
    obtain ⟨h1, h2⟩ := List.mem_filter.1 hp
    exact ⟨p.2, h1, by simpa using h2⟩
  · rintro ⟨v, h1, h2⟩
    exact ⟨(i, v), List.mem_filter.2 ⟨h1, by simpa using h2⟩, rfl⟩
theorem slot_nodup (hk : (ids L).Nodup) : (slotIds L n k).Nodup := ids_nodup_filter hk _
theorem slot_le : (slotIds L n k).length ≤ L.length := by unfold slotIds ids; rw [List.length_map]; exact List.length_filter_le ..
theorem slot_out : slotIds (outL L id) n k = (slotIds L n k).filter (fun x => !(x == id)) := by
  unfold slotIds outL
  rw [List.filter_filter, ← ids_out]
  unfold outL
  rw [List.filter_filter]
  congr 1
  refine List.filter_congr (fun p _ => Bool.and_comm _ _)
theorem slot_other (h : ∀ p ∈ L, p.1 = id → p.2 % (n : Int) ≠ (k : Int)) : slotIds (outL L id) n k = slotIds L n k := by
  rw [slot_out]
  refine List.filter_eq_self.2 (fun x hx => ?_)
  obtain ⟨v, h1, h2⟩ := mem_slot.1 hx
  have : x ≠ id := fun e => h _ h1 e h2
  simp [this]
theorem slot_put (h : v % (n : Int) = (k : Int)) : slotIds (L ++ [(id, v)]) n k = slotIds L n k ++ [id] := by
  unfold slotIds
  rw [List.filter_append]
  have : [(id, v)].filter (fun p : Tm => p.2 % (n : Int) == (k : Int)) = [(id, v)] := by simp [h]
  rw [this]
  simp [ids]
theorem slot_put_other (h : v % (n : Int) ≠ (k : Int)) : slotIds (L ++ [(id, v)]) n k = slotIds L n k := by
  unfold slotIds
  rw [List.filter_append]
  have : [(id, v)].filter (fun p : Tm => p.2 % (n : Int) == (k : Int)) = [] := by simp [h]
  rw [this, List.append_nil]

/-- A set of numbers, of the call's own, in block b. -/
abbrev MU (w : World) (b n : Nat) (D : DataW Unit) : Prop := w.ownsMap Try.prog 3 unitElem b n D
theorem MU.at {w1 : World} (h : MU w b n D) (k : w1.heap[b]? = w.heap[b]?) : MU w1 b n D := by
  obtain ⟨es, clock, hb, F, hs, hD⟩ := h
  exact ⟨es, clock, k.trans hb, F, hs, hD⟩
/-- A map has room for no more than it holds. -/
theorem tight {R : Value → Option (DataW Unit × List MemPlace)} {kt : TypeId} {P : Program} (h : w.ownsMap P kt R b n D) : w.ownsMap P kt R b (Maps.size D) D := by
  obtain ⟨es, clock, hb, F, hs, rfl⟩ := h
  exact ⟨es, clock, hb, F, by simp [Maps.size, length_sorted], rfl⟩
end
end Go.Proofs.Ytpnmnffefdjegaa
