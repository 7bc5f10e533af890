/-
  A map that keeps pace with a wheel's timers: what is put anew, what is taken out one by one.
-/
import Derived.Test.YtpnmnffefdjegaaM13c
namespace Go.Proofs.Ytpnmnffefdjegaa
open Go.RowKit Go.Maps
set_option linter.unusedVariables false

def rmL (L : List Tm) (ts : List Int) : List Tm := L.filter (fun p => !(ts.contains p.1))

section
variable {D : DataW Unit} {L : List Tm} {t : List Int} {id v T : Int} {m : Wh} {q : Nat}
theorem rm_nil (L : List Tm) : rmL L [] = L := List.filter_eq_self.2 (fun p _ => by simp)
theorem rm_snoc (L : List Tm) (ts : List Int) (id : Int) : rmL L (ts ++ [id]) = outL (rmL L ts) id := by
  unfold rmL outL
  rw [List.filter_filter]
  refine List.filter_congr (fun p _ => ?_)
  rw [List.contains_eq_mem, List.contains_eq_mem]
  by_cases e1 : p.1 = id <;> by_cases e2 : p.1 ∈ ts <;> simp [e1, e2]
theorem rm_mem (h : (id, v) ∈ L) (hn : id ∉ t) : (id, v) ∈ rmL L t := List.mem_filter.2 ⟨h, by simpa using hn⟩
theorem rm_nodup (hk : (ids L).Nodup) (t : List Int) : (ids (rmL L t)).Nodup := ids_nodup_filter hk _
theorem rm_all (hk : (ids m.L).Nodup) (ht : Told m t) : rmL m.L t = (tickW m).L := by
  unfold rmL tickW
  refine List.filter_congr (fun p hp => ?_)
  rw [List.contains_eq_mem]
  by_cases e : p.2 = m.now + 1
  · have : p.1 ∈ t := (ht.has p.1).2 (e ▸ hp)
    simp [this, e]
  · have : p.1 ∉ t := fun hi => e (by have := pair_eq hk hp ((ht.has _).1 hi) rfl; rw [this])
    simp [this, e]
theorem told_nodup (ht : Told m t) : t.Nodup := List.nodup_iff_pairwise_ne.2 (ht.up.imp (fun h => by omega))
theorem told_not (ht : Told m t) (h : t[q]? = some id) : id ∉ t.take q := by
  intro hm
  have hn := told_nodup ht
  obtain ⟨i, hi⟩ := List.getElem?_of_mem hm
  have hiq : i < q := by
    have := (List.getElem?_eq_some_iff.1 hi).1
    rw [List.length_take] at this; omega
  rw [List.getElem?_take_of_lt hiq] at hi
  obtain ⟨h1, e1⟩ := List.getElem?_eq_some_iff.1 hi
  obtain ⟨h2, e2⟩ := List.getElem?_eq_some_iff.1 h
  exact (List.pairwise_iff_getElem.1 (List.nodup_iff_pairwise_ne.1 hn)) i q h1 h2 hiq (e1.trans e2.symm)
/-- What comes behind is greater. -/
theorem told_next (ht : Told m t) (h : t[q]? = some id) : ∀ z ∈ t.drop (q + 1), id < z := by
  intro z hz
  have hd : t.drop q = id :: t.drop (q + 1) := by
    obtain ⟨h2, e2⟩ := List.getElem?_eq_some_iff.1 h
    rw [← List.getElem_cons_drop h2, e2]
  have hp : (t.drop q).Pairwise (· < ·) := ht.up.sublist (List.drop_sublist ..)
  rw [hd] at hp
  exact (List.pairwise_cons.1 hp).1 z hz
theorem mem_drop_at (h : t[q]? = some id) : id ∈ t.drop q := by
  obtain ⟨h2, e2⟩ := List.getElem?_eq_some_iff.1 h
  rw [← List.getElem_cons_drop h2, e2]
  simp
/-- Set anew, or set first. -/
theorem Due.put2 (h : Due D L) (hk : (ids L).Nodup) (id v : Int) : Due (D.put (.int .i64 id) (.lit (.int .i64 v))) (outL L id ++ [(id, v)]) := by
  cases hh : hasL L id
  · rw [out_not hh]; exact h.put (hasL_not.1 hh) v
  · have hm := hasL_iff.1 hh
    have hlen := out_len (id := id) hk
    rw [hh, if_pos rfl] at hlen
    refine ⟨⟨h.met.tidy.put (keyLit id) _, fun u => ?_, ?_⟩, fun p hp => ?_⟩
    · by_cases e : u = id
      · subst e
        rw [has_put_same h.met.tidy.isMap (keyLit _), ids_put]; simp
      · rw [has_put_other (lit_ne e), h.met.has u, decide_eq_decide, ids_put, ids_out]; simp [e]
    · rw [size_put h.met.tidy, h.met.has, decide_eq_true hm, if_pos rfl, h.met.size, ids_put]
      simp only [ids, List.length_append, List.length_map, List.length_singleton] at hlen ⊢
      omega
    · rcases List.mem_append.1 hp with hp | hp
      · have := (mem_outL.1 hp)
        rw [atKey_put_other (lit_ne this.2)]
        exact h.at' p this.1
      · simp at hp; subst hp
        exact atKey_put_same h.met.tidy.isMap (keyLit _) _ _
/-- What a key of the map reads as is due. -/
theorem Due.of_at (h : Due D L) {c : Int} (hat : ∀ zd, D.atKey (.int .i64 id) zd = .lit (.int .i64 c)) : (id, c) ∈ L := by
  have hin := has_true_of_atKey hat
  rw [h.hasEq] at hin
  have e := h.look id
  rw [hat] at e
  obtain rfl : c = dueL L id := by simpa using e
  exact mem_due hin
end
end Go.Proofs.Ytpnmnffefdjegaa
