/-
  Plain facts: a mail and the document's State beside it, step by step.
-/
import Derived.Test.YtffbkcjkmhjfnaaM10b
import Derived.Test.YtffbkcjkmhjfnaaB10y
namespace Go.Proofs.Ytffbkcjkmhjfnaa
open Go.RowKit Go.Sort
set_option linter.unusedVariables false
set_option linter.unusedSimpArgs false

def sSl (s : Sl) : Fr × Nat := (s.1.1.1, s.1.2)
def sWt (p : Wt) : Fr × Nat := (p.1.1, p.2)
/-- The same frames wait, by the same numbers, in the same order; given up is just what is on the wire, if it was. -/
structure MsR (m : Ml) (L : List Sl) : Prop where
  eq : L.map sSl = m.ws.map sWt
  gn : ∀ s ∈ L, s.2 = (m.ab && decide (s.1.2 = m.wire))

theorem fi_num (N : Int) (l1 l2 : List Wt) (h : l1.map Prod.snd = l2.map Prod.snd) : fiW N l1 = fiW N l2 := by
  have e : ∀ l : List Wt, l.findIdx? (fun p => decide ((p.2 : Int) = N)) = (l.map Prod.snd).findIdx? (fun (x : Nat) => decide ((x : Int) = N)) := fun l => by
    rw [List.findIdx?_map]; rfl
  unfold fiW
  rw [e, e, h]

theorem key_same {s : Sl} {p : Wt} (h : sSl s = sWt p) : kyW s.1 = kyW p := by
  have h1 : (sSl s).1 = (sWt p).1 := by rw [h]
  have h1 : s.1.1.1 = p.1.1 := h1
  unfold kyW; rw [h1]

theorem mi_same : ∀ (tl : List Sl) (l : List Wt) (hd : Sl) (p : Wt), tl.map sSl = l.map sWt → sSl hd = sWt p → sSl (miS tl hd) = sWt (miW l p) := by
  intro tl
  induction tl with
  | nil =>
    intro l hd p h1 h2
    cases l with
    | nil => exact h2
    | cons => simp at h1
  | cons x tl ih =>
    intro l hd p h1 h2
    cases l with
    | nil => simp at h1
    | cons y l =>
      simp only [List.map_cons, List.cons.injEq] at h1
      show sSl (if kyW x.1 < kyW hd.1 then miS tl x else miS tl hd) = sWt (if kyW y < kyW p then miW l y else miW l p)
      rw [key_same h1.1, key_same h2]
      split
      · exact ih l x y h1.2 h1.1
      · exact ih l hd p h1.2 h2

section
variable {m : Ml} {L : List Sl}
theorem MsR.len (h : MsR m L) : L.length = m.ws.length := by have := congrArg List.length h.eq; simpa using this
theorem MsR.find (h : MsR m L) (N : Int) : fiL N L = fiW N m.ws := by
  refine fi_num N _ _ ?_
  have := congrArg (List.map Prod.snd) h.eq
  rw [List.map_map, List.map_map] at this
  rw [List.map_map]
  exact this
theorem MsR.at (h : MsR m L) {k : Nat} {p : Wt} (hk : m.ws[k]? = some p) : ∃ s, L[k]? = some s ∧ sSl s = sWt p := by
  have e := congrArg (fun l => l[k]?) h.eq
  simp only [List.getElem?_map, hk, Option.map_some] at e
  cases hs : L[k]? with
  | none => rw [hs] at e; cases e
  | some s => rw [hs] at e; exact ⟨s, rfl, by simpa using e⟩

/-- A number that waits: where. -/
theorem MsR.waits (h : MsR m L) {N : Nat} (hN : hasN N m.ws) : ∃ (k : Nat) (s : Sl) (p : Wt), L[k]? = some s ∧ m.ws[k]? = some p ∧ sSl s = sWt p ∧ p.2 = N ∧ fiL (N : Int) L = (k : Int) ∧ rmW N m.ws = m.ws.take k ++ m.ws.drop (k + 1) ∧ m.ws.find? (fun q => decide (q.2 = N)) = some p := by
  obtain ⟨p0, hp0, he0⟩ := hN
  rcases fiW_or (N : Int) m.ws with ⟨_, h2⟩ | ⟨k, p, h1, h2, h3, h4⟩
  · exact absurd (by omega) (h2 p0 hp0)
  · obtain ⟨s, hs, hsp⟩ := h.at h1
    have hlo : ∀ (j : Nat) (q : Wt), j < k → m.ws[j]? = some q → q.2 ≠ N := fun j q hj hq e => h4 j q hj hq (by omega)
    refine ⟨k, s, p, hs, h1, hsp, by omega, by rw [h.find]; exact h3, rmW_at h1 (by omega) hlo, ?_⟩
    obtain ⟨hk, hpe⟩ := List.getElem?_eq_some_iff.1 h1
    rw [List.find?_eq_some_iff_getElem]
    exact ⟨by simpa using (show p.2 = N by omega), k, hk, hpe, fun j hj => by simpa using hlo j _ hj (by simp)⟩

theorem MsR.none (h : MsR m L) {N : Int} (hN : hasW N m.ws = false) : fiL N L = -1 := by
  rw [h.find]
  rcases fiW_or N m.ws with ⟨h1, _⟩ | ⟨k, p, h1, h2, h3, _⟩
  · exact h1
  · unfold hasW at hN; rw [h3] at hN; simp at hN

theorem MsR.cut (h : MsR m L) (hI : MlI m) {N k : Nat} (he : rmW N m.ws = m.ws.take k ++ m.ws.drop (k + 1)) (f : Ml) (hf : f.ws = rmW N m.ws) (hg : ∀ s ∈ L.take k ++ L.drop (k + 1), s.2 = (f.ab && decide (s.1.2 = f.wire))) : MsR f (L.take k ++ L.drop (k + 1)) := by
  refine ⟨?_, hg⟩
  rw [hf, he, List.map_append, List.map_append, List.map_take, List.map_take, List.map_drop, List.map_drop, h.eq]

theorem cut_mem {k : Nat} {s : Sl} (hs : s ∈ L.take k ++ L.drop (k + 1)) : s ∈ L := by
  rcases List.mem_append.1 hs with h1 | h1
  · exact List.mem_of_mem_take h1
  · exact List.mem_of_mem_drop h1

/-- The numbers of those left are not the one taken out. -/
theorem MsR.left (h : MsR m L) (hI : MlI m) {N k : Nat} (he : rmW N m.ws = m.ws.take k ++ m.ws.drop (k + 1)) {s : Sl} (hs : s ∈ L.take k ++ L.drop (k + 1)) : s.1.2 ≠ N := by
  have e : (L.take k ++ L.drop (k + 1)).map sSl = (rmW N m.ws).map sWt := by
    rw [he, List.map_append, List.map_append, List.map_take, List.map_take, List.map_drop, List.map_drop, h.eq]
  have h1 : sSl s ∈ (rmW N m.ws).map sWt := by rw [← e]; exact List.mem_map_of_mem hs
  obtain ⟨p, hp, hps⟩ := List.mem_map.1 h1
  have := ((rm_mem hI.up p).1 hp).2
  have e2 : (sWt p).2 = (sSl s).2 := by rw [hps]
  have e2 : p.2 = s.1.2 := e2
  omega

theorem MsR.put (h : MsR m L) (hI : MlI m) (F : Fr) (da fa : Option Addr) (dc fc : Nat) : MsR (puM F da dc m) (L ++ [(((F, (fa, fc)), m.puts + 1), false)]) := by
  refine ⟨?_, fun s hs => ?_⟩
  · show _ = (m.ws ++ [((F, (da, dc)), m.puts + 1)]).map sWt
    rw [List.map_append, List.map_append, h.eq]; rfl
  · rcases List.mem_append.1 hs with h1 | h1
    · exact h.gn s h1
    · have : s = (((F, (fa, fc)), m.puts + 1), false) := by simpa using h1
      subst this
      have hw : m.wire ≤ m.puts := by
        rcases hI.wr with e | ⟨p, hp, he⟩
        · omega
        · have := (hI.no p hp).2; omega
      have hd : decide (m.puts + 1 = m.wire) = false := decide_eq_false (by omega)
      show false = (m.ab && decide (m.puts + 1 = m.wire))
      rw [hd, Bool.and_false]

theorem MsR.sent (h : MsR m L) (hI : MlI m) (hw : m.wire ≠ 0) {k : Nat} (he : rmW m.wire m.ws = m.ws.take k ++ m.ws.drop (k + 1)) : MsR (frM (rmM m.wire m)) (L.take k ++ L.drop (k + 1)) :=
  h.cut hI he (frM (rmM m.wire m)) rfl fun s hs => by
    have h1 := h.gn s (cut_mem hs)
    rw [decide_eq_false (h.left hI he hs), Bool.and_false] at h1
    rw [h1]; rfl

theorem MsR.gone (h : MsR m L) (hI : MlI m) {N k : Nat} (hN : N ≠ m.wire) (he : rmW N m.ws = m.ws.take k ++ m.ws.drop (k + 1)) : MsR (rmM N m) (L.take k ++ L.drop (k + 1)) :=
  h.cut hI he (rmM N m) rfl fun s hs => h.gn s (cut_mem hs)

theorem MsR.free (h : MsR m L) (ha : m.ab = false) : MsR (frM m) L := ⟨h.eq, fun s hs => by have := h.gn s hs; rw [ha, Bool.false_and] at this; rw [this]; rfl⟩

theorem MsR.give (h : MsR m L) (hI : MlI m) {k : Nat} {s : Sl} (hk : L[k]? = some s) (hs : s.1.2 = m.wire) : MsR { m with ab := true } (L.set k (s.1, true)) := by
  obtain ⟨hkl, hke⟩ := List.getElem?_eq_some_iff.1 hk
  refine ⟨?_, fun t ht => ?_⟩
  · show _ = m.ws.map sWt
    rw [List.map_set, ← h.eq]
    have e : sSl (s.1, true) = (L.map sSl)[k]'(by simpa using hkl) := by rw [List.getElem_map, hke]; rfl
    rw [e, List.set_getElem_self]
  · obtain ⟨j, hj, rfl⟩ := List.mem_iff_getElem.1 ht
    rw [List.length_set] at hj
    rw [List.getElem_set]
    by_cases hjk : k = j
    · subst hjk
      rw [if_pos rfl]
      show true = (true && decide (s.1.2 = m.wire))
      rw [hs]; simp
    · rw [if_neg hjk]
      have hup : (L.map sSl).Pairwise (fun x y => x.2 < y.2) := by rw [h.eq, List.pairwise_map]; exact hI.up
      rw [List.pairwise_map, List.pairwise_iff_getElem] at hup
      have hne : (L[j]).1.2 ≠ m.wire := by
        rw [← hs, ← hke]
        rcases Nat.lt_or_gt_of_ne hjk with hl | hl
        · have := hup k j hkl hj hl; exact Nat.ne_of_gt this
        · have := hup j k hj hkl hl; exact Nat.ne_of_lt this
      have h1 := h.gn L[j] (List.getElem_mem hj)
      rw [decide_eq_false hne, Bool.and_false] at h1
      rw [h1]
      show false = (true && decide ((L[j]).1.2 = m.wire))
      rw [decide_eq_false hne]; rfl

theorem MsR.wireOn (h : MsR m L) (ha : m.ab = false) (N : Nat) : MsR { m with wire := N } L := ⟨h.eq, fun s hs => by have := h.gn s hs; rw [ha, Bool.false_and] at this; rw [this]; show false = (m.ab && _); rw [ha, Bool.false_and]⟩

theorem MsR.best (h : MsR m L) (h0 : m.wire = 0) {hd : Sl} {tl : List Sl} (hL : L = hd :: tl) : ∃ p, beM m = some p ∧ sSl (miS tl hd) = sWt p := by
  have e := h.eq
  rw [hL] at e
  unfold beM
  cases hw : m.ws with
  | nil => rw [hw] at e; simp at e
  | cons p l =>
    rw [hw] at e
    simp only [List.map_cons, List.cons.injEq] at e
    exact ⟨miW l p, by show (if m.wire = 0 then some (miW l p) else _) = _; rw [if_pos h0], mi_same tl l hd p e.2 e.1⟩

theorem beM_wire {p : Wt} (h0 : m.wire ≠ 0) (hf : m.ws.find? (fun q => decide (q.2 = m.wire)) = some p) : beM m = some p := by
  unfold beM
  cases hw : m.ws with
  | nil => rw [hw] at hf; cases hf
  | cons x l =>
    simp only [if_neg h0]
    rw [← hw]; exact hf
end
end Go.Proofs.Ytffbkcjkmhjfnaa
