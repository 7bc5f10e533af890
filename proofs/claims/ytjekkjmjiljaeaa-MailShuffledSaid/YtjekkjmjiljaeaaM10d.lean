/-
  Plain facts of mails whose frames have unlike keys: what is sent, by rising keys.
-/
import Derived.Test.YtjekkjmjiljaeaaM10c
namespace Go.Proofs.Ytjekkjmjiljaeaa
open Go.RowKit Go.Sort
set_option linter.unusedVariables false

theorem rm_last {N : Nat} {ws : List Wt} {x : Wt} (h : ∀ p ∈ ws, p.2 ≠ N) (hx : x.2 = N) : rmW N (ws ++ [x]) = ws := by
  induction ws with
  | nil => simp [rmW, hx]
  | cons y l ih =>
    have := h y (by simp)
    unfold rmW at ih ⊢
    rw [List.cons_append, List.eraseP_cons_of_neg (by simpa using this), ih (fun p hp => h p (by simp [hp]))]

/-- The keys of a list of frames, but one. -/
def kyL (ko : Nat) (l : List Ff) : List Nat := (l.map kF).filter (fun k => decide (k ≠ ko))
theorem kyL_snoc (ko : Nat) (l : List Ff) (f : Ff) : kyL ko (l ++ [f]) = if kF f = ko then kyL ko l else kyL ko l ++ [kF f] := by
  unfold kyL
  rw [List.map_append, List.filter_append]
  by_cases h : kF f = ko
  · rw [if_pos h]; simp [h]
  · rw [if_neg h]; simp [h]

/-- A mail into which frames were put, one of them given up. -/
structure ShuP (m : Ml) (k ko : Nat) (l : List Ff) : Prop where
  i : MlI m
  wi : m.wire = 0
  ab : m.ab = false
  rm : m.room = 40
  pu : m.puts = k
  km : m.ws.map kyW = kyL ko l
  le : m.ws.length ≤ k
theorem ShuP.new (ko : Nat) : ShuP (neM 40) 0 ko [] := ⟨neM_I 40, rfl, rfl, rfl, rfl, rfl, Nat.le_refl _⟩
theorem ShuP.put {m : Ml} {k ko : Nat} {l : List Ff} (h : ShuP m k ko l) (f : Ff) (da : Option Addr) (dc : Nat) (hf : kF f ≠ ko) : ShuP (puM f.1 da dc m) (k + 1) ko (l ++ [f]) :=
  ⟨h.i.pu _ _ _, h.wi, h.ab, h.rm, by show m.puts + 1 = _; rw [h.pu], by
    show (m.ws ++ [((f.1, (da, dc)), m.puts + 1)]).map kyW = _
    rw [List.map_append, h.km, kyL_snoc, if_neg hf]; rfl, by show (m.ws ++ [_]).length ≤ _; have := h.le; simp; omega⟩
theorem puM_no {m : Ml} (h : MlI m) : ∀ p ∈ m.ws, p.2 ≠ m.puts + 1 := fun p hp e => by have := (h.no p hp).2; omega
theorem ShuP.skip {m : Ml} {k ko : Nat} {l : List Ff} (h : ShuP m k ko l) (f : Ff) (da : Option Addr) (dc : Nat) (hf : kF f = ko) : ShuP (rmM (m.puts + 1) (puM f.1 da dc m)) (k + 1) ko (l ++ [f]) := by
  have e : (rmM (m.puts + 1) (puM f.1 da dc m)).ws = m.ws := rm_last (puM_no h.i) rfl
  refine ⟨(h.i.pu f.1 da dc).rm (by show _ ≠ m.wire; rw [h.wi]; omega), h.wi, h.ab, h.rm, by show m.puts + 1 = _; rw [h.pu], ?_, ?_⟩
  · rw [e, h.km, kyL_snoc, if_pos hf]
  · rw [e]; have := h.le; omega

/-- A mail of which some were sent: their keys rise. -/
structure SntP (m : Ml) (ks K0 : List Nat) : Prop where
  i : MlI m
  wi : m.wire = 0
  ab : m.ab = false
  srt : ks.Pairwise (fun a b => a < b)
  lt : ∀ k ∈ ks, ∀ p ∈ m.ws, k < kyW p
  nd : (m.ws.map kyW).Nodup
  mem : ∀ k, k ∈ K0 ↔ (k ∈ ks ∨ ∃ p ∈ m.ws, kyW p = k)
  len : ks.length + m.ws.length = K0.length
theorem SntP.start {m : Ml} {k ko : Nat} {l : List Ff} (h : ShuP m k ko l) (hn : (l.map kF).Nodup) : SntP m [] (kyL ko l) := by
  refine ⟨h.i, h.wi, h.ab, List.Pairwise.nil, fun k hk => (by cases hk), ?_, fun k => ?_, ?_⟩
  · rw [h.km]; exact hn.sublist List.filter_sublist
  · rw [← h.km]; simp
  · rw [← h.km]; simp
theorem num_inj {ws : List Wt} (h : ws.Pairwise (fun p q => p.2 < q.2)) {p q : Wt} (hp : p ∈ ws) (hq : q ∈ ws) (e : p.2 = q.2) : p = q := by
  induction ws with
  | nil => cases hp
  | cons x l ih =>
    rw [List.pairwise_cons] at h
    rcases List.mem_cons.1 hp with e1 | h1 <;> rcases List.mem_cons.1 hq with e2 | h2
    · rw [e1, e2]
    · have := h.1 q h2; rw [e1] at e; omega
    · have := h.1 p h1; rw [e2] at e; omega
    · exact ih h.2 h1 h2
theorem key_inj {ws : List Wt} (h : (ws.map kyW).Nodup) {p q : Wt} (hp : p ∈ ws) (hq : q ∈ ws) (e : kyW p = kyW q) : p = q := by
  induction ws with
  | nil => cases hp
  | cons x l ih =>
    rw [List.map_cons, List.nodup_cons] at h
    rcases List.mem_cons.1 hp with e1 | h1 <;> rcases List.mem_cons.1 hq with e2 | h2
    · rw [e1, e2]
    · exact absurd (List.mem_map.2 ⟨q, h2, by rw [← e, e1]⟩) h.1
    · exact absurd (List.mem_map.2 ⟨p, h1, by rw [e, e2]⟩) h.1
    · exact ih h.2 h1 h2
theorem SntP.sent {m : Ml} {ks K0 : List Nat} (h : SntP m ks K0) {p : Wt} (hp : beM m = some p) : SntP (rmM p.2 m) (ks ++ [kyW p]) K0 := by
  have hm := beM_num hp
  have hb := beM_le h.i h.wi hp
  have hn := (h.i.no p hm).1
  have hl := rm_len (n := p.2) ⟨p, hm, rfl⟩
  have hsub : List.Sublist ((rmW p.2 m.ws).map kyW) (m.ws.map kyW) := List.eraseP_sublist.map kyW
  refine ⟨h.i.rm (by rw [h.wi]; omega), h.wi, h.ab, ?_, fun k hk q hq => ?_, h.nd.sublist hsub, fun k => ?_, ?_⟩
  · rw [List.pairwise_append]
    exact ⟨h.srt, List.pairwise_singleton _ _, fun a ha b hb' => by simp at hb'; subst hb'; exact h.lt a ha p hm⟩
  · have hq' := (rm_mem h.i.up q).1 hq
    rcases List.mem_append.1 hk with hk | hk
    · exact h.lt k hk q hq'.1
    · simp at hk
      subst hk
      rcases hb q hq'.1 with e | ⟨e, _⟩
      · exact e
      · exact absurd (by rw [key_inj h.nd hm hq'.1 e]) hq'.2
  · rw [h.mem k]
    constructor
    · rintro (a | ⟨q, hq, e⟩)
      · exact .inl (by simp [a])
      · by_cases hqp : q.2 = p.2
        · have := num_inj h.i.up hq hm hqp
          subst this
          exact .inl (by simp [e])
        · exact .inr ⟨q, (rm_mem h.i.up q).2 ⟨hq, hqp⟩, e⟩
    · rintro (a | ⟨q, hq, e⟩)
      · rcases List.mem_append.1 a with a | a
        · exact .inl a
        · simp at a; exact .inr ⟨p, hm, a.symm⟩
      · exact .inr ⟨q, ((rm_mem h.i.up q).1 hq).1, e⟩
  · have := h.len
    show (ks ++ [kyW p]).length + (rmW p.2 m.ws).length = _
    simp; omega

theorem beM_wire {m : Ml} {q : Wt} (h : beM m = some q) (hw : m.wire ≠ 0) : q.2 = m.wire := by
  unfold beM at h
  cases hs : m.ws with
  | nil => rw [hs] at h; cases h
  | cons x l =>
    rw [hs] at h
    simp only [hw, if_false] at h
    have := List.find?_some h
    simpa using this
theorem beM_on {m : Ml} (hI : MlI m) {p : Wt} (hp : p ∈ m.ws) : beM { m with wire := p.2 } = some p := by
  obtain ⟨q, hq⟩ := beM_some (hI.on hp) (by show m.ws ≠ []; intro e; rw [e] at hp; cases hp)
  have h1 := beM_num hq
  have h2 := beM_wire hq (by show p.2 ≠ 0; have := (hI.no p hp).1; omega)
  rw [hq, num_inj hI.up h1 hp h2]

/-- Two rising rows of the same numbers are the same. -/
theorem rise_same : ∀ (l m : List Nat), l.Pairwise (fun a b => a < b) → m.Pairwise (fun a b => a < b) → (∀ k, k ∈ l ↔ k ∈ m) → l = m := by
  intro l
  induction l with
  | nil =>
    intro m _ _ h
    cases m with
    | nil => rfl
    | cons y m => exact absurd ((h y).2 (by simp)) (by simp)
  | cons x l ih =>
    intro m hl hm h
    cases m with
    | nil => exact absurd ((h x).1 (by simp)) (by simp)
    | cons y m =>
      rw [List.pairwise_cons] at hl hm
      have e : x = y := by
        have h1 := (h x).1 (by simp)
        have h2 := (h y).2 (by simp)
        rcases List.mem_cons.1 h1 with h1 | h1
        · exact h1
        · rcases List.mem_cons.1 h2 with h2 | h2
          · exact h2.symm
          · have := hl.1 y h2; have := hm.1 x h1; omega
      subst e
      rw [ih m hl.2 hm.2 fun k => ?_]
      have hk := h k
      simp only [List.mem_cons] at hk
      constructor
      · intro a
        have := hl.1 k a
        rcases hk.1 (.inr a) with b | b
        · omega
        · exact b
      · intro a
        have := hm.1 k a
        rcases hk.2 (.inr a) with b | b
        · omega
        · exact b
end Go.Proofs.Ytjekkjmjiljaeaa
