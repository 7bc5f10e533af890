/-
  Plain facts of mails: the best one; what is sent goes by rising keys.
-/
import Derived.Test.YtjekkjmjiljaeaaM10b
namespace Go.Proofs.Ytjekkjmjiljaeaa
open Go.RowKit Go.Sort
set_option linter.unusedVariables false

/-- One is not behind another one. -/
def leW (p q : Wt) : Prop := kyW p < kyW q ∨ (kyW p = kyW q ∧ p.2 ≤ q.2)
theorem miW_le : ∀ (l : List Wt) (b : Wt), (∀ q ∈ l, b.2 < q.2) → l.Pairwise (fun p q => p.2 < q.2) → leW (miW l b) b ∧ ∀ q ∈ l, leW (miW l b) q := by
  intro l
  induction l with
  | nil => intro b _ _; exact ⟨.inr ⟨rfl, Nat.le_refl _⟩, fun q hq => by cases hq⟩
  | cons x l ih =>
    intro b hb hl
    rw [List.pairwise_cons] at hl
    unfold miW
    by_cases hx : kyW x < kyW b
    · rw [if_pos hx]
      obtain ⟨h1, h2⟩ := ih x hl.1 hl.2
      refine ⟨?_, fun q hq => ?_⟩
      · unfold leW at h1 ⊢; omega
      · rcases List.mem_cons.1 hq with rfl | hq
        · exact h1
        · exact h2 q hq
    · rw [if_neg hx]
      obtain ⟨h1, h2⟩ := ih b (fun q hq => hb q (by simp [hq])) hl.2
      refine ⟨h1, fun q hq => ?_⟩
      rcases List.mem_cons.1 hq with rfl | hq
      · have := hb q (by simp)
        unfold leW at h1 ⊢; omega
      · exact h2 q hq
theorem beM_le {m : Ml} (hi : MlI m) (hw : m.wire = 0) {p : Wt} (h : beM m = some p) : ∀ q ∈ m.ws, leW p q := by
  unfold beM at h
  cases hs : m.ws with
  | nil => rw [hs] at h; cases h
  | cons x l =>
    rw [hs] at h
    simp only [hw, if_true, Option.some.injEq] at h
    have hu := hi.up
    rw [hs, List.pairwise_cons] at hu
    obtain ⟨h1, h2⟩ := miW_le l x hu.1 hu.2
    rw [h] at h1 h2
    intro q hq
    rcases List.mem_cons.1 hq with rfl | hq
    · exact h1
    · exact h2 q hq

def kF (q : Ff) : Nat := keyF q.1.id q.1.ext q.1.rem

/-- What was put is in a list, by its number. -/
structure InsM (m : Ml) (ins : List Ff) : Prop where
  len : ins.length = m.puts
  fr : ∀ p ∈ m.ws, ∃ q, ins[p.2 - 1]? = some q ∧ q.1 = p.1.1
theorem InsM.put {m : Ml} {ins : List Ff} (h : InsM m ins) (hI : MlI m) (F : Fr) (da : Option Addr) (dc : Nat) (fa : Option Addr) (fc : Nat) : InsM (puM F da dc m) (ins ++ [(F, (fa, fc))]) := by
  refine ⟨by simp [puM, h.len], fun p hp => ?_⟩
  rcases List.mem_append.1 hp with hp | hp
  · obtain ⟨q, h1, h2⟩ := h.fr p hp
    exact ⟨q, by rw [List.getElem?_append_left (List.getElem?_eq_some_iff.1 h1).1]; exact h1, h2⟩
  · simp at hp
    subst hp
    refine ⟨(F, (fa, fc)), ?_, rfl⟩
    show (ins ++ [(F, (fa, fc))])[m.puts + 1 - 1]? = _
    rw [Nat.add_sub_cancel, ← h.len]
    simp

/-- A mail of which some were sent. -/
structure OrdS (m : Ml) (P : Nat) (ins : List Ff) (ts : List Int) (last : Nat) : Prop where
  i : MlI m
  wi : m.wire = 0
  ab : m.ab = false
  pu : m.puts = P
  le : m.ws.length + ts.length = P
  has : ∀ n, 1 ≤ n → n ≤ P → (hasN n m.ws ↔ (n : Int) ∉ ts)
  fr : ∀ p ∈ m.ws, ∃ q, ins[p.2 - 1]? = some q ∧ q.1 = p.1.1
  la : last = 0 ∨ (1 ≤ last ∧ last ≤ P ∧ ∃ q, ins[last - 1]? = some q ∧ ∀ p ∈ m.ws, kF q < kyW p ∨ (kF q = kyW p ∧ last < p.2))
theorem OrdS.start {m : Ml} {room : Nat} {ins : List Ff} (h : PutsM m room) (hi : InsM m ins) : OrdS m m.puts ins [] 0 :=
  ⟨h.i, h.wi, h.ab, rfl, h.le, fun n h1 h2 => by simpa using h.all n h1 h2, hi.fr, .inl rfl⟩
theorem OrdS.sent {m : Ml} {P : Nat} {ins : List Ff} {ts : List Int} {last : Nat} (h : OrdS m P ins ts last) {p : Wt} (hp : beM m = some p) : OrdS (rmM p.2 m) P ins (ts ++ [(p.2 : Int)]) p.2 := by
  have hm := beM_num hp
  have hb := beM_le h.i h.wi hp
  have hn := h.i.no p hm
  have hl := rm_len (n := p.2) ⟨p, hm, rfl⟩
  have hpu := h.pu
  refine ⟨h.i.rm (by rw [h.wi]; omega), h.wi, h.ab, h.pu, ?_, fun n h1 h2 => ?_, fun q hq => h.fr q (rm_sub q hq), .inr ⟨hn.1, by omega, ?_⟩⟩
  · have := h.le
    show (rmW p.2 m.ws).length + _ = P
    simp; omega
  · show hasN n (rmW p.2 m.ws) ↔ _
    rw [hasN_rm h.i.up, h.has n h1 h2]
    simp only [List.mem_append, List.mem_singleton, not_or]
    constructor
    · rintro ⟨a, b⟩; exact ⟨a, by omega⟩
    · rintro ⟨a, b⟩; exact ⟨a, by omega⟩
  · obtain ⟨q, h1, h2⟩ := h.fr p hm
    refine ⟨q, h1, fun p' hp' => ?_⟩
    obtain ⟨h3, h4⟩ := (rm_mem h.i.up p').1 hp'
    have h5 := hb p' h3
    have h6 : kF q = kyW p := by unfold kF kyW; rw [h2]
    rw [h6]
    unfold leW at h5
    omega
theorem frM_on {m : Ml} (hw : m.wire = 0) (ha : m.ab = false) (n : Nat) : frM { m with wire := n } = m := by
  cases m; simp only at hw ha; subst hw; subst ha; rfl
theorem loM_on {m : Ml} (hw : m.wire = 0) (ha : m.ab = false) (n : Nat) : loM { m with wire := n } = m := by
  unfold loM; rw [show ({ m with wire := n } : Ml).ab = false from ha]; exact frM_on hw ha n
theorem seM_on {m : Ml} (hw : m.wire = 0) (ha : m.ab = false) {n : Nat} (hn : n ≠ 0) : seM { m with wire := n } = rmM n m := by
  unfold seM
  rw [if_neg (show ({ m with wire := n } : Ml).wire ≠ 0 from hn)]
  cases m; simp only at hw ha; subst hw; subst ha; rfl
end Go.Proofs.Ytjekkjmjiljaeaa
