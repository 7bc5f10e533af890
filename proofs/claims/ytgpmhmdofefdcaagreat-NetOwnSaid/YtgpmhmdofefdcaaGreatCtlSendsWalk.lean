/-
  The walk of the statement CtlSends: for any frame it returns true, and nothing that was there has changed.
-/
import Derived.Test.YtgpmhmdofefdcaaGreatB8z
namespace Go.Proofs.YtgpmhmdofefdcaaGreat
open Go.RowKit Go.Sort
set_option linter.unusedVariables false
set_option linter.unusedSectionVars false

/-- The sender and the receiver, alone, behind so many bits. -/
def SS (F : Fr) (P i : Nat) (a b : Ct) : Prop :=
  (i = 0 ∧ a = giC F ∧ b = c0) ∨ (1 ≤ i ∧ i < P + 10 ∧ ∃ s, a = sndAt F zeC s i ∧ b = rcvAt zeC s ∧ Rd (ackL F) P i s) ∨ (i = P + 10 ∧ ∃ A B : Ct, a = phC A 7 0 false ∧ b = phC B 7 0 false ∧ A.cf = zeC ∧ B.cf = zeC ∧ A.has = false ∧ B.has = false ∧ A.give = zeroFr ∧ B.give = zeroFr)

section
variable {F : Fr} (hg : Good F) {i : Nat} {a b : Ct}
include hg

theorem ss_ok (hi : i < (putL (boL F)).length + 10) (h : SS F (putL (boL F)).length i a b) : StepOK a ∧ StepOK b := by
  rcases h with ⟨_, rfl, rfl⟩ | ⟨h1, h2, s, rfl, rfl, hr⟩ | ⟨h1, _⟩
  · exact ⟨ok_gi hg, ok_c0⟩
  · exact ⟨ok_snd hg (by decide) h1 h2 hr (rd_len hg h1 h2 hr), ok_rcv hg (fun e => by cases e) (by simp [zeroFr]) (by decide) h2 hr⟩
  · omega

theorem ss_drive (hi : i < (putL (boL F)).length + 10) (h : SS F (putL (boL F)).length i a b) {x y : Bool} (hx : (ackL F)[i]? = some x) (hy : (wiL F)[i]? = some y) :
    dvC a = y ∧ dvC b = !decide (i = (putL (boL F)).length + 1) ∧ x = (y && !decide (i = (putL (boL F)).length + 1)) := by
  rcases h with ⟨rfl, rfl, rfl⟩ | ⟨h1, h2, s, rfl, rfl, hr⟩ | ⟨h1, _⟩
  · rw [wi_first] at hy; rw [ack_first] at hx
    cases hy; cases hx
    refine ⟨rfl, ?_, rfl⟩
    rw [decide_eq_false (by omega)]; rfl
  · obtain ⟨d1, d2, d3, _⟩ := sends_step hg h1 h2 hr hx zeC false zeroFr
    rw [hy] at d1 d3
    exact ⟨d1, d2, d3⟩
  · omega

theorem ss_step (hi : i < (putL (boL F)).length + 10) (h : SS F (putL (boL F)).length i a b) {x : Bool} (hx : (ackL F)[i]? = some x) :
    SS F (putL (boL F)).length (i + 1) (stC a x).1 (stC b x).1 ∧ (stC a x).2 = (if i = (putL (boL F)).length + 9 then (1, F) else noH) ∧ (stC b x).2 = (if i = (putL (boL F)).length + 8 then (2, F) else noH) := by
  have hP := P_pos F
  rcases h with ⟨rfl, rfl, rfl⟩ | ⟨h1, h2, s, rfl, rfl, hr⟩ | ⟨h1, _⟩
  · rw [ack_first] at hx
    cases hx
    rw [(sends_begin F).1, (sends_begin F).2, if_neg (by omega), if_neg (by omega)]
    exact ⟨.inr (.inl ⟨by omega, by omega, _, rfl, rfl, rd_one hg⟩), rfl, rfl⟩
  · obtain ⟨_, _, _, d4, d5, d6⟩ := sends_step hg h1 h2 hr hx zeC false zeroFr
    by_cases e9 : i = (putL (boL F)).length + 9
    · rw [if_neg (show ¬ i + 1 < (putL (boL F)).length + 10 by omega)] at d4
      rw [if_neg (show ¬ i = (putL (boL F)).length + 8 by omega), if_pos e9] at d5
      rw [d4, d5]
      exact ⟨.inr (.inr ⟨by omega, { sndAt F (evC zeC 8) s i with has := false, give := zeroFr }, rcvAt zeC s, rfl, rfl, ev_naught.1, rfl, rfl, rfl, rfl, rfl⟩), (if_pos e9).symm, (if_neg (show ¬ i = (putL (boL F)).length + 8 by omega)).symm⟩
    · rw [if_pos (show i + 1 < (putL (boL F)).length + 10 by omega)] at d4
      by_cases e8 : i = (putL (boL F)).length + 8
      · rw [if_pos e8, ev_naught.2] at d5
        rw [d4, d5]
        exact ⟨.inr (.inl ⟨by omega, by omega, _, rfl, rfl, d6⟩), (if_neg e9).symm, (if_pos e8).symm⟩
      · rw [if_neg e8, if_neg e9] at d5
        rw [d4, d5]
        exact ⟨.inr (.inl ⟨by omega, by omega, _, rfl, rfl, d6⟩), (if_neg e9).symm, (if_neg e8).symm⟩
  · omega

theorem ss_end (h : SS F (putL (boL F)).length ((putL (boL F)).length + 10) a b) : ∃ A B : Ct, a = phC A 7 0 false ∧ b = phC B 7 0 false ∧ A.cf = zeC ∧ B.cf = zeC ∧ A.has = false ∧ B.has = false ∧ A.give = zeroFr ∧ B.give = zeroFr := by
  rcases h with ⟨h, _⟩ | ⟨_, h, _⟩ | ⟨_, h⟩
  · omega
  · omega
  · exact h
end

/-- Between frames, behind so many recessive bits. -/
def btC (A : Ct) (j : Nat) : Ct := if j < 3 then phC A 7 j false else phC A 0 0 false
theorem bt_step {A : Ct} (h : A.cf = zeC) {j : Nat} (hj : j < 3) : (stC (btC A j) true).1 = btC A (j + 1) := by
  have hh : holdC A = false := by unfold holdC; rw [h]; simp [show moC zeC = 0 by decide]
  match j, hj with
  | 0, _ => rfl
  | 1, _ => rfl
  | 2, _ =>
    show phC A (if holdC A = true then 8 else 0) 0 false = _
    rw [hh]; rfl
theorem bt_ok {A : Ct} (h : A.cf = zeC) (h2 : A.has = false) (h3 : A.give = zeroFr) {j : Nat} (hj : j < 3) : StepOK (btC A j) := by
  unfold btC
  rw [if_pos hj]
  exact ok_ph (fun _ => by rw [h]; decide) (by omega) (by omega) (by omega) (fun e => by rw [h2] at e; cases e) (by rw [h3]; simp [zeroFr])

theorem ol_setRow {α : Type} {f : α → Value} {E : TypeId} {B : Nat} {w : World} {a : Option Addr} {n k : Nat} {l : List α} (h : OL f E B w a n k l) {p : Nat} (hp : p < B) (cs : Array Value) : OL f E B (w.setRow p cs) a n k l :=
  h.kept fun q hq => setRow_other _ _ _ _ (by have := (h.ltB hq).2; dsimp only at this; omega)

end Go.Proofs.YtgpmhmdofefdcaaGreat
