/-
  Plain mathematics of CtlTwo: two that begin at once, the one that loses, and what each does behind.
  Plain mathematics of CtlTwins: two unlike frames of one identifier and kind, whose senders fail one behind the other, and are idle at the same bit.
-/
import Derived.Test.YtgpmhmdofefdcaaGreatB1
import Derived.Test.YtgpmhmdofefdcaaGreatCtlSendsWalk
namespace Go.Proofs.YtgpmhmdofefdcaaGreat
set_option linter.unusedVariables false
set_option linter.unusedSectionVars false

theorem put_less {p : List Bool} (h : 1 ≤ p.length) : 4 * (putL p).length + 1 ≤ 5 * p.length := by
  cases p with
  | nil => simp at h
  | cons x t =>
    have e : putL (x :: t) = x :: putF x 1 t := by unfold putL; rw [putF]; cases x <;> rfl
    have := (putF_len t x 1 (by omega)).2
    rw [e]; simp only [List.length_cons]; omega

theorem bt_step2 {A : Ct} (h : A.cf = zeC) {j : Nat} (hj : j < 3) : stC (btC A j) true = (btC A (j + 1), noH) := by
  have hh : holdC A = false := by unfold holdC; rw [h]; simp [show moC zeC = 0 by decide]
  match j, hj with
  | 0, _ => rfl
  | 1, _ => rfl
  | 2, _ =>
    show (phC A (if holdC A = true then 8 else 0) 0 false, noH) = _
    rw [hh]; rfl
theorem bt_drive {A : Ct} {j : Nat} (hj : j < 3) : dvC (btC A j) = true := by
  unfold btC; rw [if_pos hj]; rfl
theorem bt_ok2 {A : Ct} (h : A.cf = zeC) (h2 : A.has = true → Good A.give) (h3 : A.give.data.length ≤ 1000000) {j : Nat} : StepOK (btC A j) := by
  unfold btC
  split
  · exact ok_ph (fun _ => by rw [h]; decide) (by omega) (by omega) (by omega) h2 h3
  · exact ok_ph (fun _ => by rw [h]; decide) (by omega) (by omega) (by omega) h2 h3

/-- The two, behind so many bits. -/
def TW (F G : Fr) (P Q d i : Nat) (a b : Ct) : Prop :=
  (i = 0 ∧ a = giC F ∧ b = giC G) ∨
  (1 ≤ i ∧ i ≤ d ∧ ∃ s, a = sndAt F zeC s i ∧ b = sndAt G zeC s i ∧ Rd (ackL F) P i s ∧ Rd (ackL G) Q i s) ∨
  (d < i ∧ i < P + 10 ∧ ∃ s, a = sndAt F zeC s i ∧ b = rcvH true G zeC s ∧ Rd (ackL F) P i s) ∨
  (P + 10 ≤ i ∧ i ≤ P + 13 ∧ ∃ A B : Ct, a = btC A (i - (P + 10)) ∧ b = btC B (i - (P + 10)) ∧ A.cf = zeC ∧ B.cf = zeC ∧ A.has = false ∧ A.give = zeroFr ∧ B.has = true ∧ B.give = G) ∨
  (P + 14 ≤ i ∧ i < P + 13 + (Q + 10) ∧ ∃ s, a = rcvAt zeC s ∧ b = sndAt G zeC s (i - (P + 13)) ∧ Rd (ackL G) Q (i - (P + 13)) s) ∨
  i = P + 13 + (Q + 10)

/-- Two frames of which the first one goes on. -/
structure Pair (F G : Fr) (P Q d : Nat) : Prop where
  f : Good F
  g : Good G
  hP : P = (putL (boL F)).length
  hQ : Q = (putL (boL G)).length
  sp : ∃ p r1 r2, boL F = p ++ false :: r1 ∧ boL G = p ++ true :: r2 ∧ 1 ≤ p.length ∧ (p.length ≤ if G.ext then 32 else 12) ∧ d = (putL p).length

theorem Pair.mk' {F G : Fr} (hf : Good F) (hg : Good G) (h : bfL (conL F.id F.ext F.rem) (conL G.id G.ext G.rem) = true) : ∃ d, Pair F G (putL (boL F)).length (putL (boL G)).length d := by
  obtain ⟨p, r1, r2, e1, e2, e3, e4⟩ := contest_split h
  exact ⟨_, hf, hg, rfl, rfl, p, r1, r2, e1, e2, e3, e4, rfl⟩

section
variable {F G : Fr} {P Q d : Nat} (h : Pair F G P Q d)
include h

theorem Pair.bd : 1 ≤ d ∧ d < 40 ∧ d < P ∧ d < Q ∧ 34 ≤ P ∧ 34 ≤ Q ∧ P ≤ 150 ∧ Q ≤ 150 := by
  obtain ⟨hf, hg, rfl, rfl, p, r1, r2, e1, e2, e3, e4, rfl⟩ := h
  have k1 := put_less e3
  have k2 := (putL_len p).1
  have e5 : p.length ≤ 32 := by split at e4 <;> omega
  exact ⟨by omega, by omega, (wi_split e1).1, (wi_split e2).1, P_pos F, P_pos G, P_top hf, P_top hg⟩

theorem tw_ok {i : Nat} {a b : Ct} (hi : i < P + 13 + (Q + 10)) (hT : TW F G P Q d i a b) : StepOK a ∧ StepOK b := by
  have hb := h.bd
  obtain ⟨hf, hg, rfl, rfl, _⟩ := h
  have lg := good_len hg
  have lf := good_len hf
  have zl : (zeroFr.data.length) ≤ 1000000 := by simp [zeroFr]
  rcases hT with ⟨_, rfl, rfl⟩ | ⟨h1, h2, s, rfl, rfl, r1, r2⟩ | ⟨h1, h2, s, rfl, rfl, r1⟩ | ⟨h1, h2, A, B, rfl, rfl, e1, e2, e3, e4, e5, e6⟩ | ⟨h1, h2, s, rfl, rfl, r1⟩ | h1
  · exact ⟨ok_gi hf, ok_gi hg⟩
  · exact ⟨ok_snd hf (by decide) h1 (by omega) r1 (rd_len hf h1 (by omega) r1), ok_snd hg (by decide) h1 (by omega) r2 (rd_len hg h1 (by omega) r2)⟩
  · exact ⟨ok_snd hf (by decide) (by omega) h2 r1 (rd_len hf (by omega) h2 r1), ok_rcv hf (fun _ => hg) (by omega) (by decide) h2 r1⟩
  · exact ⟨bt_ok2 e1 (fun k => by rw [e3] at k; cases k) (by rw [e4]; exact zl), bt_ok2 e2 (fun _ => by rw [e6]; exact hg) (by rw [e6]; omega)⟩
  · exact ⟨ok_rcv hg (fun e => by cases e) zl (by decide) (by omega) r1, ok_snd hg (by decide) (by omega) (by omega) r1 (rd_len hg (by omega) (by omega) r1)⟩
  · omega

theorem tw_step {i : Nat} {a b : Ct} (hi : i < P + 13 + (Q + 10)) (hT : TW F G P Q d i a b) :
    TW F G P Q d (i + 1) (stC a (dvC a && dvC b)).1 (stC b (dvC a && dvC b)).1 ∧
    (stC a (dvC a && dvC b)).2 = (if i = P + 9 then (1, F) else if i = P + 13 + (Q + 8) then (2, G) else noH) ∧
    (stC b (dvC a && dvC b)).2 = (if i = d then (3, zeroFr) else if i = P + 8 then (2, F) else if i = P + 13 + (Q + 9) then (1, G) else noH) ∧
    (i < P + 10 → (dvC a && dvC b) = (((wiL F)[i]?.getD false) && !decide (i = P + 1))) := by
  have hb := h.bd
  obtain ⟨hf, hg, rfl, rfl, p, r1, r2, e1, e2, e3, e4, rfl⟩ := h
  obtain ⟨aF1, aF2⟩ := ack_split e1
  obtain ⟨aG1, aG2⟩ := ack_split e2
  rcases hT with ⟨rfl, rfl, rfl⟩ | ⟨h1, h2, s, rfl, rfl, q1, q2⟩ | ⟨h1, h2, s, rfl, rfl, q1⟩ | ⟨h1, h2, A, B, rfl, rfl, k1, k2, k3, k4, k5, k6⟩ | ⟨h1, h2, s, rfl, rfl, q1⟩ | h1
  · have hd : (dvC (giC F) && dvC (giC G)) = false := rfl
    rw [hd, (sends_begin F).1, (sends_begin G).1, if_neg (by omega), if_neg (by omega), if_neg (by omega), if_neg (by omega), if_neg (by omega)]
    exact ⟨.inr (.inl ⟨by omega, by omega, _, rfl, rfl, rd_one hf, rd_one hg⟩), rfl, rfl, fun _ => by rw [wi_first]; rfl⟩
  · by_cases hid : i = (putL p).length
    · subst hid
      obtain ⟨d1, d2, d3, d4, _, d6⟩ := sends_step hf h1 (by omega) q1 aF2 zeC true G
      obtain ⟨d1', _⟩ := sends_step hg h1 (by omega) q2 aG2 zeC false zeroFr
      have hx : (dvC (sndAt F zeC s (putL p).length) && dvC (sndAt G zeC s (putL p).length)) = false := by rw [d1, (wi_split e1).2.2]; rfl
      rw [hx, lost_step hg e2 q2 e3 e4 zeC, d4, if_pos (by omega), if_neg (by omega), if_neg (by omega), if_pos rfl]
      exact ⟨.inr (.inr (.inl ⟨by omega, by omega, _, rfl, rfl, d6⟩)), rfl, rfl, fun _ => by rw [(wi_split e1).2.2]; rfl⟩
    · obtain ⟨x, hx⟩ : ∃ x, (putL p)[i]? = some x := ⟨(putL p)[i]'(by omega), by simp⟩
      have xF : (ackL F)[i]? = some x := by rw [← hx, ← aF1, List.getElem?_take, if_pos (by omega)]
      have xG : (ackL G)[i]? = some x := by rw [← hx, ← aG1, List.getElem?_take, if_pos (by omega)]
      obtain ⟨d1, d2, d3, d4, _, d6⟩ := sends_step hf h1 (by omega) q1 xF zeC true G
      obtain ⟨f1, f2, f3, f4, _, f6⟩ := sends_step hg h1 (by omega) q2 xG zeC false zeroFr
      rw [decide_eq_false (by omega)] at d3 f3
      simp only [Bool.not_false, Bool.and_true] at d3 f3
      have hd : (dvC (sndAt F zeC s i) && dvC (sndAt G zeC s i)) = x := by rw [d1, f1, ← d3, ← f3]; simp
      rw [hd, d4, f4, if_pos (by omega), if_pos (by omega), if_neg (by omega), if_neg (by omega), if_neg hid, if_neg (by omega), if_neg (by omega)]
      exact ⟨.inr (.inl ⟨by omega, by omega, _, rfl, rfl, d6, f6⟩), rfl, rfl, fun _ => by rw [decide_eq_false (by omega), ← d3]; simp⟩
  · obtain ⟨x, hx⟩ : ∃ x, (ackL F)[i]? = some x := ⟨(ackL F)[i]'(by unfold ackL; rw [List.length_set, wiL_length]; omega), by simp⟩
    obtain ⟨d1, d2, d3, d4, d5, d6⟩ := sends_step hf (by omega) h2 q1 hx zeC true G
    have hd : (dvC (sndAt F zeC s i) && dvC (rcvH true G zeC s)) = x := by rw [d1, d2, ← d3]
    rw [hd]
    by_cases e9 : i = (putL (boL F)).length + 9
    · rw [if_neg (show ¬ i + 1 < (putL (boL F)).length + 10 by omega)] at d4
      rw [if_neg (show ¬ i = (putL (boL F)).length + 8 by omega), if_pos e9] at d5
      rw [d4, d5, if_pos e9, if_neg (by omega), if_neg (by omega), if_neg (by omega)]
      refine ⟨.inr (.inr (.inr (.inl ⟨by omega, by omega, { sndAt F (evC zeC 8) s i with has := false, give := zeroFr }, rcvH true G zeC s, ?_, ?_, ev_naught.1, rfl, rfl, rfl, rfl, rfl⟩))), rfl, rfl, fun _ => d3⟩
      · rw [show i + 1 - ((putL (boL F)).length + 10) = 0 by omega]; rfl
      · rw [show i + 1 - ((putL (boL F)).length + 10) = 0 by omega]; rfl
    · rw [if_pos (show i + 1 < (putL (boL F)).length + 10 by omega)] at d4
      by_cases e8 : i = (putL (boL F)).length + 8
      · rw [if_pos e8, ev_naught.2] at d5
        rw [d4, d5, if_neg e9, if_neg (by omega), if_neg (by omega), if_pos e8]
        exact ⟨.inr (.inr (.inl ⟨by omega, by omega, _, rfl, rfl, d6⟩)), rfl, rfl, fun _ => d3⟩
      · rw [if_neg e8, if_neg e9] at d5
        rw [d4, d5, if_neg e9, if_neg (by omega), if_neg (by omega), if_neg e8, if_neg (by omega)]
        exact ⟨.inr (.inr (.inl ⟨by omega, by omega, _, rfl, rfl, d6⟩)), rfl, rfl, fun _ => d3⟩
  · by_cases e3' : i = (putL (boL F)).length + 13
    · subst e3'
      rw [show (putL (boL F)).length + 13 - ((putL (boL F)).length + 10) = 3 by omega]
      have hd : (dvC (btC A 3) && dvC (btC B 3)) = false := by
        show ((!A.has) && (!B.has)) = false
        rw [k5]; simp
      have ha : stC (btC A 3) false = (rcvAt zeC (nxT s0 false).1, noH) := by
        show (begC (phC A 0 0 false) A.has, noH) = _
        rw [k3]
        show ((⟨1, 0, A.cf, A.has, A.give, false, false, [], 0, (nxT s0 false).1, false, 0, false, false⟩ : Ct), noH) = _
        rw [k1, k3, k4]; rfl
      have hb2 : stC (btC B 3) false = (sndAt G zeC (nxT s0 false).1 1, noH) := by
        show (begC (phC B 0 0 false) B.has, noH) = _
        rw [k5]
        show ((⟨1, 0, B.cf, B.has, B.give, true, true, wiL B.give, 1, (nxT s0 false).1, false, 0, false, false⟩ : Ct), noH) = _
        rw [k2, k5, k6]; rfl
      rw [hd, ha, hb2, if_neg (by omega), if_neg (by omega), if_neg (by omega), if_neg (by omega), if_neg (by omega)]
      refine ⟨.inr (.inr (.inr (.inr (.inl ⟨by omega, by omega, (nxT s0 false).1, rfl, ?_, ?_⟩)))), rfl, rfl, fun k => absurd k (by omega)⟩
      · rw [show (putL (boL F)).length + 13 + 1 - ((putL (boL F)).length + 13) = 1 by omega]
      · rw [show (putL (boL F)).length + 13 + 1 - ((putL (boL F)).length + 13) = 1 by omega]; exact rd_one hg
    · have hj : i - ((putL (boL F)).length + 10) < 3 := by omega
      have hd : (dvC (btC A (i - ((putL (boL F)).length + 10))) && dvC (btC B (i - ((putL (boL F)).length + 10)))) = true := by rw [bt_drive hj, bt_drive hj]; rfl
      rw [hd, bt_step2 k1 hj, bt_step2 k2 hj, if_neg (by omega), if_neg (by omega), if_neg (by omega), if_neg (by omega), if_neg (by omega)]
      refine ⟨.inr (.inr (.inr (.inl ⟨by omega, by omega, A, B, ?_, ?_, k1, k2, k3, k4, k5, k6⟩))), rfl, rfl, fun k => absurd k (by omega)⟩
      · rw [show i + 1 - ((putL (boL F)).length + 10) = i - ((putL (boL F)).length + 10) + 1 by omega]
      · rw [show i + 1 - ((putL (boL F)).length + 10) = i - ((putL (boL F)).length + 10) + 1 by omega]
  · obtain ⟨j, hj⟩ : ∃ j, j = i - ((putL (boL F)).length + 13) := ⟨_, rfl⟩
    rw [← hj] at q1 ⊢
    have hij : i = (putL (boL F)).length + 13 + j := by omega
    obtain ⟨x, hx⟩ : ∃ x, (ackL G)[j]? = some x := ⟨(ackL G)[j]'(by unfold ackL; rw [List.length_set, wiL_length]; omega), by simp⟩
    obtain ⟨d1, d2, d3, d4, d5, d6⟩ := sends_step hg (by omega) (by omega) q1 hx zeC false zeroFr
    have hd : (dvC (rcvAt zeC s) && dvC (sndAt G zeC s j)) = x := by rw [d1, d2, Bool.and_comm, ← d3]
    rw [hd]
    by_cases e9 : j = (putL (boL G)).length + 9
    · rw [if_neg (show ¬ j + 1 < (putL (boL G)).length + 10 by omega)] at d4
      rw [if_neg (show ¬ j = (putL (boL G)).length + 8 by omega), if_pos e9] at d5
      rw [d4, d5, if_neg (by omega), if_neg (by omega), if_neg (by omega), if_neg (by omega), if_pos (by omega)]
      exact ⟨.inr (.inr (.inr (.inr (.inr (by omega))))), rfl, rfl, fun k => absurd k (by omega)⟩
    · rw [if_pos (show j + 1 < (putL (boL G)).length + 10 by omega)] at d4
      have hn : i + 1 - ((putL (boL F)).length + 13) = j + 1 := by omega
      by_cases e8 : j = (putL (boL G)).length + 8
      · rw [if_pos e8, ev_naught.2] at d5
        rw [d4, d5, if_neg (by omega), if_pos (by omega), if_neg (by omega), if_neg (by omega), if_neg (by omega)]
        exact ⟨.inr (.inr (.inr (.inr (.inl ⟨by omega, by omega, _, rfl, by rw [hn], by rw [hn]; exact d6⟩)))), rfl, rfl, fun k => absurd k (by omega)⟩
      · rw [if_neg e8, if_neg e9] at d5
        rw [d4, d5, if_neg (by omega), if_neg (by omega), if_neg (by omega), if_neg (by omega), if_neg (by omega)]
        exact ⟨.inr (.inr (.inr (.inr (.inl ⟨by omega, by omega, _, rfl, by rw [hn], by rw [hn]; exact d6⟩)))), rfl, rfl, fun k => absurd k (by omega)⟩
  · omega
end
end Go.Proofs.YtgpmhmdofefdcaaGreat

namespace Go.Proofs.YtgpmhmdofefdcaaGreat
set_option linter.unusedVariables false
set_option linter.unusedSectionVars false

/-- What is kept of a sender that failed. -/
def kC (F : Fr) : Ct := sndAt F (cfT 8) s0 0

/-- A drives recessive where the two part, B dominant; B drives recessive anew at bit e. -/
structure Twin (A B : Fr) (PB d e : Nat) : Prop where
  a : Good A
  b : Good B
  hP : PB = (putL (boL B)).length
  ex : A.ext = B.ext
  sp : ∃ p r1 r2, boL A = p ++ true :: r1 ∧ boL B = p ++ false :: r2 ∧ (if A.ext then 32 else 12) < p.length ∧ d = (putL p).length
  de : d < e ∧ e ≤ d + 5 ∧ e ≤ PB ∧ (wiL B)[e]? = some true ∧ ∀ i, d ≤ i → i < e → (wiL B)[i]? = some false

theorem Twin.mk' {A B : Fr} (hA : Good A) (hB : Good B) (h2 : A.ext = B.ext) {p r1 r2 : List Bool} (e1 : boL A = p ++ true :: r1) (e2 : boL B = p ++ false :: r2) (hp : (if A.ext then 32 else 12) < p.length) :
    ∃ e, Twin A B (putL (boL B)).length (putL p).length e := by
  obtain ⟨w1, _, w3⟩ := wi_split e2
  obtain ⟨e, c1, c2, c3, c4, c5⟩ := soon_rec w1 w3
  exact ⟨e, hA, hB, rfl, h2, ⟨p, r1, r2, e1, e2, hp, rfl⟩, c1, c2, c3, c4, c5⟩

/-- The two, behind so many bits. -/
def TN (A B : Fr) (PB d e i : Nat) (a b : Ct) : Prop :=
  (i = 0 ∧ a = giC A ∧ b = giC B) ∨
  (1 ≤ i ∧ i ≤ d ∧ ∃ s, a = sndAt A zeC s i ∧ b = sndAt B zeC s i ∧ Rd (ackL A) (putL (boL A)).length i s ∧ Rd (ackL B) PB i s) ∨
  (d < i ∧ i ≤ e ∧ a = flSt (kC A) 2 true (i - d - 1) ∧ ∃ s, b = sndAt B zeC s i ∧ Rd (ackL B) PB i s) ∨
  (e < i ∧ i ≤ d + 7 ∧ a = flSt (kC A) 2 true (i - d - 1) ∧ b = flSt (kC B) 2 true (i - e - 1)) ∨
  (d + 7 < i ∧ i ≤ e + 7 ∧ a = phC (kC A) 5 (i - d - 7) true ∧ b = flSt (kC B) 2 true (i - e - 1)) ∨
  (e + 8 ≤ i ∧ i ≤ e + 17 ∧ a = flSt (kC A) 2 true (i - e - 1) ∧ b = flSt (kC B) 2 true (i - e - 1)) ∨
  (i = e + 18 ∧ a = phC (kC A) 0 0 true ∧ b = phC (kC B) 0 0 true)

section
variable {A B : Fr} {PB d e : Nat} (h : Twin A B PB d e)
include h

theorem Twin.bd : 12 ≤ d ∧ d < e ∧ e ≤ d + 5 ∧ d < (putL (boL A)).length ∧ d < PB ∧ e ≤ PB ∧ PB ≤ 150 ∧ (putL (boL A)).length ≤ 150 := by
  obtain ⟨hA, hB, rfl, hx, ⟨p, r1, r2, e1, e2, e3, rfl⟩, h1, h2, h3, _, _⟩ := h
  have k2 := (putL_len p).1
  have : 12 < p.length := by split at e3 <;> omega
  exact ⟨by omega, h1, h2, (wi_split e1).1, (wi_split e2).1, h3, P_top hB, P_top hA⟩

theorem tn_ok {i : Nat} {a b : Ct} (hi : i ≤ e + 17) (hT : TN A B PB d e i a b) : StepOK a ∧ StepOK b := by
  obtain ⟨b1, b2, b3, b4, b5, b6, _, _⟩ := h.bd
  have hm : moC (cfT 8) ≤ 1 := by rw [mo_8]; omega
  have la := good_len h.a
  have lb := good_len h.b
  obtain ⟨hA, hB, rfl, hx, _, _⟩ := h
  have fA : ∀ j, j ≤ 16 → StepOK (flSt (kC A) 2 true j) := fun j hj => ok_fl hm (fun _ => hA) (by show A.data.length ≤ _; omega) (.inl rfl) true hj
  have fB : ∀ j, j ≤ 16 → StepOK (flSt (kC B) 2 true j) := fun j hj => ok_fl hm (fun _ => hB) (by show B.data.length ≤ _; omega) (.inl rfl) true hj
  rcases hT with ⟨_, rfl, rfl⟩ | ⟨h1, h2, s, rfl, rfl, r1, r2⟩ | ⟨h1, h2, rfl, s, rfl, r2⟩ | ⟨h1, h2, rfl, rfl⟩ | ⟨h1, h2, rfl, rfl⟩ | ⟨h1, h2, rfl, rfl⟩ | ⟨h1, _⟩
  · exact ⟨ok_gi hA, ok_gi hB⟩
  · exact ⟨ok_snd hA (by decide) h1 (by omega) r1 (rd_len hA h1 (by omega) r1), ok_snd hB (by decide) h1 (by omega) r2 (rd_len hB h1 (by omega) r2)⟩
  · exact ⟨fA _ (by omega), ok_snd hB (by decide) (by omega) (by omega) r2 (rd_len hB (by omega) (by omega) r2)⟩
  · exact ⟨fA _ (by omega), fB _ (by omega)⟩
  · exact ⟨ok_ph (fun _ => hm) (by omega) (by omega) (by omega) (fun _ => hA) (by show A.data.length ≤ _; omega), fB _ (by omega)⟩
  · exact ⟨fA _ (by omega), fB _ (by omega)⟩
  · omega

omit h in
theorem fl_ph (c : Ct) {j : Nat} (hj : j ≤ 16) : (flSt c 2 true j).ph ≠ 0 := by
  unfold flSt
  split
  · show (2 : Nat) ≠ 0; omega
  split
  · show (5 : Nat) ≠ 0; omega
  split
  · show (6 : Nat) ≠ 0; omega
  · show (7 : Nat) ≠ 0; omega

theorem tn_ph {i : Nat} {a b : Ct} (h1 : 1 ≤ i) (h2 : i ≤ e + 17) (hT : TN A B PB d e i a b) : a.ph ≠ 0 ∧ b.ph ≠ 0 := by
  obtain ⟨b1, b2, b3, b4, b5, b6, _, _⟩ := h.bd
  have s1 : ∀ F s k, (sndAt F zeC s k).ph ≠ 0 := fun F s k => by show (1 : Nat) ≠ 0; omega
  rcases hT with ⟨_, rfl, rfl⟩ | ⟨_, _, s, rfl, rfl, r1, r2⟩ | ⟨_, _, rfl, s, rfl, r2⟩ | ⟨_, _, rfl, rfl⟩ | ⟨_, _, rfl, rfl⟩ | ⟨_, _, rfl, rfl⟩ | ⟨_, _⟩
  · omega
  · exact ⟨s1 _ _ _, s1 _ _ _⟩
  · exact ⟨fl_ph _ (by omega), s1 _ _ _⟩
  · exact ⟨fl_ph _ (by omega), fl_ph _ (by omega)⟩
  · exact ⟨by show (5 : Nat) ≠ 0; omega, fl_ph _ (by omega)⟩
  · exact ⟨fl_ph _ (by omega), fl_ph _ (by omega)⟩
  · omega

omit h in
theorem k_fl (F : Fr) (s : Tk) (k : Nat) : phC (sndAt F (cfT 8) s k) 2 0 true = flSt (kC F) 2 true 0 := rfl

theorem tn_step {i : Nat} {a b : Ct} (hi : i ≤ e + 17) (hT : TN A B PB d e i a b) :
    TN A B PB d e (i + 1) (stC a (dvC a && dvC b)).1 (stC b (dvC a && dvC b)).1 ∧
    (stC a (dvC a && dvC b)).2 = (if i = d then (4, zeroFr) else noH) ∧
    (stC b (dvC a && dvC b)).2 = (if i = e then (4, zeroFr) else noH) := by
  obtain ⟨b1, b2, b3, b4, b5, b6, b7, b8⟩ := h.bd
  obtain ⟨hA, hB, rfl, hx, ⟨p, r1, r2, e1, e2, e3, rfl⟩, _, _, _, he, hz⟩ := h
  obtain ⟨aA1, aA2⟩ := ack_split e1
  obtain ⟨aB1, aB2⟩ := ack_split e2
  rcases hT with ⟨rfl, rfl, rfl⟩ | ⟨h1, h2, s, rfl, rfl, q1, q2⟩ | ⟨h1, h2, rfl, s, rfl, q2⟩ | ⟨h1, h2, rfl, rfl⟩ | ⟨h1, h2, rfl, rfl⟩ | ⟨h1, h2, rfl, rfl⟩ | ⟨h1, _⟩
  · have hd : (dvC (giC A) && dvC (giC B)) = false := rfl
    rw [hd, (sends_begin A).1, (sends_begin B).1, if_neg (by omega), if_neg (by omega)]
    exact ⟨.inr (.inl ⟨by omega, by omega, _, rfl, rfl, rd_one hA, rd_one hB⟩), rfl, rfl⟩
  · by_cases hid : i = (putL p).length
    · subst hid
      obtain ⟨d1, _, _, d4, _, d6⟩ := sends_step hB h1 (by omega) q2 aB2 zeC false zeroFr
      have hx' : (dvC (sndAt A zeC s (putL p).length) && dvC (sndAt B zeC s (putL p).length)) = false := by rw [d1, (wi_split e2).2.2]; simp
      rw [hx', differ_step hA e1 q1 e3, d4, if_pos (by omega), if_pos rfl, if_neg (by omega)]
      refine ⟨.inr (.inr (.inl ⟨by omega, by omega, ?_, _, rfl, d6⟩)), rfl, rfl⟩
      rw [show (putL p).length + 1 - (putL p).length - 1 = 0 by omega]
      exact k_fl _ _ _
    · obtain ⟨x, hx2⟩ : ∃ x, (putL p)[i]? = some x := ⟨(putL p)[i]'(by omega), by simp⟩
      have xA : (ackL A)[i]? = some x := by rw [← hx2, ← aA1, List.getElem?_take, if_pos (by omega)]
      have xB : (ackL B)[i]? = some x := by rw [← hx2, ← aB1, List.getElem?_take, if_pos (by omega)]
      obtain ⟨d1, d2, d3, d4, _, d6⟩ := sends_step hA h1 (by omega) q1 xA zeC true B
      obtain ⟨f1, f2, f3, f4, _, f6⟩ := sends_step hB h1 (by omega) q2 xB zeC false zeroFr
      rw [decide_eq_false (by omega)] at d3 f3
      simp only [Bool.not_false, Bool.and_true] at d3 f3
      have hd : (dvC (sndAt A zeC s i) && dvC (sndAt B zeC s i)) = x := by rw [d1, f1, ← d3, ← f3]; simp
      rw [hd, d4, f4, if_pos (by omega), if_pos (by omega), if_neg hid, if_neg (by omega)]
      exact ⟨.inr (.inl ⟨by omega, by omega, _, rfl, rfl, d6, f6⟩), rfl, rfl⟩
  · obtain ⟨g1, g2⟩ := fl_step (kC A) (ph := 2) (.inl rfl) true (j := i - (putL p).length - 1) (by omega)
    rw [decide_eq_false (by omega)] at g1 g2
    have hd : ∀ y, (dvC (flSt (kC A) 2 true (i - (putL p).length - 1)) && y) = false := fun y => by rw [g2]; rfl
    rw [hd, g1, if_neg (by omega)]
    have hj : i - (putL p).length - 1 + 1 = i + 1 - (putL p).length - 1 := by omega
    by_cases hie : i = e
    · subst hie
      rw [other_turn hB e2 (by rw [← hx]; exact e3) (by omega) b6 q2 he, if_pos rfl, hj]
      by_cases h7 : i + 1 ≤ (putL p).length + 7
      · refine ⟨.inr (.inr (.inr (.inl ⟨by omega, h7, rfl, ?_⟩))), rfl, rfl⟩
        rw [show i + 1 - i - 1 = 0 by omega]; exact k_fl _ _ _
      · omega
    · have hw := hz i (by omega) (by omega)
      have xB : (ackL B)[i]? = some false := by unfold ackL; rw [List.getElem?_set_ne (by omega)]; exact hw
      obtain ⟨f1, f2, f3, f4, _, f6⟩ := sends_step hB (by omega) (by omega) q2 xB zeC false zeroFr
      rw [f4, if_pos (by omega), if_neg hie, hj]
      exact ⟨.inr (.inr (.inl ⟨by omega, by omega, rfl, _, rfl, f6⟩)), rfl, rfl⟩
  · have hj : i - e - 1 + 1 = i + 1 - e - 1 := by omega
    obtain ⟨f1, f2⟩ := fl_step (kC B) (ph := 2) (.inl rfl) true (j := i - e - 1) (by omega)
    rw [decide_eq_false (by omega)] at f1 f2
    have hd : ∀ y, (y && dvC (flSt (kC B) 2 true (i - e - 1))) = false := fun y => by rw [f2]; simp
    rw [hd, f1, if_neg (by omega), if_neg (by omega), hj]
    by_cases h7 : i = (putL p).length + 7
    · subst h7
      rw [show (putL p).length + 7 - (putL p).length - 1 = 6 by omega]
      have hw := wait_on (c := kC A) rfl (n := 0) (by omega) true
      have e6 : flSt (kC A) 2 true 6 = phC (kC A) 5 0 true := rfl
      rw [e6, hw]
      refine ⟨.inr (.inr (.inr (.inr (.inl ⟨by omega, by omega, ?_, rfl⟩)))), rfl, rfl⟩
      rw [show (putL p).length + 7 + 1 - (putL p).length - 7 = 0 + 1 by omega]
    · obtain ⟨g1, _⟩ := fl_step (kC A) (ph := 2) (.inl rfl) true (j := i - (putL p).length - 1) (by omega)
      rw [decide_eq_false (by omega)] at g1
      rw [g1, show i - (putL p).length - 1 + 1 = i + 1 - (putL p).length - 1 by omega]
      exact ⟨.inr (.inr (.inr (.inl ⟨by omega, by omega, rfl, rfl⟩))), rfl, rfl⟩
  · have hj : i - e - 1 + 1 = i + 1 - e - 1 := by omega
    rw [if_neg (by omega), if_neg (by omega)]
    by_cases h7 : i = e + 7
    · have d2 : dvC (flSt (kC B) 2 true (i - e - 1)) = true := by rw [show i - e - 1 = 6 by omega]; rfl
      have f1 : stC (flSt (kC B) 2 true (i - e - 1)) true = (flSt (kC B) 2 true 7, noH) := by
        rw [show i - e - 1 = 6 by omega]
        exact (fl_step (kC B) (ph := 2) (.inl rfl) true (j := 6) (by omega)).1
      obtain ⟨g1, g2⟩ := wait_end (kC A) (i - (putL p).length - 7) true
      have hd : (dvC (phC (kC A) 5 (i - (putL p).length - 7) true) && dvC (flSt (kC B) 2 true (i - e - 1))) = true := by rw [g2, d2]; rfl
      rw [hd, g1, f1]
      refine ⟨.inr (.inr (.inr (.inr (.inr (.inl ⟨by omega, by omega, ?_, ?_⟩))))), rfl, rfl⟩
      · rw [show i + 1 - e - 1 = 7 by omega]; rfl
      · rw [show i + 1 - e - 1 = 7 by omega]
    · obtain ⟨f1, f2⟩ := fl_step (kC B) (ph := 2) (.inl rfl) true (j := i - e - 1) (by omega)
      rw [decide_eq_false (by omega)] at f1 f2
      have hd : ∀ y, (y && dvC (flSt (kC B) 2 true (i - e - 1))) = false := fun y => by rw [f2]; simp
      rw [hd, f1, hj, wait_on (c := kC A) rfl (n := i - (putL p).length - 7) (by omega) true]
      refine ⟨.inr (.inr (.inr (.inr (.inl ⟨by omega, by omega, ?_, rfl⟩)))), rfl, rfl⟩
      rw [show i + 1 - (putL p).length - 7 = i - (putL p).length - 7 + 1 by omega]
  · rw [if_neg (by omega), if_neg (by omega)]
    by_cases h16 : i = e + 17
    · subst h16
      rw [show e + 17 - e - 1 = 16 by omega]
      obtain ⟨f1, f2⟩ := fl_last (kC A) 2 true
      obtain ⟨g1, g2⟩ := fl_last (kC B) 2 true
      have hA0 : holdC (kC A) = false := by unfold holdC; rw [show (kC A).cf = cfT 8 from rfl, mo_8]; simp
      have hB0 : holdC (kC B) = false := by unfold holdC; rw [show (kC B).cf = cfT 8 from rfl, mo_8]; simp
      rw [hA0] at f1
      rw [hB0] at g1
      have hd : (dvC (flSt (kC A) 2 true 16) && dvC (flSt (kC B) 2 true 16)) = true := by rw [f2, g2]; rfl
      rw [hd, f1, g1]
      exact ⟨.inr (.inr (.inr (.inr (.inr (.inr ⟨rfl, rfl, rfl⟩))))), rfl, rfl⟩
    · obtain ⟨f1, f2⟩ := fl_step (kC A) (ph := 2) (.inl rfl) true (j := i - e - 1) (by omega)
      obtain ⟨g1, g2⟩ := fl_step (kC B) (ph := 2) (.inl rfl) true (j := i - e - 1) (by omega)
      rw [decide_eq_true (by omega)] at f1 f2 g1 g2
      have hd : (dvC (flSt (kC A) 2 true (i - e - 1)) && dvC (flSt (kC B) 2 true (i - e - 1))) = true := by rw [f2, g2]; rfl
      rw [hd, f1, g1, show i - e - 1 + 1 = i + 1 - e - 1 by omega]
      exact ⟨.inr (.inr (.inr (.inr (.inr (.inl ⟨by omega, by omega, rfl, rfl⟩))))), rfl, rfl⟩
  · omega
end
end Go.Proofs.YtgpmhmdofefdcaaGreat
