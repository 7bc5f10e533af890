/-
  Plain mathematics of CtlTwins: two unlike frames of one identifier and kind, whose senders fail one behind the other, and are idle at the same bit.
-/
import Derived.Test.YtaagfaidjihjcaaB1
import Derived.Test.YtaagfaidjihjcaaCtlSendsWalk
namespace Go.Proofs.Ytaagfaidjihjcaa
set_option linter.unusedVariables false
set_option linter.unusedSectionVars false

/-- What is kept of a sender that failed. -/
def kC (F : Fr) : Ct := sndAt F (cfT 8) s0 0

/-- A drives recessive where the two part, B dominant; B drives recessive anew at bit e. -/
structure Twin (A B : Fr) (PB d e : Nat) : Prop where
  a : Good A
  b : Good B
  hP : PB = (putL (boL B)).length
  ex : A.ext = B.ext
  sp : ∃ p r1 r2, boL A = p ++ true :: r1 ∧ boL B = p ++ false :: r2 ∧ (if A.ext then 32 else 12) < p.length ∧ d = (putL p).length
  de : d < e ∧ e ≤ d + 5 ∧ e ≤ PB ∧ (wiL B)[e]? = some true ∧ ∀ i, d ≤ i → i < e → (wiL B)[i]? = some false

theorem Twin.mk' {A B : Fr} (hA : Good A) (hB : Good B) (h2 : A.ext = B.ext) {p r1 r2 : List Bool} (e1 : boL A = p ++ true :: r1) (e2 : boL B = p ++ false :: r2) (hp : (if A.ext then 32 else 12) < p.length) :
    ∃ e, Twin A B (putL (boL B)).length (putL p).length e := by
  obtain ⟨w1, _, w3⟩ := wi_split e2
  obtain ⟨e, c1, c2, c3, c4, c5⟩ := soon_rec w1 w3
  exact ⟨e, hA, hB, rfl, h2, ⟨p, r1, r2, e1, e2, hp, rfl⟩, c1, c2, c3, c4, c5⟩

/-- The two, behind so many bits. -/
def TN (A B : Fr) (PB d e i : Nat) (a b : Ct) : Prop :=
  (i = 0 ∧ a = giC A ∧ b = giC B) ∨
  (1 ≤ i ∧ i ≤ d ∧ ∃ s, a = sndAt A zeC s i ∧ b = sndAt B zeC s i ∧ Rd (ackL A) (putL (boL A)).length i s ∧ Rd (ackL B) PB i s) ∨
  (d < i ∧ i ≤ e ∧ a = flSt (kC A) 2 true (i - d - 1) ∧ ∃ s, b = sndAt B zeC s i ∧ Rd (ackL B) PB i s) ∨
  (e < i ∧ i ≤ d + 7 ∧ a = flSt (kC A) 2 true (i - d - 1) ∧ b = flSt (kC B) 2 true (i - e - 1)) ∨
  (d + 7 < i ∧ i ≤ e + 7 ∧ a = phC (kC A) 5 (i - d - 7) true ∧ b = flSt (kC B) 2 true (i - e - 1)) ∨
  (e + 8 ≤ i ∧ i ≤ e + 17 ∧ a = flSt (kC A) 2 true (i - e - 1) ∧ b = flSt (kC B) 2 true (i - e - 1)) ∨
  (i = e + 18 ∧ a = phC (kC A) 0 0 true ∧ b = phC (kC B) 0 0 true)

section
variable {A B : Fr} {PB d e : Nat} (h : Twin A B PB d e)
include h

theorem Twin.bd : 12 ≤ d ∧ d < e ∧ e ≤ d + 5 ∧ d < (putL (boL A)).length ∧ d < PB ∧ e ≤ PB ∧ PB ≤ 150 ∧ (putL (boL A)).length ≤ 150 := by
  obtain ⟨hA, hB, rfl, hx, ⟨p, r1, r2, e1, e2, e3, rfl⟩, h1, h2, h3, _, _⟩ := h
  have k2 := (putL_len p).1
  have : 12 < p.length := by split at e3 <;> omega
  exact ⟨by omega, h1, h2, (wi_split e1).1, (wi_split e2).1, h3, P_top hB, P_top hA⟩

theorem tn_ok {i : Nat} {a b : Ct} (hi : i ≤ e + 17) (hT : TN A B PB d e i a b) : StepOK a ∧ StepOK b := by
  obtain ⟨b1, b2, b3, b4, b5, b6, _, _⟩ := h.bd
  have hm : moC (cfT 8) ≤ 1 := by rw [mo_8]; omega
  have la := good_len h.a
  have lb := good_len h.b
  obtain ⟨hA, hB, rfl, hx, _, _⟩ := h
  have fA : ∀ j, j ≤ 16 → StepOK (flSt (kC A) 2 true j) := fun j hj => ok_fl hm (fun _ => hA) (by show A.data.length ≤ _; omega) (.inl rfl) true hj
  have fB : ∀ j, j ≤ 16 → StepOK (flSt (kC B) 2 true j) := fun j hj => ok_fl hm (fun _ => hB) (by show B.data.length ≤ _; omega) (.inl rfl) true hj
  rcases hT with ⟨_, rfl, rfl⟩ | ⟨h1, h2, s, rfl, rfl, r1, r2⟩ | ⟨h1, h2, rfl, s, rfl, r2⟩ | ⟨h1, h2, rfl, rfl⟩ | ⟨h1, h2, rfl, rfl⟩ | ⟨h1, h2, rfl, rfl⟩ | ⟨h1, _⟩
  · exact ⟨ok_gi hA, ok_gi hB⟩
  · exact ⟨ok_snd hA (by decide) h1 (by omega) r1 (rd_len hA h1 (by omega) r1), ok_snd hB (by decide) h1 (by omega) r2 (rd_len hB h1 (by omega) r2)⟩
  · exact ⟨fA _ (by omega), ok_snd hB (by decide) (by omega) (by omega) r2 (rd_len hB (by omega) (by omega) r2)⟩
  · exact ⟨fA _ (by omega), fB _ (by omega)⟩
  · exact ⟨ok_ph (fun _ => hm) (by omega) (by omega) (by omega) (fun _ => hA) (by show A.data.length ≤ _; omega), fB _ (by omega)⟩
  · exact ⟨fA _ (by omega), fB _ (by omega)⟩
  · omega

omit h in
theorem fl_ph (c : Ct) {j : Nat} (hj : j ≤ 16) : (flSt c 2 true j).ph ≠ 0 := by
  unfold flSt
  split
  · show (2 : Nat) ≠ 0; omega
  split
  · show (5 : Nat) ≠ 0; omega
  split
  · show (6 : Nat) ≠ 0; omega
  · show (7 : Nat) ≠ 0; omega

theorem tn_ph {i : Nat} {a b : Ct} (h1 : 1 ≤ i) (h2 : i ≤ e + 17) (hT : TN A B PB d e i a b) : a.ph ≠ 0 ∧ b.ph ≠ 0 := by
  obtain ⟨b1, b2, b3, b4, b5, b6, _, _⟩ := h.bd
  have s1 : ∀ F s k, (sndAt F zeC s k).ph ≠ 0 := fun F s k => by show (1 : Nat) ≠ 0; omega
  rcases hT with ⟨_, rfl, rfl⟩ | ⟨_, _, s, rfl, rfl, r1, r2⟩ | ⟨_, _, rfl, s, rfl, r2⟩ | ⟨_, _, rfl, rfl⟩ | ⟨_, _, rfl, rfl⟩ | ⟨_, _, rfl, rfl⟩ | ⟨_, _⟩
  · omega
  · exact ⟨s1 _ _ _, s1 _ _ _⟩
  · exact ⟨fl_ph _ (by omega), s1 _ _ _⟩
  · exact ⟨fl_ph _ (by omega), fl_ph _ (by omega)⟩
  · exact ⟨by show (5 : Nat) ≠ 0; omega, fl_ph _ (by omega)⟩
  · exact ⟨fl_ph _ (by omega), fl_ph _ (by omega)⟩
  · omega

omit h in
theorem k_fl (F : Fr) (s : Tk) (k : Nat) : phC (sndAt F (cfT 8) s k) 2 0 true = flSt (kC F) 2 true 0 := rfl

theorem tn_step {i : Nat} {a b : Ct} (hi : i ≤ e + 17) (hT : TN A B PB d e i a b) :
    TN A B PB d e (i + 1) (stC a (dvC a && dvC b)).1 (stC b (dvC a && dvC b)).1 ∧
    (stC a (dvC a && dvC b)).2 = (if i = d then (4, zeroFr) else noH) ∧
    (stC b (dvC a && dvC b)).2 = (if i = e then (4, zeroFr) else noH) := by
  obtain ⟨b1, b2, b3, b4, b5, b6, b7, b8⟩ := h.bd
  obtain ⟨hA, hB, rfl, hx, ⟨p, r1, r2, e1, e2, e3, rfl⟩, _, _, _, he, hz⟩ := h
  obtain ⟨aA1, aA2⟩ := ack_split e1
  obtain ⟨aB1, aB2⟩ := ack_split e2
  rcases hT with ⟨rfl, rfl, rfl⟩ | ⟨h1, h2, s, rfl, rfl, q1, q2⟩ | ⟨h1, h2, rfl, s, rfl, q2⟩ | ⟨h1, h2, rfl, rfl⟩ | ⟨h1, h2, rfl, rfl⟩ | ⟨h1, h2, rfl, rfl⟩ | ⟨h1, _⟩
  · have hd : (dvC (giC A) && dvC (giC B)) = false := rfl
    rw [hd, (sends_begin A).1, (sends_begin B).1, if_neg (by omega), if_neg (by omega)]
    exact ⟨.inr (.inl ⟨by omega, by omega, _, rfl, rfl, rd_one hA, rd_one hB⟩), rfl, rfl⟩
  · by_cases hid : i = (putL p).length
    · subst hid
      obtain ⟨d1, _, _, d4, _, d6⟩ := sends_step hB h1 (by omega) q2 aB2 zeC false zeroFr
      have hx' : (dvC (sndAt A zeC s (putL p).length) && dvC (sndAt B zeC s (putL p).length)) = false := by rw [d1, (wi_split e2).2.2]; simp
      rw [hx', differ_step hA e1 q1 e3, d4, if_pos (by omega), if_pos rfl, if_neg (by omega)]
      refine ⟨.inr (.inr (.inl ⟨by omega, by omega, ?_, _, rfl, d6⟩)), rfl, rfl⟩
      rw [show (putL p).length + 1 - (putL p).length - 1 = 0 by omega]
      exact k_fl _ _ _
    · obtain ⟨x, hx2⟩ : ∃ x, (putL p)[i]? = some x := ⟨(putL p)[i]'(by omega), by simp⟩
      have xA : (ackL A)[i]? = some x := by rw [← hx2, ← aA1, List.getElem?_take, if_pos (by omega)]
      have xB : (ackL B)[i]? = some x := by rw [← hx2, ← aB1, List.getElem?_take, if_pos (by omega)]
      obtain ⟨d1, d2, d3, d4, _, d6⟩ := sends_step hA h1 (by omega) q1 xA zeC true B
      obtain ⟨f1, f2, f3, f4, _, f6⟩ := sends_step hB h1 (by omega) q2 xB zeC false zeroFr
      rw [decide_eq_false (by omega)] at d3 f3
      simp only [Bool.not_false, Bool.and_true] at d3 f3
      have hd : (dvC (sndAt A zeC s i) && dvC (sndAt B zeC s i)) = x := by rw [d1, f1, ← d3, ← f3]; simp
      rw [hd, d4, f4, if_pos (by omega), if_pos (by omega), if_neg hid, if_neg (by omega)]
      exact ⟨.inr (.inl ⟨by omega, by omega, _, rfl, rfl, d6, f6⟩), rfl, rfl⟩
  · obtain ⟨g1, g2⟩ := fl_step (kC A) (ph := 2) (.inl rfl) true (j := i - (putL p).length - 1) (by omega)
    rw [decide_eq_false (by omega)] at g1 g2
    have hd : ∀ y, (dvC (flSt (kC A) 2 true (i - (putL p).length - 1)) && y) = false := fun y => by rw [g2]; rfl
    rw [hd, g1, if_neg (by omega)]
    have hj : i - (putL p).length - 1 + 1 = i + 1 - (putL p).length - 1 := by omega
    by_cases hie : i = e
    · subst hie
      rw [other_turn hB e2 (by rw [← hx]; exact e3) (by omega) b6 q2 he, if_pos rfl, hj]
      by_cases h7 : i + 1 ≤ (putL p).length + 7
      · refine ⟨.inr (.inr (.inr (.inl ⟨by omega, h7, rfl, ?_⟩))), rfl, rfl⟩
        rw [show i + 1 - i - 1 = 0 by omega]; exact k_fl _ _ _
      · omega
    · have hw := hz i (by omega) (by omega)
      have xB : (ackL B)[i]? = some false := by unfold ackL; rw [List.getElem?_set_ne (by omega)]; exact hw
      obtain ⟨f1, f2, f3, f4, _, f6⟩ := sends_step hB (by omega) (by omega) q2 xB zeC false zeroFr
      rw [f4, if_pos (by omega), if_neg hie, hj]
      exact ⟨.inr (.inr (.inl ⟨by omega, by omega, rfl, _, rfl, f6⟩)), rfl, rfl⟩
  · have hj : i - e - 1 + 1 = i + 1 - e - 1 := by omega
    obtain ⟨f1, f2⟩ := fl_step (kC B) (ph := 2) (.inl rfl) true (j := i - e - 1) (by omega)
    rw [decide_eq_false (by omega)] at f1 f2
    have hd : ∀ y, (y && dvC (flSt (kC B) 2 true (i - e - 1))) = false := fun y => by rw [f2]; simp
    rw [hd, f1, if_neg (by omega), if_neg (by omega), hj]
    by_cases h7 : i = (putL p).length + 7
    · subst h7
      rw [show (putL p).length + 7 - (putL p).length - 1 = 6 by omega]
      have hw := wait_on (c := kC A) rfl (n := 0) (by omega) true
      have e6 : flSt (kC A) 2 true 6 = phC (kC A) 5 0 true := rfl
      rw [e6, hw]
      refine ⟨.inr (.inr (.inr (.inr (.inl ⟨by omega, by omega, ?_, rfl⟩)))), rfl, rfl⟩
      rw [show (putL p).length + 7 + 1 - (putL p).length - 7 = 0 + 1 by omega]
    · obtain ⟨g1, _⟩ := fl_step (kC A) (ph := 2) (.inl rfl) true (j := i - (putL p).length - 1) (by omega)
      rw [decide_eq_false (by omega)] at g1
      rw [g1, show i - (putL p).length - 1 + 1 = i + 1 - (putL p).length - 1 by omega]
      exact ⟨.inr (.inr (.inr (.inl ⟨by omega, by omega, rfl, rfl⟩))), rfl, rfl⟩
  · have hj : i - e - 1 + 1 = i + 1 - e - 1 := by omega
    rw [if_neg (by omega), if_neg (by omega)]
    by_cases h7 : i = e + 7
    · have d2 : dvC (flSt (kC B) 2 true (i - e - 1)) = true := by rw [show i - e - 1 = 6 by omega]; rfl
      have f1 : stC (flSt (kC B) 2 true (i - e - 1)) true = (flSt (kC B) 2 true 7, noH) := by
        rw [show i - e - 1 = 6 by omega]
        exact (fl_step (kC B) (ph := 2) (.inl rfl) true (j := 6) (by omega)).1
      obtain ⟨g1, g2⟩ := wait_end (kC A) (i - (putL p).length - 7) true
      have hd : (dvC (phC (kC A) 5 (i - (putL p).length - 7) true) && dvC (flSt (kC B) 2 true (i - e - 1))) = true := by rw [g2, d2]; rfl
      rw [hd, g1, f1]
      refine ⟨.inr (.inr (.inr (.inr (.inr (.inl ⟨by omega, by omega, ?_, ?_⟩))))), rfl, rfl⟩
      · rw [show i + 1 - e - 1 = 7 by omega]; rfl
      · rw [show i + 1 - e - 1 = 7 by omega]
    · obtain ⟨f1, f2⟩ := fl_step (kC B) (ph := 2) (.inl rfl) true (j := i - e - 1) (by omega)
      rw [decide_eq_false (by omega)] at f1 f2
      have hd : ∀ y, (y && dvC (flSt (kC B) 2 true (i - e - 1))) = false := fun y => by rw [f2]; simp
      rw [hd, f1, hj, wait_on (c := kC A) rfl (n := i - (putL p).length - 7) (by omega) true]
      refine ⟨.inr (.inr (.inr (.inr (.inl ⟨by omega, by omega, ?_, rfl⟩)))), rfl, rfl⟩
      rw [show i + 1 - (putL p).length - 7 = i - (putL p).length - 7 + 1 by omega]
  · rw [if_neg (by omega), if_neg (by omega)]
    by_cases h16 : i = e + 17
    · subst h16
      rw [show e + 17 - e - 1 = 16 by omega]
      obtain ⟨f1, f2⟩ := fl_last (kC A) 2 true
      obtain ⟨g1, g2⟩ := fl_last (kC B) 2 true
      have hA0 : holdC (kC A) = false := by unfold holdC; rw [show (kC A).cf = cfT 8 from rfl, mo_8]; simp
      have hB0 : holdC (kC B) = false := by unfold holdC; rw [show (kC B).cf = cfT 8 from rfl, mo_8]; simp
      rw [hA0] at f1
      rw [hB0] at g1
      have hd : (dvC (flSt (kC A) 2 true 16) && dvC (flSt (kC B) 2 true 16)) = true := by rw [f2, g2]; rfl
      rw [hd, f1, g1]
      exact ⟨.inr (.inr (.inr (.inr (.inr (.inr ⟨rfl, rfl, rfl⟩))))), rfl, rfl⟩
    · obtain ⟨f1, f2⟩ := fl_step (kC A) (ph := 2) (.inl rfl) true (j := i - e - 1) (by omega)
      obtain ⟨g1, g2⟩ := fl_step (kC B) (ph := 2) (.inl rfl) true (j := i - e - 1) (by omega)
      rw [decide_eq_true (by omega)] at f1 f2 g1 g2
      have hd : (dvC (flSt (kC A) 2 true (i - e - 1)) && dvC (flSt (kC B) 2 true (i - e - 1))) = true := by rw [f2, g2]; rfl
      rw [hd, f1, g1, show i - e - 1 + 1 = i + 1 - e - 1 by omega]
      exact ⟨.inr (.inr (.inr (.inr (.inr (.inl ⟨by omega, by omega, rfl, rfl⟩))))), rfl, rfl⟩
  · omega
end
end Go.Proofs.Ytaagfaidjihjcaa
