/-
  Plain mathematics of layer 9: one receiver samples the last bit but one turned about: it does not take the frame, all others do; it is sent again (NetOmits).
-/
import Derived.Test.YtpcmlnleompibaaM9b
import Derived.Test.YtpcmlnleompibaaM8m
namespace Go.Proofs.Ytpcmlnleompibaa
set_option linter.unusedVariables false

theorem cfA_T8 : CfA (cfT 8) := ⟨by decide, by decide, by decide⟩
theorem cfA_R9 : CfA (cfR 9) := ⟨by decide, by decide, by decide⟩
theorem ev_T8 : evC (cfT 8) 8 = cfT 7 := by decide
theorem ev_R9 : evC (cfR 9) 9 = cfR 8 := by decide
theorem ev_R1 : evC (cfR 1) 2 = cfR 9 := by decide

/-- What a node has to send: the first one F, the others nothing. -/
abbrev omG (F : Fr) (k : Nat) : Option Fr := if k = 0 then some F else none
/-- Counters the second time. -/
def omF (k : Nat) : Cf := if k = 0 then cfT 8 else if k = 1 then cfR 9 else zeC

theorem omF_A (k : Nat) : CfA (omF k) := by
  unfold omF
  split
  · exact cfA_T8
  · split
    · exact cfA_R9
    · exact cfA_zero

theorem om_node {F : Fr} (k : Nat) : NodeOK F (omG F k) (decide (k = 0)) := by
  refine ⟨fun h => ?_, fun h G hg => ?_⟩
  · have : k = 0 := by simpa using h
    exact if_pos this
  · have : ¬ k = 0 := by simpa using h
    rw [show omG F k = none from if_neg this] at hg; cases hg

/-- A node behind i bits: k = 0 sends, k = 1 samples the bit turned about, k = 2 is another one. -/
def OmC (F : Fr) (i k : Nat) (c : Ct) : Prop :=
  (i ≤ (putL (boL F)).length + 8 ∧ RoN F zeC i (omG F k) (decide (k = 0)) c) ∨
  (i = (putL (boL F)).length + 9 ∧ ((k ≠ 1 ∧ RoN F zeC i (omG F k) (decide (k = 0)) c) ∨ (k = 1 ∧ c = flSt (rcvAt (cfR 1) s0) 2 true 0))) ∨
  ((putL (boL F)).length + 10 ≤ i ∧ i ≤ (putL (boL F)).length + 26 ∧
    ((k = 0 ∧ c = flSt (kC F) 2 true (i - ((putL (boL F)).length + 10))) ∨ (k = 2 ∧ c = flSt (rcvAt zeC s0) 4 false (i - ((putL (boL F)).length + 10))) ∨
     (k = 1 ∧ i ≤ (putL (boL F)).length + 15 ∧ c = flSt (rcvAt (cfR 1) s0) 2 true (i - ((putL (boL F)).length + 9))) ∨
     (k = 1 ∧ i = (putL (boL F)).length + 16 ∧ c = phC (rcvAt (cfR 9) s0) 5 1 true) ∨
     (k = 1 ∧ (putL (boL F)).length + 17 ≤ i ∧ c = flSt (rcvAt (cfR 9) s0) 2 true (i - ((putL (boL F)).length + 10))))) ∨
  ((putL (boL F)).length + 27 ≤ i ∧ i ≤ (putL (boL F)).length + 27 + ((putL (boL F)).length + 13) ∧ ∃ c', c = wE c' (decide (k ≠ 2)) ∧ RoN F (omF k) (i - ((putL (boL F)).length + 27)) (omG F k) (decide (k = 0)) c')

/-- The bus. -/
def omB (F : Fr) (i : Nat) : Bool :=
  if i ≤ (putL (boL F)).length + 8 then xB F i else if i ≤ (putL (boL F)).length + 15 then false else if i ≤ (putL (boL F)).length + 26 then true else xB F (i - ((putL (boL F)).length + 27))

/-- What a node samples. -/
def omS (F : Fr) (i k : Nat) : Bool := if i = (putL (boL F)).length + 8 ∧ k = 1 then !omB F i else omB F i

theorem ok_flG {C : Ct} (hm : moC C.cf ≤ 1) (hg : C.has = true → Good C.give) (hd : C.give.data.length ≤ 1000000) {ph : Nat} (hp : ph = 2 ∨ ph = 4) (e : Bool) {j : Nat} (hj : j ≤ 16) : StepOK (flSt C ph e j) := ok_fl hm hg hd hp e hj

theorem wE_ok {c : Ct} (h : StepOK c) (e : Bool) : StepOK (wE c e) := ⟨h.1, h.2, h.3, h.4, h.5, h.6, h.7, h.8, fun a b => ⟨(h.9 a b).1, (h.9 a b).2, (h.9 a b).3, (h.9 a b).4⟩, h.10⟩

theorem om_ok {F : Fr} (hF : Good F) {i k : Nat} (hk : k ≤ 2) (hi : i < (putL (boL F)).length + 27 + ((putL (boL F)).length + 13)) {c : Ct} (h : OmC F i k c) : StepOK c := by
  have lF := good_len hF
  have zl : (zeroFr.data.length) ≤ 1000000 := by simp [zeroFr]
  rcases h with ⟨h1, h2⟩ | ⟨h1, ⟨_, h2⟩ | ⟨_, rfl⟩⟩ | ⟨h1, h2, h3⟩ | ⟨h1, h2, c', rfl, h3⟩
  · exact ro_ok hF cfA_zero (om_node k) (by omega) h2
  · exact ro_ok hF cfA_zero (om_node k) (by omega) h2
  · exact ok_fl (by decide) (fun e => by cases e) zl (.inl rfl) true (by omega)
  · rcases h3 with ⟨_, rfl⟩ | ⟨_, rfl⟩ | ⟨_, h4, rfl⟩ | ⟨_, _, rfl⟩ | ⟨_, h4, rfl⟩
    · exact ok_fl (by show moC (cfT 8) ≤ 1; decide) (fun _ => hF) (by show F.data.length ≤ _; omega) (.inl rfl) true (by omega)
    · exact ok_fl (by decide) (fun e => by cases e) zl (.inr rfl) false (by omega)
    · exact ok_fl (by decide) (fun e => by cases e) zl (.inl rfl) true (by omega)
    · exact ok_ph (fun _ => by decide) (by omega) (by omega) (by omega) (fun e => by cases e) zl
    · exact ok_fl (by decide) (fun e => by cases e) zl (.inl rfl) true (by omega)
  · exact wE_ok (ro_ok hF (omF_A k) (om_node k) (by omega) h3) _

/-- What a node drives. -/
theorem om_drive {F : Fr} (hF : Good F) {i k : Nat} (hk : k ≤ 2) (hi : i < (putL (boL F)).length + 27 + ((putL (boL F)).length + 10)) {c : Ct} (h : OmC F i k c) :
    (i < (putL (boL F)).length + 9 → if k = 0 then dvC c = ((wiL F)[i]?.getD false) else xB F i = (((wiL F)[i]?.getD false) && dvC c)) ∧
    (i = (putL (boL F)).length + 9 → k = 1 → dvC c = false) ∧ ((putL (boL F)).length + 10 ≤ i → i ≤ (putL (boL F)).length + 15 → k = 0 → dvC c = false) ∧
    ((putL (boL F)).length + 16 ≤ i → i ≤ (putL (boL F)).length + 26 → dvC c = true) ∧
    ((putL (boL F)).length + 27 ≤ i → if k = 0 then dvC c = ((wiL F)[i - ((putL (boL F)).length + 27)]?.getD false) else xB F (i - ((putL (boL F)).length + 27)) = (((wiL F)[i - ((putL (boL F)).length + 27)]?.getD false) && dvC c)) := by
  rcases h with ⟨h1, h2⟩ | ⟨h1, ⟨h3, h2⟩ | ⟨h3, rfl⟩⟩ | ⟨h1, h2, h3⟩ | ⟨h1, h2, c', rfl, h3⟩
  · have := (ro_step hF cfA_zero (om_node k) (by omega) h2).2.2.1 (by omega)
    refine ⟨fun _ => ?_, fun e => by omega, fun e => by omega, fun e => by omega, fun e => by omega⟩
    by_cases h0 : k = 0
    · rw [decide_eq_true h0, if_pos rfl] at this; rw [if_pos h0]; exact this
    · rw [decide_eq_false h0, if_neg Bool.false_ne_true] at this; rw [if_neg h0]; exact this
  · exact ⟨fun e => by omega, fun _ e => absurd e h3, fun e => by omega, fun e => by omega, fun e => by omega⟩
  · exact ⟨fun e => by omega, fun _ _ => rfl, fun e => by omega, fun e => by omega, fun e => by omega⟩
  · refine ⟨fun e => by omega, fun e => by omega, fun e1 e2 e3 => ?_, fun e1 e2 => ?_, fun e => by omega⟩
    · rcases h3 with ⟨_, rfl⟩ | ⟨h4, _⟩ | ⟨h4, _⟩ | ⟨h4, _⟩ | ⟨h4, _⟩
      · have := (fl_step (kC F) (ph := 2) (.inl rfl) true (j := i - ((putL (boL F)).length + 10)) (by omega)).2
        rw [decide_eq_false (by omega)] at this; exact this
      · omega
      · omega
      · omega
      · omega
    · have key : ∀ (C : Ct) (ph : Nat) (e : Bool) (hp : ph = 2 ∨ ph = 4), dvC (flSt C ph e (i - ((putL (boL F)).length + 10))) = true := fun C ph e hp => by
        by_cases h16 : i = (putL (boL F)).length + 26
        · rw [show i - ((putL (boL F)).length + 10) = 16 by omega]; rfl
        · have := (fl_step C hp e (j := i - ((putL (boL F)).length + 10)) (by omega)).2
          rw [decide_eq_true (by omega)] at this; exact this
      rcases h3 with ⟨_, rfl⟩ | ⟨_, rfl⟩ | ⟨_, h4, _⟩ | ⟨_, _, rfl⟩ | ⟨_, _, rfl⟩
      · exact key _ _ _ (.inl rfl)
      · exact key _ _ _ (.inr rfl)
      · omega
      · rfl
      · exact key _ _ _ (.inl rfl)
  · have := (ro_step hF (omF_A k) (om_node k) (by omega) h3).2.2.1 (by omega)
    refine ⟨fun e => by omega, fun e => by omega, fun e => by omega, fun e => by omega, fun _ => ?_⟩
    have hd : dvC (wE c' (decide (k ≠ 2))) = dvC c' := rfl
    rw [hd]
    by_cases h0 : k = 0
    · rw [decide_eq_true h0, if_pos rfl] at this; rw [if_pos h0]; exact this
    · rw [decide_eq_false h0, if_neg Bool.false_ne_true] at this; rw [if_neg h0]; exact this

/-- The phases of a node in a round. -/
theorem ro_ph {B : Fr} {cf : Cf} {i : Nat} {g : Option Fr} {w : Bool} {c : Ct} (h : RoN B cf i g w c) : c.ph = 0 ∨ c.ph = 1 ∨ c.ph = 7 := by
  rcases h with ⟨_, A, rfl, _⟩ | ⟨_, _, s, _, ⟨_, rfl⟩ | ⟨_, rfl⟩ | ⟨_, G, d, _, _, _, rfl, _⟩⟩ | ⟨_, _, A, rfl, _⟩
  · exact .inl rfl
  · exact .inr (.inl rfl)
  · exact .inr (.inl rfl)
  · exact .inr (.inl rfl)
  · unfold btC; split
    · exact .inr (.inr rfl)
    · exact .inl rfl

/-- What happens in a round, by its number. -/
theorem ro_hap {B : Fr} (hB : Good B) {cf : Cf} (hf : CfA cf) {g : Option Fr} {w : Bool} (ho : NodeOK B g w) {i : Nat} (hi : i < (putL (boL B)).length + 13) {c : Ct} (h : RoN B cf i g w c) :
    (stC c (xB B i)).2.1 < 4 ∧ ((stC c (xB B i)).2.1 = 2 ↔ w = false ∧ i = (putL (boL B)).length + 8) ∧ ((stC c (xB B i)).2.1 = 1 ↔ w = true ∧ i = (putL (boL B)).length + 9) := by
  have := (ro_step hB hf ho hi h).2.1
  rcases this with h1 | ⟨hw, hlt, h1⟩
  · rw [h1]
    cases w with
    | true =>
      rw [if_pos rfl]
      by_cases h9 : i = (putL (boL B)).length + 9
      · rw [if_pos h9]; exact ⟨by show 1 < 4; omega, by show (1 = 2) ↔ _; simp, by show (1 = 1) ↔ _; simp [h9]⟩
      · rw [if_neg h9]; exact ⟨by show 0 < 4; omega, by show (0 = 2) ↔ _; simp, by show (0 = 1) ↔ _; simp [h9]⟩
    | false =>
      rw [if_neg Bool.false_ne_true]
      by_cases h8 : i = (putL (boL B)).length + 8
      · rw [if_pos h8]; exact ⟨by show 2 < 4; omega, by show (2 = 2) ↔ _; simp [h8], by show (2 = 1) ↔ _; simp⟩
      · rw [if_neg h8]; exact ⟨by show 0 < 4; omega, by show (0 = 2) ↔ _; simp [h8], by show (0 = 1) ↔ _; simp⟩
  · rw [h1]
    subst hw
    exact ⟨by show 3 < 4; omega, by show (3 = 2) ↔ _; simp <;> omega, by show (3 = 1) ↔ _; simp⟩

/-- One bit of a node. -/
theorem om_step {F : Fr} (hF : Good F) {i k : Nat} (hk : k ≤ 2) (hi : i < (putL (boL F)).length + 27 + ((putL (boL F)).length + 13)) {c : Ct} (h : OmC F i k c) :
    OmC F (i + 1) k (stC c (omS F i k)).1 ∧
    ((stC c (omS F i k)).2.1 = 2 ↔ (i = (putL (boL F)).length + 8 ∧ k = 2) ∨ (i = (putL (boL F)).length + 27 + ((putL (boL F)).length + 8) ∧ k ≠ 0)) ∧
    ((stC c (omS F i k)).2.1 = 1 ↔ i = (putL (boL F)).length + 27 + ((putL (boL F)).length + 9) ∧ k = 0) := by
  have hP := P_pos F
  have hP2 := P_top hF
  rcases h with ⟨h1, h2⟩ | ⟨h1, ⟨h3, h2⟩ | ⟨h3, rfl⟩⟩ | ⟨h1, h2, h3⟩ | ⟨h1, h2, c', rfl, h3⟩
  · have hb : omB F i = xB F i := if_pos h1
    by_cases hx : i = (putL (boL F)).length + 8 ∧ k = 1
    · obtain ⟨hx1, hx2⟩ := hx
      subst hx1 hx2
      have hs : omS F ((putL (boL F)).length + 8) 1 = false := by
        unfold omS
        rw [if_pos ⟨rfl, rfl⟩, hb]
        unfold xB
        rw [if_pos (by omega), ack_at (by omega)]; rfl
      rw [hs]
      rcases h2 with ⟨h0, _⟩ | ⟨_, _, s, hr, ⟨hw, _⟩ | ⟨_, rfl⟩ | ⟨_, G, d, hg, _⟩⟩ | ⟨h0, _⟩
      · omega
      · cases hw
      · have ht := tail_turn hF (j := 8) (s := s) (by omega) hr
        rw [if_neg (by omega), if_neg (by omega)] at ht
        rw [if_pos (by omega)]
        have ht' : stC (rcvH (omG F 1).isSome ((omG F 1).getD zeroFr) zeC s) false = (phC (rcvAt (cfR 1) s) 2 0 true, (6, zeroFr)) := ht
        rw [ht']
        refine ⟨.inr (.inl ⟨rfl, .inr ⟨rfl, rfl⟩⟩), ?_, ?_⟩
        · show (6 = 2) ↔ _; simp <;> omega
        · show (6 = 1) ↔ _; simp
      · cases hg
      · omega
    · have hs : omS F i k = xB F i := by unfold omS; rw [if_neg hx, hb]
      rw [hs]
      have hst := (ro_step hF cfA_zero (om_node k) (by omega) h2).1
      obtain ⟨_, t1, t2⟩ := ro_hap hF cfA_zero (om_node k) (by omega) h2
      refine ⟨?_, t1.trans ?_, t2.trans ?_⟩
      · by_cases h8 : i = (putL (boL F)).length + 8
        · exact .inr (.inl ⟨by omega, .inl ⟨fun e => hx ⟨h8, e⟩, hst⟩⟩)
        · exact .inl ⟨by omega, hst⟩
      · simp; omega
      · simp; omega
  · have hs : omS F i k = false := by
      unfold omS omB
      rw [if_neg (by omega), if_neg (by omega), if_pos (by omega)]
    rw [hs]
    subst h1
    rcases h2 with ⟨h0, _⟩ | ⟨_, _, s, hr, ⟨hw, rfl⟩ | ⟨hw, rfl⟩ | ⟨_, G, d, hg, hp, hd, _⟩⟩ | ⟨h0, _⟩
    · omega
    · have h0 : k = 0 := by simpa using hw
      subst h0
      have hbr := break_turn hF (k := (putL (boL F)).length + 9) (by omega) (by omega) hr (ack_at (j := 9) (by omega))
      rw [decide_eq_false (by omega), if_neg (by omega)] at hbr
      rw [show (! !false) = false by rfl] at hbr
      rw [hbr]
      refine ⟨.inr (.inr (.inl ⟨by omega, by omega, .inl ⟨rfl, ?_⟩⟩)), ?_, ?_⟩
      · rw [show (putL (boL F)).length + 9 + 1 - ((putL (boL F)).length + 10) = 0 by omega]; rfl
      · show (4 = 2) ↔ _; simp <;> omega
      · show (4 = 1) ↔ _; simp <;> omega
    · have h0 : ¬ k = 0 := by simpa using hw
      have hk2 : k = 2 := by omega
      subst hk2
      have ht := tail_turn hF (j := 9) (s := s) (by omega) hr
      rw [if_pos rfl] at ht
      rw [if_neg (by omega), ev_naught.2]
      have ht' : stC (rcvH (omG F 2).isSome ((omG F 2).getD zeroFr) zeC s) false = (phC (rcvAt zeC s) 4 0 false, (9, zeroFr)) := ht
      rw [ht']
      refine ⟨.inr (.inr (.inl ⟨by omega, by omega, .inr (.inl ⟨rfl, ?_⟩)⟩)), ?_, ?_⟩
      · rw [show (putL (boL F)).length + 9 + 1 - ((putL (boL F)).length + 10) = 0 by omega]; rfl
      · show (9 = 2) ↔ _; simp <;> omega
      · show (9 = 1) ↔ _; simp
    · have := hp.bd; omega
    · omega
  · subst h1 h3
    have hs : omS F ((putL (boL F)).length + 9) 1 = false := by
      unfold omS omB
      rw [if_neg (by omega), if_neg (by omega), if_pos (by omega)]
    rw [hs]
    obtain ⟨g1, _⟩ := fl_step (rcvAt (cfR 1) s0) (ph := 2) (.inl rfl) true (j := 0) (by omega)
    rw [decide_eq_false (by omega)] at g1
    rw [g1]
    refine ⟨.inr (.inr (.inl ⟨by omega, by omega, .inr (.inr (.inl ⟨rfl, by omega, ?_⟩))⟩)), ?_, ?_⟩
    · rw [show (putL (boL F)).length + 9 + 1 - ((putL (boL F)).length + 9) = 0 + 1 by omega]
    · show (0 = 2) ↔ _; simp <;> omega
    · show (0 = 1) ↔ _; simp
  · have nn : ∀ r : Ct × Hp, r.2 = noH → (r.2.1 = 2 ↔ (i = (putL (boL F)).length + 8 ∧ k = 2) ∨ (i = (putL (boL F)).length + 27 + ((putL (boL F)).length + 8) ∧ k ≠ 0)) ∧ (r.2.1 = 1 ↔ i = (putL (boL F)).length + 27 + ((putL (boL F)).length + 9) ∧ k = 0) := fun r hr => by
      rw [hr]
      exact ⟨by show (0 = 2) ↔ _; simp <;> omega, by show (0 = 1) ↔ _; simp; omega⟩
    have hs : omS F i k = decide ((putL (boL F)).length + 16 ≤ i) := by
      unfold omS omB
      rw [if_neg (by omega), if_neg (by omega)]
      by_cases h15 : i ≤ (putL (boL F)).length + 15
      · rw [if_pos h15, decide_eq_false (by omega)]
      · rw [if_neg h15, if_pos h2, decide_eq_true (by omega)]
    rw [hs]
    have key : ∀ (C : Ct) (ph : Nat) (e : Bool) (hp : ph = 2 ∨ ph = 4) (hh : holdC C = false),
        stC (flSt C ph e (i - ((putL (boL F)).length + 10))) (decide ((putL (boL F)).length + 16 ≤ i)) = (if i = (putL (boL F)).length + 26 then phC C 0 0 e else flSt C ph e (i + 1 - ((putL (boL F)).length + 10)), noH) := fun C ph e hp hh => by
      by_cases h16 : i = (putL (boL F)).length + 26
      · rw [show i - ((putL (boL F)).length + 10) = 16 by omega, decide_eq_true (by omega), (fl_last C ph e).1, hh, if_pos h16]; rfl
      · have := (fl_step C hp e (j := i - ((putL (boL F)).length + 10)) (by omega)).1
        rw [show decide (6 ≤ i - ((putL (boL F)).length + 10)) = decide ((putL (boL F)).length + 16 ≤ i) by congr 1; apply propext; omega] at this
        rw [this, if_neg h16, show i + 1 - ((putL (boL F)).length + 10) = i - ((putL (boL F)).length + 10) + 1 by omega]
    have hend : ∀ (c0 : Ct), RoN F (omF k) 0 (omG F k) (decide (k = 0)) c0 → i = (putL (boL F)).length + 26 → ∀ C, C = wE c0 (decide (k ≠ 2)) → OmC F (i + 1) k C := fun c0 hc hi26 C hC => by
      refine .inr (.inr (.inr ⟨by omega, by omega, c0, hC, ?_⟩))
      rw [show i + 1 - ((putL (boL F)).length + 27) = 0 by omega]; exact hc
    rcases h3 with ⟨rfl, rfl⟩ | ⟨rfl, rfl⟩ | ⟨rfl, h4, rfl⟩ | ⟨rfl, h4, rfl⟩ | ⟨rfl, h4, rfl⟩
    · have hh : holdC (kC F) = false := by unfold holdC; rw [show (kC F).cf = cfT 8 from rfl, mo_8]; simp
      rw [key (kC F) 2 true (.inl rfl) hh]
      refine ⟨?_, nn _ rfl⟩
      by_cases h26 : i = (putL (boL F)).length + 26
      · rw [if_pos h26]
        exact hend (phC (kC F) 0 0 false) (.inl ⟨rfl, kC F, rfl, rfl, rfl, rfl⟩) h26 _ rfl
      · rw [if_neg h26]
        exact .inr (.inr (.inl ⟨by omega, by omega, .inl ⟨rfl, rfl⟩⟩))
    · rw [key (rcvAt zeC s0) 4 false (.inr rfl) rfl]
      refine ⟨?_, nn _ rfl⟩
      by_cases h26 : i = (putL (boL F)).length + 26
      · rw [if_pos h26]
        exact hend (phC (rcvAt zeC s0) 0 0 false) (.inl ⟨rfl, rcvAt zeC s0, rfl, rfl, rfl, rfl⟩) h26 _ rfl
      · rw [if_neg h26]
        exact .inr (.inr (.inl ⟨by omega, by omega, .inr (.inl ⟨rfl, rfl⟩)⟩))
    · rw [decide_eq_false (by omega)]
      by_cases h15 : i = (putL (boL F)).length + 15
      · subst h15
        rw [show (putL (boL F)).length + 15 - ((putL (boL F)).length + 9) = 6 by omega]
        have e6 : stC (flSt (rcvAt (cfR 1) s0) 2 true 6) false = (phC (rcvAt (cfR 9) s0) 5 1 true, noH) := by
          show waitC (phC (rcvAt (cfR 1) s0) 5 0 true) false = _
          unfold waitC
          have hw : waitE (phC (rcvAt (cfR 1) s0) 5 0 true) = 2 := rfl
          rw [if_neg Bool.false_ne_true, hw]
          have hc : cntC (phC (rcvAt (cfR 1) s0) 5 0 true) 2 = phC (rcvAt (cfR 9) s0) 5 0 true := by
            show ({ phC (rcvAt (cfR 1) s0) 5 0 true with cf := evC (cfR 1) 2 } : Ct) = _
            rw [ev_R1]; rfl
          rw [hc, if_neg (by rintro ⟨h, _⟩; revert h; decide)]
          rfl
        rw [e6]
        exact ⟨.inr (.inr (.inl ⟨by omega, by omega, .inr (.inr (.inr (.inl ⟨rfl, rfl, rfl⟩)))⟩)), nn _ rfl⟩
      · obtain ⟨g1, _⟩ := fl_step (rcvAt (cfR 1) s0) (ph := 2) (.inl rfl) true (j := i - ((putL (boL F)).length + 9)) (by omega)
        rw [decide_eq_false (by omega)] at g1
        rw [g1]
        refine ⟨.inr (.inr (.inl ⟨by omega, by omega, .inr (.inr (.inl ⟨rfl, by omega, ?_⟩))⟩)), nn _ rfl⟩
        rw [show i + 1 - ((putL (boL F)).length + 9) = i - ((putL (boL F)).length + 9) + 1 by omega]
    · subst h4
      rw [decide_eq_true (by omega), (wait_end (rcvAt (cfR 9) s0) 1 true).1]
      refine ⟨.inr (.inr (.inl ⟨by omega, by omega, .inr (.inr (.inr (.inr ⟨rfl, by omega, ?_⟩)))⟩)), nn _ rfl⟩
      rw [show (putL (boL F)).length + 16 + 1 - ((putL (boL F)).length + 10) = 7 by omega]; rfl
    · rw [key (rcvAt (cfR 9) s0) 2 true (.inl rfl) rfl]
      refine ⟨?_, nn _ rfl⟩
      by_cases h26 : i = (putL (boL F)).length + 26
      · rw [if_pos h26]
        exact hend (phC (rcvAt (cfR 9) s0) 0 0 false) (.inl ⟨rfl, rcvAt (cfR 9) s0, rfl, rfl, rfl, rfl⟩) h26 _ rfl
      · rw [if_neg h26]
        exact .inr (.inr (.inl ⟨by omega, by omega, .inr (.inr (.inr (.inr ⟨rfl, by omega, rfl⟩)))⟩))
  · have hs : omS F i k = xB F (i - ((putL (boL F)).length + 27)) := by
      unfold omS omB
      rw [if_neg (by omega), if_neg (by omega), if_neg (by omega), if_neg (by omega)]
    rw [hs]
    have hlt : i - ((putL (boL F)).length + 27) < (putL (boL F)).length + 13 := by omega
    have hst := (ro_step hF (omF_A k) (om_node k) hlt h3).1
    obtain ⟨t0, t1, t2⟩ := ro_hap hF (omF_A k) (om_node k) hlt h3
    rw [(st_err (ro_ph h3) _ _ t0).1]
    refine ⟨.inr (.inr (.inr ⟨by omega, by omega, _, rfl, ?_⟩)), t1.trans ?_, t2.trans ?_⟩
    · rw [show i + 1 - ((putL (boL F)).length + 27) = i - ((putL (boL F)).length + 27) + 1 by omega]; exact hst
    · simp; omega
    · simp; omega

/-- The bus of a sender and others. -/
theorem bus_of {l : List Ct} (h2 : 2 ≤ l.length) {W x : Bool} (h0 : ∀ h : 0 < l.length, dvC l[0] = W) (ho : ∀ j (hj : j < l.length), j ≠ 0 → x = (W && dvC l[j])) : l.all dvC = x := by
  have hw := h0 (by omega)
  have h1 := ho 1 (by omega) (by omega)
  cases W with
  | false =>
    rw [h1, Bool.false_and, List.all_eq_false]
    exact ⟨l[0], List.getElem_mem _, by rw [hw]; simp⟩
  | true =>
    cases x with
    | true =>
      rw [List.all_eq_true]
      intro c hc
      obtain ⟨j, hj, rfl⟩ := List.getElem_of_mem hc
      by_cases hn : j = 0
      · subst hn; exact hw
      · have := ho j hj hn
        rw [Bool.true_and] at this
        exact this.symm
    | false =>
      rw [List.all_eq_false]
      rw [Bool.true_and] at h1
      exact ⟨l[1], List.getElem_mem _, by rw [← h1]; simp⟩

theorem om_bus {F : Fr} (hF : Good F) {l : List Ct} {q : Nat} (hq : 1 ≤ q ∧ q < l.length) {i : Nat} (hi : i < (putL (boL F)).length + 27 + ((putL (boL F)).length + 10))
    (h : ∀ j (hj : j < l.length), OmC F i (if j = 0 then 0 else if j = q then 1 else 2) l[j]) : l.all dvC = omB F i := by
  have hk : ∀ j, (if j = 0 then 0 else if j = q then 1 else 2) ≤ 2 := fun j => by split <;> (try split) <;> omega
  have key := fun j (hj : j < l.length) => om_drive hF (hk j) hi (h j hj)
  unfold omB
  by_cases h8 : i ≤ (putL (boL F)).length + 8
  · rw [if_pos h8]
    refine bus_of (W := (wiL F)[i]?.getD false) (by omega) (fun h0 => ?_) (fun j hj hn => ?_)
    · have := (key 0 h0).1 (by omega)
      rw [if_pos (by simp)] at this; exact this
    · have := (key j hj).1 (by omega)
      rw [if_neg (by rw [if_neg hn]; split <;> omega)] at this; exact this
  rw [if_neg h8]
  by_cases h15 : i ≤ (putL (boL F)).length + 15
  · rw [if_pos h15, List.all_eq_false]
    by_cases h9 : i = (putL (boL F)).length + 9
    · refine ⟨l[q], List.getElem_mem _, ?_⟩
      have := (key q hq.2).2.1 h9 (by rw [if_neg (by omega), if_pos rfl])
      rw [this]; simp
    · refine ⟨l[0], List.getElem_mem _, ?_⟩
      have := (key 0 (by omega)).2.2.1 (by omega) h15 (by simp)
      rw [this]; simp
  rw [if_neg h15]
  by_cases h26 : i ≤ (putL (boL F)).length + 26
  · rw [if_pos h26, List.all_eq_true]
    intro c hc
    obtain ⟨j, hj, rfl⟩ := List.getElem_of_mem hc
    exact (key j hj).2.2.2.1 (by omega) h26
  · rw [if_neg h26]
    refine bus_of (W := (wiL F)[i - ((putL (boL F)).length + 27)]?.getD false) (by omega) (fun h0 => ?_) (fun j hj hn => ?_)
    · have := (key 0 h0).2.2.2.2 (by omega)
      rw [if_pos (by simp)] at this; exact this
    · have := (key j hj).2.2.2.2 (by omega)
      rw [if_neg (by rw [if_neg hn]; split <;> omega)] at this; exact this

theorem om_end {F : Fr} {k : Nat} {c : Ct} (h : OmC F ((putL (boL F)).length + 27 + ((putL (boL F)).length + 10)) k c) : c.cf = if k = 0 then cfT 7 else if k = 1 then cfR 8 else zeC := by
  have hP := P_pos F
  rcases h with ⟨h1, _⟩ | ⟨h1, _⟩ | ⟨_, h1, _⟩ | ⟨_, _, c', rfl, h3⟩
  · omega
  · omega
  · omega
  · rcases h3 with ⟨h0, _⟩ | ⟨_, h0, _⟩ | ⟨_, _, A, rfl, a1, _⟩
    · omega
    · omega
    · have e : (wE (btC A ((putL (boL F)).length + 27 + ((putL (boL F)).length + 10) - ((putL (boL F)).length + 27) - ((putL (boL F)).length + 10))) (decide (k ≠ 2))).cf = A.cf := by
        unfold btC wE; split <;> rfl
      rw [e, a1]
      unfold omF
      by_cases h0 : k = 0
      · rw [decide_eq_true h0, if_pos rfl, if_pos h0, if_pos h0]; exact ev_T8
      · rw [decide_eq_false h0, if_neg Bool.false_ne_true, if_neg h0, if_neg h0]
        by_cases h1 : k = 1
        · rw [if_pos h1, if_pos h1]; exact ev_R9
        · rw [if_neg h1, if_neg h1]; exact ev_naught.2
end Go.Proofs.Ytpcmlnleompibaa
