/-
  Plain mathematics of layer 9: one frame that goes over a bus of several controllers; who loses, who takes, who sends. Nothing of the program is spoken of here.
-/
import Derived.Test.YtpcmlnleompibaaM8l
namespace Go.Proofs.Ytpcmlnleompibaa
set_option linter.unusedVariables false

/-- Counters of one that is active, and stays so by what goes well. -/
structure CfA (cf : Cf) : Prop where
  m : moC cf = 0
  m8 : moC (evC cf 8) = 0
  m9 : moC (evC cf 9) = 0

theorem CfA.i89 {cf : Cf} (h : CfA cf) (w : Bool) : moC (if w then evC cf 8 else evC cf 9) = 0 := by cases w <;> simp [h.m8, h.m9]
theorem CfA.i9 {cf : Cf} (h : CfA cf) (p : Prop) [Decidable p] : moC (if p then cf else evC cf 9) ≤ 1 := by
  by_cases hp : p <;> simp [hp, h.m, h.m9]

theorem cfA_zero : CfA zeC := ⟨by decide, by decide, by decide⟩

/-- Idle, with a frame or none. -/
def Idl (cf : Cf) (g : Option Fr) (c : Ct) : Prop := ∃ A : Ct, c = phC A 0 0 false ∧ A.cf = cf ∧ A.has = g.isSome ∧ A.give = g.getD zeroFr

theorem bt_step3 {A : Ct} (h : moC A.cf = 0) {j : Nat} (hj : j < 3) : stC (btC A j) true = (btC A (j + 1), noH) := by
  have hh : holdC A = false := by unfold holdC; rw [h]; simp
  match j, hj with
  | 0, _ => rfl
  | 1, _ => rfl
  | 2, _ =>
    show (phC A (if holdC A = true then 8 else 0) 0 false, noH) = _
    rw [hh]; rfl
theorem bt_ok3 {A : Ct} (h : moC A.cf = 0) (h2 : A.has = true → Good A.give) (h3 : A.give.data.length ≤ 1000000) {j : Nat} : StepOK (btC A j) := by
  unfold btC
  split
  · exact ok_ph (fun _ => by rw [h]; omega) (by omega) (by omega) (by omega) h2 h3
  · exact ok_ph (fun _ => by rw [h]; omega) (by omega) (by omega) (by omega) h2 h3

/-- The bit on the bus, behind i bits of B's frame. -/
def xB (B : Fr) (i : Nat) : Bool := if i < (putL (boL B)).length + 10 then (ackL B)[i]?.getD false else true

/-- A node behind i bits of B's frame: w: it is the one whose frame that is; g: what it had to send. -/
def RoN (B : Fr) (cf : Cf) (i : Nat) (g : Option Fr) (w : Bool) (c : Ct) : Prop :=
  (i = 0 ∧ Idl cf g c) ∨
  (1 ≤ i ∧ i < (putL (boL B)).length + 10 ∧ ∃ s, Rd (ackL B) (putL (boL B)).length i s ∧
    ((w = true ∧ c = sndAt B cf s i) ∨ (w = false ∧ c = rcvH g.isSome (g.getD zeroFr) (if i ≤ (putL (boL B)).length + 8 then cf else evC cf 9) s) ∨
     (w = false ∧ ∃ G d, g = some G ∧ Pair B G (putL (boL B)).length (putL (boL G)).length d ∧ i ≤ d ∧ c = sndAt G cf s i ∧ Rd (ackL G) (putL (boL G)).length i s))) ∨
  ((putL (boL B)).length + 10 ≤ i ∧ i ≤ (putL (boL B)).length + 13 ∧ ∃ A : Ct, c = btC A (i - ((putL (boL B)).length + 10)) ∧ A.cf = (if w then evC cf 8 else evC cf 9) ∧ A.has = (!w && g.isSome) ∧ A.give = if w then zeroFr else g.getD zeroFr)

/-- What a node may have to send beside B. -/
structure NodeOK (B : Fr) (g : Option Fr) (w : Bool) : Prop where
  win : w = true → g = some B
  los : w = false → ∀ G, g = some G → Good G ∧ ∃ d, Pair B G (putL (boL B)).length (putL (boL G)).length d

theorem ro_ok {B : Fr} (hB : Good B) {cf : Cf} (hc : CfA cf) {g : Option Fr} {w : Bool} (ho : NodeOK B g w) {i : Nat} (hi : i < (putL (boL B)).length + 13) {c : Ct} (h : RoN B cf i g w c) : StepOK c := by
  have lB := good_len hB
  have zl : (zeroFr.data.length) ≤ 1000000 := by simp [zeroFr]
  have gl : (g.getD zeroFr).data.length ≤ 1000000 := by
    cases hg : g with
    | none => exact zl
    | some G =>
      show G.data.length ≤ _
      cases w with
      | true => have := ho.win rfl; rw [hg] at this; cases this; omega
      | false => have := good_len (ho.los rfl G hg).1; omega
  have gg : g.isSome = true → Good (g.getD zeroFr) := fun k => by
    cases hg : g with
    | none => rw [hg] at k; cases k
    | some G =>
      show Good G
      cases w with
      | true => have := ho.win rfl; rw [hg] at this; cases this; exact hB
      | false => exact (ho.los rfl G hg).1
  rcases h with ⟨_, A, rfl, a1, a2, a3⟩ | ⟨h1, h2, s, hr, ⟨_, rfl⟩ | ⟨_, rfl⟩ | ⟨_, G, d, hg, hp, hd, rfl, hr2⟩⟩ | ⟨h1, h2, A, rfl, a1, a2, a3⟩
  · exact ok_ph (fun _ => by rw [a1, hc.m]; omega) (by omega) (by omega) (by omega) (fun k => by rw [a3]; exact gg (by rw [← a2]; exact k)) (by rw [a3]; exact gl)
  · exact ok_snd hB (by rw [hc.m]; omega) h1 h2 hr (rd_len hB h1 h2 hr)
  · exact ok_rcv hB gg gl (hc.i9 _) h2 hr
  · have := hp.bd
    exact ok_snd hp.g (by rw [hc.m]; omega) h1 (by omega) hr2 (rd_len hp.g h1 (by omega) hr2)
  · refine bt_ok3 (by rw [a1]; exact hc.i89 w) (fun k => ?_) ?_
    · rw [a2] at k
      cases w with
      | true => cases k
      | false => rw [a3, if_neg Bool.false_ne_true]; exact gg (by simpa using k)
    · rw [a3]; split
      · exact zl
      · exact gl

/-- One bit: where each node stands behind it, what happens at it, what it drives. -/
theorem ro_step {B : Fr} (hB : Good B) {cf : Cf} (hf : CfA cf) {g : Option Fr} {w : Bool} (ho : NodeOK B g w) {i : Nat} (hi : i < (putL (boL B)).length + 13) {c : Ct} (h : RoN B cf i g w c) :
    RoN B cf (i + 1) g w (stC c (xB B i)).1 ∧
    ((stC c (xB B i)).2 = (if w then (if i = (putL (boL B)).length + 9 then (1, B) else noH) else (if i = (putL (boL B)).length + 8 then (2, B) else noH)) ∨ (w = false ∧ i < (putL (boL B)).length ∧ (stC c (xB B i)).2 = (3, zeroFr))) ∧
    (i < (putL (boL B)).length + 10 → if w then dvC c = ((wiL B)[i]?.getD false) else xB B i = (((wiL B)[i]?.getD false) && dvC c)) ∧
    ((putL (boL B)).length + 10 ≤ i → dvC c = true) := by
  have hP := P_pos B
  rcases h with ⟨rfl, A, rfl, a1, a2, a3⟩ | ⟨h1, h2, s, hr, hc⟩ | ⟨h1, h2, A, rfl, a1, a2, a3⟩
  · have hx : xB B 0 = false := by unfold xB; rw [if_pos (by omega), ack_first]; rfl
    have hw0 : (wiL B)[0]?.getD false = false := by rw [wi_first]; rfl
    have hst : stC (phC A 0 0 false) false = (begC (phC A 0 0 false) A.has, noH) := rfl
    rw [hx, hw0, hst]
    refine ⟨.inr (.inl ⟨by omega, by omega, (nxT s0 false).1, rd_one hB, ?_⟩), .inl ?_, fun _ => ?_, fun k => absurd k (by omega)⟩
    · cases w with
      | true =>
        refine .inl ⟨rfl, ?_⟩
        have hg := ho.win rfl
        subst hg
        show (⟨1, 0, A.cf, A.has, A.give, A.has, A.has, if A.has then wiL A.give else [], if A.has then 1 else 0, (nxT s0 false).1, false, 0, false, false⟩ : Ct) = _
        rw [a1, a2, a3]; rfl
      | false =>
        cases hg : g with
        | none =>
          subst hg
          refine .inr (.inl ⟨rfl, ?_⟩)
          rw [if_pos (show 0 + 1 ≤ _ by omega)]
          show (⟨1, 0, A.cf, A.has, A.give, A.has, A.has, if A.has then wiL A.give else [], if A.has then 1 else 0, (nxT s0 false).1, false, 0, false, false⟩ : Ct) = _
          rw [a1, a2, a3]; rfl
        | some G =>
          obtain ⟨_, d, hp⟩ := ho.los rfl G hg
          subst hg
          have hb := hp.bd
          refine .inr (.inr ⟨rfl, G, d, rfl, hp, by omega, ?_, rd_one hp.g⟩)
          show (⟨1, 0, A.cf, A.has, A.give, A.has, A.has, if A.has then wiL A.give else [], if A.has then 1 else 0, (nxT s0 false).1, false, 0, false, false⟩ : Ct) = _
          rw [a1, a2, a3]; rfl
    · cases w with
      | true => rw [if_pos rfl, if_neg (by omega)]
      | false => rw [if_neg Bool.false_ne_true, if_neg (by omega)]
    · cases w with
      | true =>
        rw [if_pos rfl]
        have hg := ho.win rfl
        subst hg
        show (!A.has) = false
        rw [a2]; rfl
      | false => rw [if_neg Bool.false_ne_true]; rfl
  · obtain ⟨x, hx⟩ : ∃ x, (ackL B)[i]? = some x := ⟨(ackL B)[i]'(by unfold ackL; rw [List.length_set, wiL_length]; omega), by simp⟩
    have hxb : xB B i = x := by unfold xB; rw [if_pos h2, hx]; rfl
    rw [hxb]
    obtain ⟨_, _, d3', _, _, hr'⟩ := sends_step hB h1 h2 hr hx cf false zeroFr
    rcases hc with ⟨rfl, rfl⟩ | ⟨rfl, rfl⟩ | ⟨rfl, G, d, rfl, hp, hd, rfl, hr2⟩
    · obtain ⟨d1, _, d3, d4, _, _⟩ := sends_step hB h1 h2 hr hx cf false zeroFr
      rw [d4]
      refine ⟨?_, .inl ?_, fun _ => by rw [if_pos rfl]; exact d1, fun k => absurd k (by omega)⟩
      · by_cases h9 : i + 1 < (putL (boL B)).length + 10
        · rw [if_pos h9]
          exact .inr (.inl ⟨by omega, h9, _, hr', .inl ⟨rfl, rfl⟩⟩)
        · rw [if_neg h9]
          refine .inr (.inr ⟨by omega, by omega, { sndAt B (evC cf 8) s i with has := false, give := zeroFr }, ?_, by rw [if_pos rfl]; rfl, rfl, rfl⟩)
          rw [show i + 1 - ((putL (boL B)).length + 10) = 0 by omega]; rfl
      · rw [if_pos rfl]
        by_cases h9 : i + 1 < (putL (boL B)).length + 10
        · rw [if_pos h9, if_neg (by omega)]
        · rw [if_neg h9, if_pos (by omega)]
    · obtain ⟨cf', hcf'⟩ : ∃ cf', cf' = (if i ≤ (putL (boL B)).length + 8 then cf else evC cf 9) := ⟨_, rfl⟩
      rw [← hcf']
      obtain ⟨_, d2, d3, _, d5, _⟩ := sends_step hB h1 h2 hr hx cf' g.isSome (g.getD zeroFr)
      rw [d5]
      have hdr : i < (putL (boL B)).length + 10 → if false = true then dvC (rcvH g.isSome (g.getD zeroFr) cf' s) = ((wiL B)[i]?.getD false) else x = (((wiL B)[i]?.getD false) && dvC (rcvH g.isSome (g.getD zeroFr) cf' s)) := fun _ => by
        rw [if_neg Bool.false_ne_true, d2]; exact d3
      by_cases h8 : i = (putL (boL B)).length + 8
      · rw [if_pos (show i ≤ _ by omega)] at hcf'
        rw [if_pos h8, hcf']
        refine ⟨.inr (.inl ⟨by omega, by omega, _, hr', .inr (.inl ⟨rfl, ?_⟩)⟩), .inl ?_, by rw [← hcf']; exact hdr, fun k => absurd k (by omega)⟩
        · rw [if_neg (show ¬ i + 1 ≤ _ by omega)]
        · rw [if_neg Bool.false_ne_true, if_pos h8]
      · rw [if_neg h8]
        by_cases h9 : i = (putL (boL B)).length + 9
        · rw [if_neg (show ¬ i ≤ _ by omega)] at hcf'
          rw [if_pos h9, hcf']
          refine ⟨.inr (.inr ⟨by omega, by omega, rcvH g.isSome (g.getD zeroFr) (evC cf 9) s, ?_, by rw [if_neg Bool.false_ne_true]; rfl, by show g.isSome = (!false && g.isSome); simp, by rw [if_neg Bool.false_ne_true]; rfl⟩), .inl ?_, by rw [← hcf']; exact hdr, fun k => absurd k (by omega)⟩
          · rw [show i + 1 - ((putL (boL B)).length + 10) = 0 by omega]; rfl
          · rw [if_neg Bool.false_ne_true, if_neg h8]
        · rw [if_pos (show i ≤ _ by omega)] at hcf'
          rw [if_neg h9, hcf']
          refine ⟨.inr (.inl ⟨by omega, by omega, _, hr', .inr (.inl ⟨rfl, ?_⟩)⟩), .inl ?_, by rw [← hcf']; exact hdr, fun k => absurd k (by omega)⟩
          · rw [if_pos (show i + 1 ≤ _ by omega)]
          · rw [if_neg Bool.false_ne_true, if_neg h8]
    · have hb := hp.bd
      have hgG := hp.g
      obtain ⟨_, _, _, _, p, r1, r2, e1, e2, e3, e4, hdd⟩ := hp
      obtain ⟨aF1, aF2⟩ := ack_split e1
      obtain ⟨aG1, aG2⟩ := ack_split e2
      rw [← hdd] at aF1 aF2 aG1 aG2
      by_cases hid : i = d
      · subst hid
        have hx0 : x = false := by rw [aF2] at hx; cases hx; rfl
        subst hx0
        obtain ⟨w1, _, w3⟩ := wi_split e1
        obtain ⟨v1, _, v3⟩ := wi_split e2
        rw [← hdd] at w1 w3 v1 v3
        have hl : stC (sndAt G cf s i) false = (rcvH true G cf (nxT s false).1, (3, zeroFr)) := by
          have := lost_step hgG e2 (s := s) (by rw [← hdd]; exact hr2) e3 e4 cf
          rw [← hdd] at this; exact this
        rw [hl]
        refine ⟨.inr (.inl ⟨by omega, by omega, _, hr', .inr (.inl ⟨rfl, by rw [if_pos (show i + 1 ≤ _ by omega)]; rfl⟩)⟩), .inr ⟨rfl, by omega, rfl⟩, fun _ => ?_, fun k => absurd k (by omega)⟩
        rw [if_neg Bool.false_ne_true, w3]; rfl
      · have hid' : i < d := by omega
        have hxp : (putL p)[i]? = some x := by
          rw [← aF1, List.getElem?_take, if_pos hid'] ; exact hx
        have xG : (ackL G)[i]? = some x := by
          have : ((ackL G).take d)[i]? = some x := by rw [aG1]; exact hxp
          rw [List.getElem?_take, if_pos hid'] at this; exact this
        obtain ⟨f1, _, f3, f4, _, f6⟩ := sends_step hgG h1 (by omega) hr2 xG cf false zeroFr
        rw [f4, if_pos (by omega)]
        rw [decide_eq_false (by omega)] at f3 d3'
        simp only [Bool.not_false, Bool.and_true] at f3 d3'
        refine ⟨.inr (.inl ⟨by omega, by omega, _, hr', .inr (.inr ⟨rfl, G, d, rfl, ⟨hB, hgG, rfl, rfl, p, r1, r2, e1, e2, e3, e4, hdd⟩, by omega, rfl, f6⟩)⟩), .inl ?_, fun _ => ?_, fun k => absurd k (by omega)⟩
        · rw [if_neg Bool.false_ne_true, if_neg (by omega)]
        · rw [if_neg Bool.false_ne_true, f1, ← f3, ← d3']; simp
  · have hj : i - ((putL (boL B)).length + 10) < 3 := by omega
    have hx : xB B i = true := by unfold xB; rw [if_neg (by omega)]
    rw [hx, bt_step3 (by rw [a1]; exact hf.i89 w) hj]
    refine ⟨.inr (.inr ⟨by omega, by omega, A, ?_, a1, a2, a3⟩), .inl ?_, fun k => absurd k (by omega), fun _ => bt_drive hj⟩
    · rw [show i + 1 - ((putL (boL B)).length + 10) = i - ((putL (boL B)).length + 10) + 1 by omega]
    · cases w with
      | true => rw [if_pos rfl, if_neg (by omega)]
      | false => rw [if_neg Bool.false_ne_true, if_neg (by omega)]

/-- Behind the third bit between all are idle, and the one that sent has none. -/
theorem ro_end {B : Fr} {cf : Cf} {g : Option Fr} {w : Bool} {c : Ct} (h : RoN B cf ((putL (boL B)).length + 13) g w c) : Idl (if w then evC cf 8 else evC cf 9) (if w then none else g) c := by
  rcases h with ⟨h0, _⟩ | ⟨_, h0, _⟩ | ⟨_, _, A, rfl, a1, a2, a3⟩
  · omega
  · omega
  · refine ⟨A, ?_, a1, ?_, ?_⟩
    · rw [show (putL (boL B)).length + 13 - ((putL (boL B)).length + 10) = 3 by omega]; rfl
    · rw [a2]; cases w <;> simp
    · rw [a3]; cases w <;> simp

/-- The bus of several of which one sends B: just the bit that all stand for. -/
theorem ro_bus {B : Fr} (hB : Good B) {cf : Nat → Cf} (hf : ∀ j, CfA (cf j)) {l : List Ct} {gs : List (Option Fr)} {jw : Nat} (hl : l.length = gs.length) (hw : jw < l.length) (h2 : 2 ≤ l.length) {i : Nat} (hi : i < (putL (boL B)).length + 13)
    (ho : ∀ j (hj : j < gs.length), NodeOK B gs[j] (decide (j = jw))) (h : ∀ j (hj : j < l.length), RoN B (cf j) i (gs[j]'(hl ▸ hj)) (decide (j = jw)) l[j]) : l.all dvC = xB B i := by
  have key : ∀ j (hj : j < l.length), _ := fun j hj => (ro_step hB (hf j) (ho j (hl ▸ hj)) hi (h j hj)).2.2
  by_cases hlo : i < (putL (boL B)).length + 10
  · have hwin := (key jw hw).1 hlo
    rw [decide_eq_true rfl, if_pos rfl] at hwin
    have hoth : ∀ j (hj : j < l.length), j ≠ jw → xB B i = (((wiL B)[i]?.getD false) && dvC l[j]) := fun j hj hn => by
      have := (key j hj).1 hlo
      rw [decide_eq_false hn, if_neg Bool.false_ne_true] at this
      exact this
    obtain ⟨j1, hj1, hn1⟩ : ∃ j, j < l.length ∧ j ≠ jw := by
      by_cases h0 : jw = 0
      · exact ⟨1, by omega, by omega⟩
      · exact ⟨0, by omega, by omega⟩
    cases hb : (wiL B)[i]?.getD false with
    | false =>
      have hx := hoth j1 hj1 hn1
      rw [hb] at hx hwin
      rw [hx, Bool.false_and]
      rw [List.all_eq_false]
      exact ⟨l[jw], List.getElem_mem hw, by rw [hwin]; simp⟩
    | true =>
      rw [hb] at hwin
      cases hx : xB B i with
      | true =>
        rw [List.all_eq_true]
        intro c hc
        obtain ⟨j, hj, rfl⟩ := List.getElem_of_mem hc
        by_cases hn : j = jw
        · subst hn; exact hwin
        · have := hoth j hj hn
          rw [hx, hb, Bool.true_and] at this
          exact this.symm
      | false =>
        rw [List.all_eq_false]
        have := hoth j1 hj1 hn1
        rw [hx, hb, Bool.true_and] at this
        exact ⟨l[j1], List.getElem_mem hj1, by rw [← this]; simp⟩
  · have hx : xB B i = true := by unfold xB; rw [if_neg hlo]
    rw [hx, List.all_eq_true]
    intro c hc
    obtain ⟨j, hj, rfl⟩ := List.getElem_of_mem hc
    exact (key j hj).2 (by omega)
end Go.Proofs.Ytpcmlnleompibaa
