/-
  Plain mathematics of layer 9: one frame that goes over a bus of several controllers; who loses, who takes, who sends. Nothing of the program is spoken of here.
  Plain mathematics of layer 9: whether the last flag was an error's says nothing while a frame goes over the bus.
  Plain mathematics of layer 9: one receiver samples the last bit but one turned about: it does not take the frame, all others do; it is sent again (NetOmits).
-/
import Derived.Test.YtgpmhmdofefdcaaGreatM8m
namespace Go.Proofs.YtgpmhmdofefdcaaGreat
set_option linter.unusedVariables false

/-- Counters of one that is active, and stays so by what goes well. -/
structure CfA (cf : Cf) : Prop where
  m : moC cf = 0
  m8 : moC (evC cf 8) = 0
  m9 : moC (evC cf 9) = 0

theorem CfA.i89 {cf : Cf} (h : CfA cf) (w : Bool) : moC (if w then evC cf 8 else evC cf 9) = 0 := by cases w <;> simp [h.m8, h.m9]
theorem CfA.i9 {cf : Cf} (h : CfA cf) (p : Prop) [Decidable p] : moC (if p then cf else evC cf 9) ≤ 1 := by
  by_cases hp : p <;> simp [hp, h.m, h.m9]

theorem cfA_zero : CfA zeC := ⟨by decide, by decide, by decide⟩

/-- Idle, with a frame or none. -/
def Idl (cf : Cf) (g : Option Fr) (c : Ct) : Prop := ∃ A : Ct, c = phC A 0 0 false ∧ A.cf = cf ∧ A.has = g.isSome ∧ A.give = g.getD zeroFr

theorem bt_step3 {A : Ct} (h : moC A.cf = 0) {j : Nat} (hj : j < 3) : stC (btC A j) true = (btC A (j + 1), noH) := by
  have hh : holdC A = false := by unfold holdC; rw [h]; simp
  match j, hj with
  | 0, _ => rfl
  | 1, _ => rfl
  | 2, _ =>
    show (phC A (if holdC A = true then 8 else 0) 0 false, noH) = _
    rw [hh]; rfl
theorem bt_ok3 {A : Ct} (h : moC A.cf = 0) (h2 : A.has = true → Good A.give) (h3 : A.give.data.length ≤ 1000000) {j : Nat} : StepOK (btC A j) := by
  unfold btC
  split
  · exact ok_ph (fun _ => by rw [h]; omega) (by omega) (by omega) (by omega) h2 h3
  · exact ok_ph (fun _ => by rw [h]; omega) (by omega) (by omega) (by omega) h2 h3

/-- The bit on the bus, behind i bits of B's frame. -/
def xB (B : Fr) (i : Nat) : Bool := if i < (putL (boL B)).length + 10 then (ackL B)[i]?.getD false else true

/-- A node behind i bits of B's frame: w: it is the one whose frame that is; g: what it had to send. -/
def RoN (B : Fr) (cf : Cf) (i : Nat) (g : Option Fr) (w : Bool) (c : Ct) : Prop :=
  (i = 0 ∧ Idl cf g c) ∨
  (1 ≤ i ∧ i < (putL (boL B)).length + 10 ∧ ∃ s, Rd (ackL B) (putL (boL B)).length i s ∧
    ((w = true ∧ c = sndAt B cf s i) ∨ (w = false ∧ c = rcvH g.isSome (g.getD zeroFr) (if i ≤ (putL (boL B)).length + 8 then cf else evC cf 9) s) ∨
     (w = false ∧ ∃ G d, g = some G ∧ Pair B G (putL (boL B)).length (putL (boL G)).length d ∧ i ≤ d ∧ c = sndAt G cf s i ∧ Rd (ackL G) (putL (boL G)).length i s))) ∨
  ((putL (boL B)).length + 10 ≤ i ∧ i ≤ (putL (boL B)).length + 13 ∧ ∃ A : Ct, c = btC A (i - ((putL (boL B)).length + 10)) ∧ A.cf = (if w then evC cf 8 else evC cf 9) ∧ A.has = (!w && g.isSome) ∧ A.give = if w then zeroFr else g.getD zeroFr)

/-- What a node may have to send beside B. -/
structure NodeOK (B : Fr) (g : Option Fr) (w : Bool) : Prop where
  win : w = true → g = some B
  los : w = false → ∀ G, g = some G → Good G ∧ ∃ d, Pair B G (putL (boL B)).length (putL (boL G)).length d

theorem ro_ok {B : Fr} (hB : Good B) {cf : Cf} (hc : CfA cf) {g : Option Fr} {w : Bool} (ho : NodeOK B g w) {i : Nat} (hi : i < (putL (boL B)).length + 13) {c : Ct} (h : RoN B cf i g w c) : StepOK c := by
  have lB := good_len hB
  have zl : (zeroFr.data.length) ≤ 1000000 := by simp [zeroFr]
  have gl : (g.getD zeroFr).data.length ≤ 1000000 := by
    cases hg : g with
    | none => exact zl
    | some G =>
      show G.data.length ≤ _
      cases w with
      | true => have := ho.win rfl; rw [hg] at this; cases this; omega
      | false => have := good_len (ho.los rfl G hg).1; omega
  have gg : g.isSome = true → Good (g.getD zeroFr) := fun k => by
    cases hg : g with
    | none => rw [hg] at k; cases k
    | some G =>
      show Good G
      cases w with
      | true => have := ho.win rfl; rw [hg] at this; cases this; exact hB
      | false => exact (ho.los rfl G hg).1
  rcases h with ⟨_, A, rfl, a1, a2, a3⟩ | ⟨h1, h2, s, hr, ⟨_, rfl⟩ | ⟨_, rfl⟩ | ⟨_, G, d, hg, hp, hd, rfl, hr2⟩⟩ | ⟨h1, h2, A, rfl, a1, a2, a3⟩
  · exact ok_ph (fun _ => by rw [a1, hc.m]; omega) (by omega) (by omega) (by omega) (fun k => by rw [a3]; exact gg (by rw [← a2]; exact k)) (by rw [a3]; exact gl)
  · exact ok_snd hB (by rw [hc.m]; omega) h1 h2 hr (rd_len hB h1 h2 hr)
  · exact ok_rcv hB gg gl (hc.i9 _) h2 hr
  · have := hp.bd
    exact ok_snd hp.g (by rw [hc.m]; omega) h1 (by omega) hr2 (rd_len hp.g h1 (by omega) hr2)
  · refine bt_ok3 (by rw [a1]; exact hc.i89 w) (fun k => ?_) ?_
    · rw [a2] at k
      cases w with
      | true => cases k
      | false => rw [a3, if_neg Bool.false_ne_true]; exact gg (by simpa using k)
    · rw [a3]; split
      · exact zl
      · exact gl

/-- One bit: where each node stands behind it, what happens at it, what it drives. -/
theorem ro_step {B : Fr} (hB : Good B) {cf : Cf} (hf : CfA cf) {g : Option Fr} {w : Bool} (ho : NodeOK B g w) {i : Nat} (hi : i < (putL (boL B)).length + 13) {c : Ct} (h : RoN B cf i g w c) :
    RoN B cf (i + 1) g w (stC c (xB B i)).1 ∧
    ((stC c (xB B i)).2 = (if w then (if i = (putL (boL B)).length + 9 then (1, B) else noH) else (if i = (putL (boL B)).length + 8 then (2, B) else noH)) ∨ (w = false ∧ i < (putL (boL B)).length ∧ (stC c (xB B i)).2 = (3, zeroFr))) ∧
    (i < (putL (boL B)).length + 10 → if w then dvC c = ((wiL B)[i]?.getD false) else xB B i = (((wiL B)[i]?.getD false) && dvC c)) ∧
    ((putL (boL B)).length + 10 ≤ i → dvC c = true) := by
  have hP := P_pos B
  rcases h with ⟨rfl, A, rfl, a1, a2, a3⟩ | ⟨h1, h2, s, hr, hc⟩ | ⟨h1, h2, A, rfl, a1, a2, a3⟩
  · have hx : xB B 0 = false := by unfold xB; rw [if_pos (by omega), ack_first]; rfl
    have hw0 : (wiL B)[0]?.getD false = false := by rw [wi_first]; rfl
    have hst : stC (phC A 0 0 false) false = (begC (phC A 0 0 false) A.has, noH) := rfl
    rw [hx, hw0, hst]
    refine ⟨.inr (.inl ⟨by omega, by omega, (nxT s0 false).1, rd_one hB, ?_⟩), .inl ?_, fun _ => ?_, fun k => absurd k (by omega)⟩
    · cases w with
      | true =>
        refine .inl ⟨rfl, ?_⟩
        have hg := ho.win rfl
        subst hg
        show (⟨1, 0, A.cf, A.has, A.give, A.has, A.has, if A.has then wiL A.give else [], if A.has then 1 else 0, (nxT s0 false).1, false, 0, false, false⟩ : Ct) = _
        rw [a1, a2, a3]; rfl
      | false =>
        cases hg : g with
        | none =>
          subst hg
          refine .inr (.inl ⟨rfl, ?_⟩)
          rw [if_pos (show 0 + 1 ≤ _ by omega)]
          show (⟨1, 0, A.cf, A.has, A.give, A.has, A.has, if A.has then wiL A.give else [], if A.has then 1 else 0, (nxT s0 false).1, false, 0, false, false⟩ : Ct) = _
          rw [a1, a2, a3]; rfl
        | some G =>
          obtain ⟨_, d, hp⟩ := ho.los rfl G hg
          subst hg
          have hb := hp.bd
          refine .inr (.inr ⟨rfl, G, d, rfl, hp, by omega, ?_, rd_one hp.g⟩)
          show (⟨1, 0, A.cf, A.has, A.give, A.has, A.has, if A.has then wiL A.give else [], if A.has then 1 else 0, (nxT s0 false).1, false, 0, false, false⟩ : Ct) = _
          rw [a1, a2, a3]; rfl
    · cases w with
      | true => rw [if_pos rfl, if_neg (by omega)]
      | false => rw [if_neg Bool.false_ne_true, if_neg (by omega)]
    · cases w with
      | true =>
        rw [if_pos rfl]
        have hg := ho.win rfl
        subst hg
        show (!A.has) = false
        rw [a2]; rfl
      | false => rw [if_neg Bool.false_ne_true]; rfl
  · obtain ⟨x, hx⟩ : ∃ x, (ackL B)[i]? = some x := ⟨(ackL B)[i]'(by unfold ackL; rw [List.length_set, wiL_length]; omega), by simp⟩
    have hxb : xB B i = x := by unfold xB; rw [if_pos h2, hx]; rfl
    rw [hxb]
    obtain ⟨_, _, d3', _, _, hr'⟩ := sends_step hB h1 h2 hr hx cf false zeroFr
    rcases hc with ⟨rfl, rfl⟩ | ⟨rfl, rfl⟩ | ⟨rfl, G, d, rfl, hp, hd, rfl, hr2⟩
    · obtain ⟨d1, _, d3, d4, _, _⟩ := sends_step hB h1 h2 hr hx cf false zeroFr
      rw [d4]
      refine ⟨?_, .inl ?_, fun _ => by rw [if_pos rfl]; exact d1, fun k => absurd k (by omega)⟩
      · by_cases h9 : i + 1 < (putL (boL B)).length + 10
        · rw [if_pos h9]
          exact .inr (.inl ⟨by omega, h9, _, hr', .inl ⟨rfl, rfl⟩⟩)
        · rw [if_neg h9]
          refine .inr (.inr ⟨by omega, by omega, { sndAt B (evC cf 8) s i with has := false, give := zeroFr }, ?_, by rw [if_pos rfl]; rfl, rfl, rfl⟩)
          rw [show i + 1 - ((putL (boL B)).length + 10) = 0 by omega]; rfl
      · rw [if_pos rfl]
        by_cases h9 : i + 1 < (putL (boL B)).length + 10
        · rw [if_pos h9, if_neg (by omega)]
        · rw [if_neg h9, if_pos (by omega)]
    · obtain ⟨cf', hcf'⟩ : ∃ cf', cf' = (if i ≤ (putL (boL B)).length + 8 then cf else evC cf 9) := ⟨_, rfl⟩
      rw [← hcf']
      obtain ⟨_, d2, d3, _, d5, _⟩ := sends_step hB h1 h2 hr hx cf' g.isSome (g.getD zeroFr)
      rw [d5]
      have hdr : i < (putL (boL B)).length + 10 → if false = true then dvC (rcvH g.isSome (g.getD zeroFr) cf' s) = ((wiL B)[i]?.getD false) else x = (((wiL B)[i]?.getD false) && dvC (rcvH g.isSome (g.getD zeroFr) cf' s)) := fun _ => by
        rw [if_neg Bool.false_ne_true, d2]; exact d3
      by_cases h8 : i = (putL (boL B)).length + 8
      · rw [if_pos (show i ≤ _ by omega)] at hcf'
        rw [if_pos h8, hcf']
        refine ⟨.inr (.inl ⟨by omega, by omega, _, hr', .inr (.inl ⟨rfl, ?_⟩)⟩), .inl ?_, by rw [← hcf']; exact hdr, fun k => absurd k (by omega)⟩
        · rw [if_neg (show ¬ i + 1 ≤ _ by omega)]
        · rw [if_neg Bool.false_ne_true, if_pos h8]
      · rw [if_neg h8]
        by_cases h9 : i = (putL (boL B)).length + 9
        · rw [if_neg (show ¬ i ≤ _ by omega)] at hcf'
          rw [if_pos h9, hcf']
          refine ⟨.inr (.inr ⟨by omega, by omega, rcvH g.isSome (g.getD zeroFr) (evC cf 9) s, ?_, by rw [if_neg Bool.false_ne_true]; rfl, by show g.isSome = (!false && g.isSome); simp, by rw [if_neg Bool.false_ne_true]; rfl⟩), .inl ?_, by rw [← hcf']; exact hdr, fun k => absurd k (by omega)⟩
          · rw [show i + 1 - ((putL (boL B)).length + 10) = 0 by omega]; rfl
          · rw [if_neg Bool.false_ne_true, if_neg h8]
        · rw [if_pos (show i ≤ _ by omega)] at hcf'
          rw [if_neg h9, hcf']
          refine ⟨.inr (.inl ⟨by omega, by omega, _, hr', .inr (.inl ⟨rfl, ?_⟩)⟩), .inl ?_, by rw [← hcf']; exact hdr, fun k => absurd k (by omega)⟩
          · rw [if_pos (show i + 1 ≤ _ by omega)]
          · rw [if_neg Bool.false_ne_true, if_neg h8]
    · have hb := hp.bd
      have hgG := hp.g
      obtain ⟨_, _, _, _, p, r1, r2, e1, e2, e3, e4, hdd⟩ := hp
      obtain ⟨aF1, aF2⟩ := ack_split e1
      obtain ⟨aG1, aG2⟩ := ack_split e2
      rw [← hdd] at aF1 aF2 aG1 aG2
      by_cases hid : i = d
      · subst hid
        have hx0 : x = false := by rw [aF2] at hx; cases hx; rfl
        subst hx0
        obtain ⟨w1, _, w3⟩ := wi_split e1
        obtain ⟨v1, _, v3⟩ := wi_split e2
        rw [← hdd] at w1 w3 v1 v3
        have hl : stC (sndAt G cf s i) false = (rcvH true G cf (nxT s false).1, (3, zeroFr)) := by
          have := lost_step hgG e2 (s := s) (by rw [← hdd]; exact hr2) e3 e4 cf
          rw [← hdd] at this; exact this
        rw [hl]
        refine ⟨.inr (.inl ⟨by omega, by omega, _, hr', .inr (.inl ⟨rfl, by rw [if_pos (show i + 1 ≤ _ by omega)]; rfl⟩)⟩), .inr ⟨rfl, by omega, rfl⟩, fun _ => ?_, fun k => absurd k (by omega)⟩
        rw [if_neg Bool.false_ne_true, w3]; rfl
      · have hid' : i < d := by omega
        have hxp : (putL p)[i]? = some x := by
          rw [← aF1, List.getElem?_take, if_pos hid'] ; exact hx
        have xG : (ackL G)[i]? = some x := by
          have : ((ackL G).take d)[i]? = some x := by rw [aG1]; exact hxp
          rw [List.getElem?_take, if_pos hid'] at this; exact this
        obtain ⟨f1, _, f3, f4, _, f6⟩ := sends_step hgG h1 (by omega) hr2 xG cf false zeroFr
        rw [f4, if_pos (by omega)]
        rw [decide_eq_false (by omega)] at f3 d3'
        simp only [Bool.not_false, Bool.and_true] at f3 d3'
        refine ⟨.inr (.inl ⟨by omega, by omega, _, hr', .inr (.inr ⟨rfl, G, d, rfl, ⟨hB, hgG, rfl, rfl, p, r1, r2, e1, e2, e3, e4, hdd⟩, by omega, rfl, f6⟩)⟩), .inl ?_, fun _ => ?_, fun k => absurd k (by omega)⟩
        · rw [if_neg Bool.false_ne_true, if_neg (by omega)]
        · rw [if_neg Bool.false_ne_true, f1, ← f3, ← d3']; simp
  · have hj : i - ((putL (boL B)).length + 10) < 3 := by omega
    have hx : xB B i = true := by unfold xB; rw [if_neg (by omega)]
    rw [hx, bt_step3 (by rw [a1]; exact hf.i89 w) hj]
    refine ⟨.inr (.inr ⟨by omega, by omega, A, ?_, a1, a2, a3⟩), .inl ?_, fun k => absurd k (by omega), fun _ => bt_drive hj⟩
    · rw [show i + 1 - ((putL (boL B)).length + 10) = i - ((putL (boL B)).length + 10) + 1 by omega]
    · cases w with
      | true => rw [if_pos rfl, if_neg (by omega)]
      | false => rw [if_neg Bool.false_ne_true, if_neg (by omega)]

/-- Behind the third bit between all are idle, and the one that sent has none. -/
theorem ro_end {B : Fr} {cf : Cf} {g : Option Fr} {w : Bool} {c : Ct} (h : RoN B cf ((putL (boL B)).length + 13) g w c) : Idl (if w then evC cf 8 else evC cf 9) (if w then none else g) c := by
  rcases h with ⟨h0, _⟩ | ⟨_, h0, _⟩ | ⟨_, _, A, rfl, a1, a2, a3⟩
  · omega
  · omega
  · refine ⟨A, ?_, a1, ?_, ?_⟩
    · rw [show (putL (boL B)).length + 13 - ((putL (boL B)).length + 10) = 3 by omega]; rfl
    · rw [a2]; cases w <;> simp
    · rw [a3]; cases w <;> simp

/-- The bus of several of which one sends B: just the bit that all stand for. -/
theorem ro_bus {B : Fr} (hB : Good B) {cf : Nat → Cf} (hf : ∀ j, CfA (cf j)) {l : List Ct} {gs : List (Option Fr)} {jw : Nat} (hl : l.length = gs.length) (hw : jw < l.length) (h2 : 2 ≤ l.length) {i : Nat} (hi : i < (putL (boL B)).length + 13)
    (ho : ∀ j (hj : j < gs.length), NodeOK B gs[j] (decide (j = jw))) (h : ∀ j (hj : j < l.length), RoN B (cf j) i (gs[j]'(hl ▸ hj)) (decide (j = jw)) l[j]) : l.all dvC = xB B i := by
  have key : ∀ j (hj : j < l.length), _ := fun j hj => (ro_step hB (hf j) (ho j (hl ▸ hj)) hi (h j hj)).2.2
  by_cases hlo : i < (putL (boL B)).length + 10
  · have hwin := (key jw hw).1 hlo
    rw [decide_eq_true rfl, if_pos rfl] at hwin
    have hoth : ∀ j (hj : j < l.length), j ≠ jw → xB B i = (((wiL B)[i]?.getD false) && dvC l[j]) := fun j hj hn => by
      have := (key j hj).1 hlo
      rw [decide_eq_false hn, if_neg Bool.false_ne_true] at this
      exact this
    obtain ⟨j1, hj1, hn1⟩ : ∃ j, j < l.length ∧ j ≠ jw := by
      by_cases h0 : jw = 0
      · exact ⟨1, by omega, by omega⟩
      · exact ⟨0, by omega, by omega⟩
    cases hb : (wiL B)[i]?.getD false with
    | false =>
      have hx := hoth j1 hj1 hn1
      rw [hb] at hx hwin
      rw [hx, Bool.false_and]
      rw [List.all_eq_false]
      exact ⟨l[jw], List.getElem_mem hw, by rw [hwin]; simp⟩
    | true =>
      rw [hb] at hwin
      cases hx : xB B i with
      | true =>
        rw [List.all_eq_true]
        intro c hc
        obtain ⟨j, hj, rfl⟩ := List.getElem_of_mem hc
        by_cases hn : j = jw
        · subst hn; exact hwin
        · have := hoth j hj hn
          rw [hx, hb, Bool.true_and] at this
          exact this.symm
      | false =>
        rw [List.all_eq_false]
        have := hoth j1 hj1 hn1
        rw [hx, hb, Bool.true_and] at this
        exact ⟨l[j1], List.getElem_mem hj1, by rw [← this]; simp⟩
  · have hx : xB B i = true := by unfold xB; rw [if_neg hlo]
    rw [hx, List.all_eq_true]
    intro c hc
    obtain ⟨j, hj, rfl⟩ := List.getElem_of_mem hc
    exact (key j hj).2 (by omega)
end Go.Proofs.YtgpmhmdofefdcaaGreat

namespace Go.Proofs.YtgpmhmdofefdcaaGreat
set_option linter.unusedVariables false

def wE (c : Ct) (e : Bool) : Ct := { c with err := e }

theorem flag_ge (c : Ct) {what : Nat} (k : Nat) (o : Bool) (h : 4 ≤ what) : 4 ≤ (flagC c what k o).2.1 := by
  unfold flagC
  split
  · show 4 ≤ 10; omega
  · exact h
theorem flag_err (c : Ct) (e : Bool) {what : Nat} (k : Nat) (o : Bool) (h : (flagC c what k o).2.1 < 10) : flagC (wE c e) what k o = flagC c what k o := by
  have hm : (cntC (wE c e) k).cf = (cntC c k).cf := by unfold cntC; split <;> rfl
  unfold flagC at h ⊢
  rw [hm]
  by_cases h2 : moC (cntC c k).cf = 2
  · rw [if_pos h2] at h
    exact absurd h (by show ¬ 10 < 10; omega)
  · rw [if_neg h2, if_neg h2]
    by_cases hk : k = 0
    · rw [show cntC (wE c e) k = wE c e from if_pos hk, show cntC c k = c from if_pos hk]; rfl
    · rw [show cntC (wE c e) k = { wE c e with cf := evC c.cf k } from if_neg hk, show cntC c k = { c with cf := evC c.cf k } from if_neg hk]; rfl

/-- What goes well goes so whatever the last flag was. -/
theorem st_err {c : Ct} (hp : c.ph = 0 ∨ c.ph = 1 ∨ c.ph = 7) (e x : Bool) (hh : (stC c x).2.1 < 4) : stC (wE c e) x = (wE (stC c x).1 e, (stC c x).2) ∧ dvC (wE c e) = dvC c := by
  refine ⟨?_, rfl⟩
  rcases hp with h0 | h1 | h7
  · have e1 : stC c x = idleC c x := by unfold stC; rw [if_pos h0]
    have e2 : stC (wE c e) x = idleC (wE c e) x := by unfold stC; rw [if_pos (show (wE c e).ph = 0 from h0)]
    rw [e1] at hh ⊢
    rw [e2]
    unfold idleC at hh ⊢
    cases x with
    | false => rfl
    | true =>
      have hc : (wE c e).has = c.has := rfl
      rw [hc]
      by_cases hs : c.has = true
      · rw [if_pos rfl, if_pos hs] at hh
        exact absurd hh (by have := flag_ge { c with sender := true } (what := 4) 5 false (by omega); show ¬ (flagC { c with sender := true } 4 5 false).2.1 < 4; omega)
      · rw [if_pos rfl, if_neg hs, if_pos rfl, if_neg hs]
  · have e1 : stC c x = if c.sends then sndC c x else rcvC c x := by unfold stC; rw [if_neg (by omega), if_pos h1]
    have e2 : stC (wE c e) x = if c.sends then sndC (wE c e) x else rcvC (wE c e) x := by
      have h1' : (wE c e).ph = 1 := h1
      unfold stC; rw [if_neg (by omega), if_pos h1']; rfl
    rw [e1] at hh ⊢
    rw [e2]
    cases hs : c.sends with
    | true =>
      rw [hs] at hh
      rw [if_pos rfl] at hh ⊢
      rw [if_pos rfl]
      unfold sndC at hh ⊢
      have f1 : (wE c e).pos = c.pos := rfl
      have f2 : (wE c e).wire = c.wire := rfl
      have f3 : (wE c e).tk = c.tk := rfl
      have f4 : (wE c e).cf = c.cf := rfl
      have f5 : (wE c e).give = c.give := rfl
      rw [f1, f2, f3, f4, f5]
      by_cases c1 : c.pos + 9 = c.wire.length
      · rw [if_pos c1] at hh ⊢
        rw [if_pos c1]
        by_cases c2 : x = false
        · rw [if_pos c2, if_pos c2]; rfl
        · rw [if_neg c2] at hh
          split at hh
          · exact absurd hh (by have := flag_ge c (what := 7) 0 true (by omega); omega)
          · exact absurd hh (by have := flag_ge c (what := 7) (if c.sender then 5 else 1) false (by omega); show ¬ (flagC c 7 (if c.sender then 5 else 1) false).2.1 < 4; omega)
      · rw [if_neg c1] at hh ⊢
        rw [if_neg c1]
        by_cases c2 : c.wire[c.pos]?.getD false = x
        · rw [if_pos c2, if_pos c2]
          split <;> rfl
        · rw [if_neg c2] at hh ⊢
          rw [if_neg c2]
          by_cases c3 : x = true ∨ c.tk.l.length < 1 ∨ (if c.give.ext then 32 else 12) < c.tk.l.length
          · rw [if_pos c3] at hh
            exact absurd hh (by have := flag_ge c (what := 4) (if c.sender then 5 else 1) false (by omega); show ¬ (flagC c 4 (if c.sender then 5 else 1) false).2.1 < 4; omega)
          · rw [if_neg c3] at hh ⊢
            rw [if_neg c3]
            by_cases c4 : c.tk.m = 5
            · rw [if_pos c4] at hh
              exact absurd hh (by have := flag_ge c (what := 5) 0 false (by omega); omega)
            · rw [if_neg c4, if_neg c4]; rfl
    | false =>
      rw [hs] at hh
      rw [if_neg Bool.false_ne_true] at hh ⊢
      rw [if_neg Bool.false_ne_true]
      have key : ∀ (c' : Ct) (what : Nat), 4 ≤ what → ¬ (failC c' what).2.1 < 4 := fun c' what h => by
        have := flag_ge c' (what := what) (if c'.sender then 5 else 1) false h
        show ¬ (flagC c' what (if c'.sender then 5 else 1) false).2.1 < 4; omega
      unfold rcvC at hh ⊢
      have f3 : (wE c e).tk = c.tk := rfl
      have f4 : (wE c e).cf = c.cf := rfl
      rw [f3, f4]
      by_cases n0 : (nxT c.tk x).2 = 0
      · rw [if_pos n0] at hh ⊢
        rw [if_pos n0]
        split at hh
        · exact absurd hh (key _ _ (by omega))
        · rename_i hz
          rw [if_neg hz, if_neg hz]; rfl
      rw [if_neg n0] at hh ⊢
      rw [if_neg n0]
      by_cases n1 : (nxT c.tk x).2 = 1
      · rw [if_pos n1] at hh; exact absurd hh (key _ _ (by omega))
      rw [if_neg n1] at hh ⊢
      rw [if_neg n1]
      by_cases n2 : (nxT c.tk x).2 = 2
      · rw [if_pos n2] at hh; exact absurd hh (key _ _ (by omega))
      rw [if_neg n2] at hh ⊢
      rw [if_neg n2]
      by_cases n3 : (nxT c.tk x).2 = 3
      · rw [if_pos n3] at hh; exact absurd hh (key _ _ (by omega))
      rw [if_neg n3] at hh ⊢
      rw [if_neg n3]
      by_cases n4 : (nxT c.tk x).2 = 4
      · rw [if_pos n4, if_pos n4]; rfl
      rw [if_neg n4] at hh ⊢
      rw [if_neg n4]
      by_cases n5 : (nxT c.tk x).2 = 5
      · rw [if_pos n5] at hh; exact absurd hh (by show ¬ 9 < 4; omega)
      rw [if_neg n5, if_neg n5]; rfl
  · have e1 : stC c x = interC c x := by unfold stC; rw [if_neg (by omega), if_neg (by omega), if_neg (by omega), if_neg (by omega), if_neg (by omega), if_neg (by omega), if_pos h7]
    have e2 : stC (wE c e) x = interC (wE c e) x := by
      have h7' : (wE c e).ph = 7 := h7
      unfold stC; rw [if_neg (by omega), if_neg (by omega), if_neg (by omega), if_neg (by omega), if_neg (by omega), if_neg (by omega), if_pos h7']
    rw [e1] at hh ⊢
    rw [e2]
    unfold interC at hh ⊢
    have f1 : (wE c e).n = c.n := rfl
    have f2 : holdC (wE c e) = holdC c := rfl
    have f3 : (wE c e).has = c.has := rfl
    rw [f1, f2, f3]
    cases x with
    | true =>
      by_cases n3 : c.n + 1 = 3
      · simp only [if_pos n3, if_true]; rfl
      · simp only [if_neg n3, if_true]; rfl
    | false =>
      simp only [Bool.false_eq_true, if_false] at hh ⊢
      by_cases n3 : c.n + 1 < 3
      · rw [if_pos n3] at hh; exact absurd hh (by show ¬ 9 < 4; omega)
      · rw [if_neg n3, if_neg n3]; rfl
end Go.Proofs.YtgpmhmdofefdcaaGreat

namespace Go.Proofs.YtgpmhmdofefdcaaGreat
set_option linter.unusedVariables false

theorem cfA_T8 : CfA (cfT 8) := ⟨by decide, by decide, by decide⟩
theorem cfA_R9 : CfA (cfR 9) := ⟨by decide, by decide, by decide⟩
theorem ev_T8 : evC (cfT 8) 8 = cfT 7 := by decide
theorem ev_R9 : evC (cfR 9) 9 = cfR 8 := by decide
theorem ev_R1 : evC (cfR 1) 2 = cfR 9 := by decide

/-- What a node has to send: the first one F, the others nothing. -/
abbrev omG (F : Fr) (k : Nat) : Option Fr := if k = 0 then some F else none
/-- Counters the second time. -/
def omF (k : Nat) : Cf := if k = 0 then cfT 8 else if k = 1 then cfR 9 else zeC

theorem omF_A (k : Nat) : CfA (omF k) := by
  unfold omF
  split
  · exact cfA_T8
  · split
    · exact cfA_R9
    · exact cfA_zero

theorem om_node {F : Fr} (k : Nat) : NodeOK F (omG F k) (decide (k = 0)) := by
  refine ⟨fun h => ?_, fun h G hg => ?_⟩
  · have : k = 0 := by simpa using h
    exact if_pos this
  · have : ¬ k = 0 := by simpa using h
    rw [show omG F k = none from if_neg this] at hg; cases hg

/-- A node behind i bits: k = 0 sends, k = 1 samples the bit turned about, k = 2 is another one. -/
def OmC (F : Fr) (i k : Nat) (c : Ct) : Prop :=
  (i ≤ (putL (boL F)).length + 8 ∧ RoN F zeC i (omG F k) (decide (k = 0)) c) ∨
  (i = (putL (boL F)).length + 9 ∧ ((k ≠ 1 ∧ RoN F zeC i (omG F k) (decide (k = 0)) c) ∨ (k = 1 ∧ c = flSt (rcvAt (cfR 1) s0) 2 true 0))) ∨
  ((putL (boL F)).length + 10 ≤ i ∧ i ≤ (putL (boL F)).length + 26 ∧
    ((k = 0 ∧ c = flSt (kC F) 2 true (i - ((putL (boL F)).length + 10))) ∨ (k = 2 ∧ c = flSt (rcvAt zeC s0) 4 false (i - ((putL (boL F)).length + 10))) ∨
     (k = 1 ∧ i ≤ (putL (boL F)).length + 15 ∧ c = flSt (rcvAt (cfR 1) s0) 2 true (i - ((putL (boL F)).length + 9))) ∨
     (k = 1 ∧ i = (putL (boL F)).length + 16 ∧ c = phC (rcvAt (cfR 9) s0) 5 1 true) ∨
     (k = 1 ∧ (putL (boL F)).length + 17 ≤ i ∧ c = flSt (rcvAt (cfR 9) s0) 2 true (i - ((putL (boL F)).length + 10))))) ∨
  ((putL (boL F)).length + 27 ≤ i ∧ i ≤ (putL (boL F)).length + 27 + ((putL (boL F)).length + 13) ∧ ∃ c', c = wE c' (decide (k ≠ 2)) ∧ RoN F (omF k) (i - ((putL (boL F)).length + 27)) (omG F k) (decide (k = 0)) c')

/-- The bus. -/
def omB (F : Fr) (i : Nat) : Bool :=
  if i ≤ (putL (boL F)).length + 8 then xB F i else if i ≤ (putL (boL F)).length + 15 then false else if i ≤ (putL (boL F)).length + 26 then true else xB F (i - ((putL (boL F)).length + 27))

/-- What a node samples. -/
def omS (F : Fr) (i k : Nat) : Bool := if i = (putL (boL F)).length + 8 ∧ k = 1 then !omB F i else omB F i

theorem ok_flG {C : Ct} (hm : moC C.cf ≤ 1) (hg : C.has = true → Good C.give) (hd : C.give.data.length ≤ 1000000) {ph : Nat} (hp : ph = 2 ∨ ph = 4) (e : Bool) {j : Nat} (hj : j ≤ 16) : StepOK (flSt C ph e j) := ok_fl hm hg hd hp e hj

theorem wE_ok {c : Ct} (h : StepOK c) (e : Bool) : StepOK (wE c e) := ⟨h.1, h.2, h.3, h.4, h.5, h.6, h.7, h.8, fun a b => ⟨(h.9 a b).1, (h.9 a b).2, (h.9 a b).3, (h.9 a b).4⟩, h.10⟩

theorem om_ok {F : Fr} (hF : Good F) {i k : Nat} (hk : k ≤ 2) (hi : i < (putL (boL F)).length + 27 + ((putL (boL F)).length + 13)) {c : Ct} (h : OmC F i k c) : StepOK c := by
  have lF := good_len hF
  have zl : (zeroFr.data.length) ≤ 1000000 := by simp [zeroFr]
  rcases h with ⟨h1, h2⟩ | ⟨h1, ⟨_, h2⟩ | ⟨_, rfl⟩⟩ | ⟨h1, h2, h3⟩ | ⟨h1, h2, c', rfl, h3⟩
  · exact ro_ok hF cfA_zero (om_node k) (by omega) h2
  · exact ro_ok hF cfA_zero (om_node k) (by omega) h2
  · exact ok_fl (by decide) (fun e => by cases e) zl (.inl rfl) true (by omega)
  · rcases h3 with ⟨_, rfl⟩ | ⟨_, rfl⟩ | ⟨_, h4, rfl⟩ | ⟨_, _, rfl⟩ | ⟨_, h4, rfl⟩
    · exact ok_fl (by show moC (cfT 8) ≤ 1; decide) (fun _ => hF) (by show F.data.length ≤ _; omega) (.inl rfl) true (by omega)
    · exact ok_fl (by decide) (fun e => by cases e) zl (.inr rfl) false (by omega)
    · exact ok_fl (by decide) (fun e => by cases e) zl (.inl rfl) true (by omega)
    · exact ok_ph (fun _ => by decide) (by omega) (by omega) (by omega) (fun e => by cases e) zl
    · exact ok_fl (by decide) (fun e => by cases e) zl (.inl rfl) true (by omega)
  · exact wE_ok (ro_ok hF (omF_A k) (om_node k) (by omega) h3) _

/-- What a node drives. -/
theorem om_drive {F : Fr} (hF : Good F) {i k : Nat} (hk : k ≤ 2) (hi : i < (putL (boL F)).length + 27 + ((putL (boL F)).length + 10)) {c : Ct} (h : OmC F i k c) :
    (i < (putL (boL F)).length + 9 → if k = 0 then dvC c = ((wiL F)[i]?.getD false) else xB F i = (((wiL F)[i]?.getD false) && dvC c)) ∧
    (i = (putL (boL F)).length + 9 → k = 1 → dvC c = false) ∧ ((putL (boL F)).length + 10 ≤ i → i ≤ (putL (boL F)).length + 15 → k = 0 → dvC c = false) ∧
    ((putL (boL F)).length + 16 ≤ i → i ≤ (putL (boL F)).length + 26 → dvC c = true) ∧
    ((putL (boL F)).length + 27 ≤ i → if k = 0 then dvC c = ((wiL F)[i - ((putL (boL F)).length + 27)]?.getD false) else xB F (i - ((putL (boL F)).length + 27)) = (((wiL F)[i - ((putL (boL F)).length + 27)]?.getD false) && dvC c)) := by
  rcases h with ⟨h1, h2⟩ | ⟨h1, ⟨h3, h2⟩ | ⟨h3, rfl⟩⟩ | ⟨h1, h2, h3⟩ | ⟨h1, h2, c', rfl, h3⟩
  · have := (ro_step hF cfA_zero (om_node k) (by omega) h2).2.2.1 (by omega)
    refine ⟨fun _ => ?_, fun e => by omega, fun e => by omega, fun e => by omega, fun e => by omega⟩
    by_cases h0 : k = 0
    · rw [decide_eq_true h0, if_pos rfl] at this; rw [if_pos h0]; exact this
    · rw [decide_eq_false h0, if_neg Bool.false_ne_true] at this; rw [if_neg h0]; exact this
  · exact ⟨fun e => by omega, fun _ e => absurd e h3, fun e => by omega, fun e => by omega, fun e => by omega⟩
  · exact ⟨fun e => by omega, fun _ _ => rfl, fun e => by omega, fun e => by omega, fun e => by omega⟩
  · refine ⟨fun e => by omega, fun e => by omega, fun e1 e2 e3 => ?_, fun e1 e2 => ?_, fun e => by omega⟩
    · rcases h3 with ⟨_, rfl⟩ | ⟨h4, _⟩ | ⟨h4, _⟩ | ⟨h4, _⟩ | ⟨h4, _⟩
      · have := (fl_step (kC F) (ph := 2) (.inl rfl) true (j := i - ((putL (boL F)).length + 10)) (by omega)).2
        rw [decide_eq_false (by omega)] at this; exact this
      · omega
      · omega
      · omega
      · omega
    · have key : ∀ (C : Ct) (ph : Nat) (e : Bool) (hp : ph = 2 ∨ ph = 4), dvC (flSt C ph e (i - ((putL (boL F)).length + 10))) = true := fun C ph e hp => by
        by_cases h16 : i = (putL (boL F)).length + 26
        · rw [show i - ((putL (boL F)).length + 10) = 16 by omega]; rfl
        · have := (fl_step C hp e (j := i - ((putL (boL F)).length + 10)) (by omega)).2
          rw [decide_eq_true (by omega)] at this; exact this
      rcases h3 with ⟨_, rfl⟩ | ⟨_, rfl⟩ | ⟨_, h4, _⟩ | ⟨_, _, rfl⟩ | ⟨_, _, rfl⟩
      · exact key _ _ _ (.inl rfl)
      · exact key _ _ _ (.inr rfl)
      · omega
      · rfl
      · exact key _ _ _ (.inl rfl)
  · have := (ro_step hF (omF_A k) (om_node k) (by omega) h3).2.2.1 (by omega)
    refine ⟨fun e => by omega, fun e => by omega, fun e => by omega, fun e => by omega, fun _ => ?_⟩
    have hd : dvC (wE c' (decide (k ≠ 2))) = dvC c' := rfl
    rw [hd]
    by_cases h0 : k = 0
    · rw [decide_eq_true h0, if_pos rfl] at this; rw [if_pos h0]; exact this
    · rw [decide_eq_false h0, if_neg Bool.false_ne_true] at this; rw [if_neg h0]; exact this

/-- The phases of a node in a round. -/
theorem ro_ph {B : Fr} {cf : Cf} {i : Nat} {g : Option Fr} {w : Bool} {c : Ct} (h : RoN B cf i g w c) : c.ph = 0 ∨ c.ph = 1 ∨ c.ph = 7 := by
  rcases h with ⟨_, A, rfl, _⟩ | ⟨_, _, s, _, ⟨_, rfl⟩ | ⟨_, rfl⟩ | ⟨_, G, d, _, _, _, rfl, _⟩⟩ | ⟨_, _, A, rfl, _⟩
  · exact .inl rfl
  · exact .inr (.inl rfl)
  · exact .inr (.inl rfl)
  · exact .inr (.inl rfl)
  · unfold btC; split
    · exact .inr (.inr rfl)
    · exact .inl rfl

/-- What happens in a round, by its number. -/
theorem ro_hap {B : Fr} (hB : Good B) {cf : Cf} (hf : CfA cf) {g : Option Fr} {w : Bool} (ho : NodeOK B g w) {i : Nat} (hi : i < (putL (boL B)).length + 13) {c : Ct} (h : RoN B cf i g w c) :
    (stC c (xB B i)).2.1 < 4 ∧ ((stC c (xB B i)).2.1 = 2 ↔ w = false ∧ i = (putL (boL B)).length + 8) ∧ ((stC c (xB B i)).2.1 = 1 ↔ w = true ∧ i = (putL (boL B)).length + 9) := by
  have := (ro_step hB hf ho hi h).2.1
  rcases this with h1 | ⟨hw, hlt, h1⟩
  · rw [h1]
    cases w with
    | true =>
      rw [if_pos rfl]
      by_cases h9 : i = (putL (boL B)).length + 9
      · rw [if_pos h9]; exact ⟨by show 1 < 4; omega, by show (1 = 2) ↔ _; simp, by show (1 = 1) ↔ _; simp [h9]⟩
      · rw [if_neg h9]; exact ⟨by show 0 < 4; omega, by show (0 = 2) ↔ _; simp, by show (0 = 1) ↔ _; simp [h9]⟩
    | false =>
      rw [if_neg Bool.false_ne_true]
      by_cases h8 : i = (putL (boL B)).length + 8
      · rw [if_pos h8]; exact ⟨by show 2 < 4; omega, by show (2 = 2) ↔ _; simp [h8], by show (2 = 1) ↔ _; simp⟩
      · rw [if_neg h8]; exact ⟨by show 0 < 4; omega, by show (0 = 2) ↔ _; simp [h8], by show (0 = 1) ↔ _; simp⟩
  · rw [h1]
    subst hw
    exact ⟨by show 3 < 4; omega, by show (3 = 2) ↔ _; simp <;> omega, by show (3 = 1) ↔ _; simp⟩

/-- One bit of a node. -/
theorem om_step {F : Fr} (hF : Good F) {i k : Nat} (hk : k ≤ 2) (hi : i < (putL (boL F)).length + 27 + ((putL (boL F)).length + 13)) {c : Ct} (h : OmC F i k c) :
    OmC F (i + 1) k (stC c (omS F i k)).1 ∧
    ((stC c (omS F i k)).2.1 = 2 ↔ (i = (putL (boL F)).length + 8 ∧ k = 2) ∨ (i = (putL (boL F)).length + 27 + ((putL (boL F)).length + 8) ∧ k ≠ 0)) ∧
    ((stC c (omS F i k)).2.1 = 1 ↔ i = (putL (boL F)).length + 27 + ((putL (boL F)).length + 9) ∧ k = 0) := by
  have hP := P_pos F
  have hP2 := P_top hF
  rcases h with ⟨h1, h2⟩ | ⟨h1, ⟨h3, h2⟩ | ⟨h3, rfl⟩⟩ | ⟨h1, h2, h3⟩ | ⟨h1, h2, c', rfl, h3⟩
  · have hb : omB F i = xB F i := if_pos h1
    by_cases hx : i = (putL (boL F)).length + 8 ∧ k = 1
    · obtain ⟨hx1, hx2⟩ := hx
      subst hx1 hx2
      have hs : omS F ((putL (boL F)).length + 8) 1 = false := by
        unfold omS
        rw [if_pos ⟨rfl, rfl⟩, hb]
        unfold xB
        rw [if_pos (by omega), ack_at (by omega)]; rfl
      rw [hs]
      rcases h2 with ⟨h0, _⟩ | ⟨_, _, s, hr, ⟨hw, _⟩ | ⟨_, rfl⟩ | ⟨_, G, d, hg, _⟩⟩ | ⟨h0, _⟩
      · omega
      · cases hw
      · have ht := tail_turn hF (j := 8) (s := s) (by omega) hr
        rw [if_neg (by omega), if_neg (by omega)] at ht
        rw [if_pos (by omega)]
        have ht' : stC (rcvH (omG F 1).isSome ((omG F 1).getD zeroFr) zeC s) false = (phC (rcvAt (cfR 1) s) 2 0 true, (6, zeroFr)) := ht
        rw [ht']
        refine ⟨.inr (.inl ⟨rfl, .inr ⟨rfl, rfl⟩⟩), ?_, ?_⟩
        · show (6 = 2) ↔ _; simp <;> omega
        · show (6 = 1) ↔ _; simp
      · cases hg
      · omega
    · have hs : omS F i k = xB F i := by unfold omS; rw [if_neg hx, hb]
      rw [hs]
      have hst := (ro_step hF cfA_zero (om_node k) (by omega) h2).1
      obtain ⟨_, t1, t2⟩ := ro_hap hF cfA_zero (om_node k) (by omega) h2
      refine ⟨?_, t1.trans ?_, t2.trans ?_⟩
      · by_cases h8 : i = (putL (boL F)).length + 8
        · exact .inr (.inl ⟨by omega, .inl ⟨fun e => hx ⟨h8, e⟩, hst⟩⟩)
        · exact .inl ⟨by omega, hst⟩
      · simp; omega
      · simp; omega
  · have hs : omS F i k = false := by
      unfold omS omB
      rw [if_neg (by omega), if_neg (by omega), if_pos (by omega)]
    rw [hs]
    subst h1
    rcases h2 with ⟨h0, _⟩ | ⟨_, _, s, hr, ⟨hw, rfl⟩ | ⟨hw, rfl⟩ | ⟨_, G, d, hg, hp, hd, _⟩⟩ | ⟨h0, _⟩
    · omega
    · have h0 : k = 0 := by simpa using hw
      subst h0
      have hbr := break_turn hF (k := (putL (boL F)).length + 9) (by omega) (by omega) hr (ack_at (j := 9) (by omega))
      rw [decide_eq_false (by omega), if_neg (by omega)] at hbr
      rw [show (! !false) = false by rfl] at hbr
      rw [hbr]
      refine ⟨.inr (.inr (.inl ⟨by omega, by omega, .inl ⟨rfl, ?_⟩⟩)), ?_, ?_⟩
      · rw [show (putL (boL F)).length + 9 + 1 - ((putL (boL F)).length + 10) = 0 by omega]; rfl
      · show (4 = 2) ↔ _; simp <;> omega
      · show (4 = 1) ↔ _; simp <;> omega
    · have h0 : ¬ k = 0 := by simpa using hw
      have hk2 : k = 2 := by omega
      subst hk2
      have ht := tail_turn hF (j := 9) (s := s) (by omega) hr
      rw [if_pos rfl] at ht
      rw [if_neg (by omega), ev_naught.2]
      have ht' : stC (rcvH (omG F 2).isSome ((omG F 2).getD zeroFr) zeC s) false = (phC (rcvAt zeC s) 4 0 false, (9, zeroFr)) := ht
      rw [ht']
      refine ⟨.inr (.inr (.inl ⟨by omega, by omega, .inr (.inl ⟨rfl, ?_⟩)⟩)), ?_, ?_⟩
      · rw [show (putL (boL F)).length + 9 + 1 - ((putL (boL F)).length + 10) = 0 by omega]; rfl
      · show (9 = 2) ↔ _; simp <;> omega
      · show (9 = 1) ↔ _; simp
    · have := hp.bd; omega
    · omega
  · subst h1 h3
    have hs : omS F ((putL (boL F)).length + 9) 1 = false := by
      unfold omS omB
      rw [if_neg (by omega), if_neg (by omega), if_pos (by omega)]
    rw [hs]
    obtain ⟨g1, _⟩ := fl_step (rcvAt (cfR 1) s0) (ph := 2) (.inl rfl) true (j := 0) (by omega)
    rw [decide_eq_false (by omega)] at g1
    rw [g1]
    refine ⟨.inr (.inr (.inl ⟨by omega, by omega, .inr (.inr (.inl ⟨rfl, by omega, ?_⟩))⟩)), ?_, ?_⟩
    · rw [show (putL (boL F)).length + 9 + 1 - ((putL (boL F)).length + 9) = 0 + 1 by omega]
    · show (0 = 2) ↔ _; simp <;> omega
    · show (0 = 1) ↔ _; simp
  · have nn : ∀ r : Ct × Hp, r.2 = noH → (r.2.1 = 2 ↔ (i = (putL (boL F)).length + 8 ∧ k = 2) ∨ (i = (putL (boL F)).length + 27 + ((putL (boL F)).length + 8) ∧ k ≠ 0)) ∧ (r.2.1 = 1 ↔ i = (putL (boL F)).length + 27 + ((putL (boL F)).length + 9) ∧ k = 0) := fun r hr => by
      rw [hr]
      exact ⟨by show (0 = 2) ↔ _; simp <;> omega, by show (0 = 1) ↔ _; simp; omega⟩
    have hs : omS F i k = decide ((putL (boL F)).length + 16 ≤ i) := by
      unfold omS omB
      rw [if_neg (by omega), if_neg (by omega)]
      by_cases h15 : i ≤ (putL (boL F)).length + 15
      · rw [if_pos h15, decide_eq_false (by omega)]
      · rw [if_neg h15, if_pos h2, decide_eq_true (by omega)]
    rw [hs]
    have key : ∀ (C : Ct) (ph : Nat) (e : Bool) (hp : ph = 2 ∨ ph = 4) (hh : holdC C = false),
        stC (flSt C ph e (i - ((putL (boL F)).length + 10))) (decide ((putL (boL F)).length + 16 ≤ i)) = (if i = (putL (boL F)).length + 26 then phC C 0 0 e else flSt C ph e (i + 1 - ((putL (boL F)).length + 10)), noH) := fun C ph e hp hh => by
      by_cases h16 : i = (putL (boL F)).length + 26
      · rw [show i - ((putL (boL F)).length + 10) = 16 by omega, decide_eq_true (by omega), (fl_last C ph e).1, hh, if_pos h16]; rfl
      · have := (fl_step C hp e (j := i - ((putL (boL F)).length + 10)) (by omega)).1
        rw [show decide (6 ≤ i - ((putL (boL F)).length + 10)) = decide ((putL (boL F)).length + 16 ≤ i) by congr 1; apply propext; omega] at this
        rw [this, if_neg h16, show i + 1 - ((putL (boL F)).length + 10) = i - ((putL (boL F)).length + 10) + 1 by omega]
    have hend : ∀ (c0 : Ct), RoN F (omF k) 0 (omG F k) (decide (k = 0)) c0 → i = (putL (boL F)).length + 26 → ∀ C, C = wE c0 (decide (k ≠ 2)) → OmC F (i + 1) k C := fun c0 hc hi26 C hC => by
      refine .inr (.inr (.inr ⟨by omega, by omega, c0, hC, ?_⟩))
      rw [show i + 1 - ((putL (boL F)).length + 27) = 0 by omega]; exact hc
    rcases h3 with ⟨rfl, rfl⟩ | ⟨rfl, rfl⟩ | ⟨rfl, h4, rfl⟩ | ⟨rfl, h4, rfl⟩ | ⟨rfl, h4, rfl⟩
    · have hh : holdC (kC F) = false := by unfold holdC; rw [show (kC F).cf = cfT 8 from rfl, mo_8]; simp
      rw [key (kC F) 2 true (.inl rfl) hh]
      refine ⟨?_, nn _ rfl⟩
      by_cases h26 : i = (putL (boL F)).length + 26
      · rw [if_pos h26]
        exact hend (phC (kC F) 0 0 false) (.inl ⟨rfl, kC F, rfl, rfl, rfl, rfl⟩) h26 _ rfl
      · rw [if_neg h26]
        exact .inr (.inr (.inl ⟨by omega, by omega, .inl ⟨rfl, rfl⟩⟩))
    · rw [key (rcvAt zeC s0) 4 false (.inr rfl) rfl]
      refine ⟨?_, nn _ rfl⟩
      by_cases h26 : i = (putL (boL F)).length + 26
      · rw [if_pos h26]
        exact hend (phC (rcvAt zeC s0) 0 0 false) (.inl ⟨rfl, rcvAt zeC s0, rfl, rfl, rfl, rfl⟩) h26 _ rfl
      · rw [if_neg h26]
        exact .inr (.inr (.inl ⟨by omega, by omega, .inr (.inl ⟨rfl, rfl⟩)⟩))
    · rw [decide_eq_false (by omega)]
      by_cases h15 : i = (putL (boL F)).length + 15
      · subst h15
        rw [show (putL (boL F)).length + 15 - ((putL (boL F)).length + 9) = 6 by omega]
        have e6 : stC (flSt (rcvAt (cfR 1) s0) 2 true 6) false = (phC (rcvAt (cfR 9) s0) 5 1 true, noH) := by
          show waitC (phC (rcvAt (cfR 1) s0) 5 0 true) false = _
          unfold waitC
          have hw : waitE (phC (rcvAt (cfR 1) s0) 5 0 true) = 2 := rfl
          rw [if_neg Bool.false_ne_true, hw]
          have hc : cntC (phC (rcvAt (cfR 1) s0) 5 0 true) 2 = phC (rcvAt (cfR 9) s0) 5 0 true := by
            show ({ phC (rcvAt (cfR 1) s0) 5 0 true with cf := evC (cfR 1) 2 } : Ct) = _
            rw [ev_R1]; rfl
          rw [hc, if_neg (by rintro ⟨h, _⟩; revert h; decide)]
          rfl
        rw [e6]
        exact ⟨.inr (.inr (.inl ⟨by omega, by omega, .inr (.inr (.inr (.inl ⟨rfl, rfl, rfl⟩)))⟩)), nn _ rfl⟩
      · obtain ⟨g1, _⟩ := fl_step (rcvAt (cfR 1) s0) (ph := 2) (.inl rfl) true (j := i - ((putL (boL F)).length + 9)) (by omega)
        rw [decide_eq_false (by omega)] at g1
        rw [g1]
        refine ⟨.inr (.inr (.inl ⟨by omega, by omega, .inr (.inr (.inl ⟨rfl, by omega, ?_⟩))⟩)), nn _ rfl⟩
        rw [show i + 1 - ((putL (boL F)).length + 9) = i - ((putL (boL F)).length + 9) + 1 by omega]
    · subst h4
      rw [decide_eq_true (by omega), (wait_end (rcvAt (cfR 9) s0) 1 true).1]
      refine ⟨.inr (.inr (.inl ⟨by omega, by omega, .inr (.inr (.inr (.inr ⟨rfl, by omega, ?_⟩)))⟩)), nn _ rfl⟩
      rw [show (putL (boL F)).length + 16 + 1 - ((putL (boL F)).length + 10) = 7 by omega]; rfl
    · rw [key (rcvAt (cfR 9) s0) 2 true (.inl rfl) rfl]
      refine ⟨?_, nn _ rfl⟩
      by_cases h26 : i = (putL (boL F)).length + 26
      · rw [if_pos h26]
        exact hend (phC (rcvAt (cfR 9) s0) 0 0 false) (.inl ⟨rfl, rcvAt (cfR 9) s0, rfl, rfl, rfl, rfl⟩) h26 _ rfl
      · rw [if_neg h26]
        exact .inr (.inr (.inl ⟨by omega, by omega, .inr (.inr (.inr (.inr ⟨rfl, by omega, rfl⟩)))⟩))
  · have hs : omS F i k = xB F (i - ((putL (boL F)).length + 27)) := by
      unfold omS omB
      rw [if_neg (by omega), if_neg (by omega), if_neg (by omega), if_neg (by omega)]
    rw [hs]
    have hlt : i - ((putL (boL F)).length + 27) < (putL (boL F)).length + 13 := by omega
    have hst := (ro_step hF (omF_A k) (om_node k) hlt h3).1
    obtain ⟨t0, t1, t2⟩ := ro_hap hF (omF_A k) (om_node k) hlt h3
    rw [(st_err (ro_ph h3) _ _ t0).1]
    refine ⟨.inr (.inr (.inr ⟨by omega, by omega, _, rfl, ?_⟩)), t1.trans ?_, t2.trans ?_⟩
    · rw [show i + 1 - ((putL (boL F)).length + 27) = i - ((putL (boL F)).length + 27) + 1 by omega]; exact hst
    · simp; omega
    · simp; omega

/-- The bus of a sender and others. -/
theorem bus_of {l : List Ct} (h2 : 2 ≤ l.length) {W x : Bool} (h0 : ∀ h : 0 < l.length, dvC l[0] = W) (ho : ∀ j (hj : j < l.length), j ≠ 0 → x = (W && dvC l[j])) : l.all dvC = x := by
  have hw := h0 (by omega)
  have h1 := ho 1 (by omega) (by omega)
  cases W with
  | false =>
    rw [h1, Bool.false_and, List.all_eq_false]
    exact ⟨l[0], List.getElem_mem _, by rw [hw]; simp⟩
  | true =>
    cases x with
    | true =>
      rw [List.all_eq_true]
      intro c hc
      obtain ⟨j, hj, rfl⟩ := List.getElem_of_mem hc
      by_cases hn : j = 0
      · subst hn; exact hw
      · have := ho j hj hn
        rw [Bool.true_and] at this
        exact this.symm
    | false =>
      rw [List.all_eq_false]
      rw [Bool.true_and] at h1
      exact ⟨l[1], List.getElem_mem _, by rw [← h1]; simp⟩

theorem om_bus {F : Fr} (hF : Good F) {l : List Ct} {q : Nat} (hq : 1 ≤ q ∧ q < l.length) {i : Nat} (hi : i < (putL (boL F)).length + 27 + ((putL (boL F)).length + 10))
    (h : ∀ j (hj : j < l.length), OmC F i (if j = 0 then 0 else if j = q then 1 else 2) l[j]) : l.all dvC = omB F i := by
  have hk : ∀ j, (if j = 0 then 0 else if j = q then 1 else 2) ≤ 2 := fun j => by split <;> (try split) <;> omega
  have key := fun j (hj : j < l.length) => om_drive hF (hk j) hi (h j hj)
  unfold omB
  by_cases h8 : i ≤ (putL (boL F)).length + 8
  · rw [if_pos h8]
    refine bus_of (W := (wiL F)[i]?.getD false) (by omega) (fun h0 => ?_) (fun j hj hn => ?_)
    · have := (key 0 h0).1 (by omega)
      rw [if_pos (by simp)] at this; exact this
    · have := (key j hj).1 (by omega)
      rw [if_neg (by rw [if_neg hn]; split <;> omega)] at this; exact this
  rw [if_neg h8]
  by_cases h15 : i ≤ (putL (boL F)).length + 15
  · rw [if_pos h15, List.all_eq_false]
    by_cases h9 : i = (putL (boL F)).length + 9
    · refine ⟨l[q], List.getElem_mem _, ?_⟩
      have := (key q hq.2).2.1 h9 (by rw [if_neg (by omega), if_pos rfl])
      rw [this]; simp
    · refine ⟨l[0], List.getElem_mem _, ?_⟩
      have := (key 0 (by omega)).2.2.1 (by omega) h15 (by simp)
      rw [this]; simp
  rw [if_neg h15]
  by_cases h26 : i ≤ (putL (boL F)).length + 26
  · rw [if_pos h26, List.all_eq_true]
    intro c hc
    obtain ⟨j, hj, rfl⟩ := List.getElem_of_mem hc
    exact (key j hj).2.2.2.1 (by omega) h26
  · rw [if_neg h26]
    refine bus_of (W := (wiL F)[i - ((putL (boL F)).length + 27)]?.getD false) (by omega) (fun h0 => ?_) (fun j hj hn => ?_)
    · have := (key 0 h0).2.2.2.2 (by omega)
      rw [if_pos (by simp)] at this; exact this
    · have := (key j hj).2.2.2.2 (by omega)
      rw [if_neg (by rw [if_neg hn]; split <;> omega)] at this; exact this

theorem om_end {F : Fr} {k : Nat} {c : Ct} (h : OmC F ((putL (boL F)).length + 27 + ((putL (boL F)).length + 10)) k c) : c.cf = if k = 0 then cfT 7 else if k = 1 then cfR 8 else zeC := by
  have hP := P_pos F
  rcases h with ⟨h1, _⟩ | ⟨h1, _⟩ | ⟨_, h1, _⟩ | ⟨_, _, c', rfl, h3⟩
  · omega
  · omega
  · omega
  · rcases h3 with ⟨h0, _⟩ | ⟨_, h0, _⟩ | ⟨_, _, A, rfl, a1, _⟩
    · omega
    · omega
    · have e : (wE (btC A ((putL (boL F)).length + 27 + ((putL (boL F)).length + 10) - ((putL (boL F)).length + 27) - ((putL (boL F)).length + 10))) (decide (k ≠ 2))).cf = A.cf := by
        unfold btC wE; split <;> rfl
      rw [e, a1]
      unfold omF
      by_cases h0 : k = 0
      · rw [decide_eq_true h0, if_pos rfl, if_pos h0, if_pos h0]; exact ev_T8
      · rw [decide_eq_false h0, if_neg Bool.false_ne_true, if_neg h0, if_neg h0]
        by_cases h1 : k = 1
        · rw [if_pos h1, if_pos h1]; exact ev_R9
        · rw [if_neg h1, if_neg h1]; exact ev_naught.2
end Go.Proofs.YtgpmhmdofefdcaaGreat
