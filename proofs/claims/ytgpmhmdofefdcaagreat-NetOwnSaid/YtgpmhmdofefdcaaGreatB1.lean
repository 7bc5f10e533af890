/-
  Plain mathematics of layer 8: what is taken is a right frame; reading goes on as more bits come. Nothing of the program is spoken of here.
  Plain mathematics of layer 8: two wires that are alike up to some bit; who loses. Nothing of the program is spoken of here.
  Plain mathematics of layer 8: two unlike frames of one identifier and kind. Nothing of the program is spoken of here.
  Plain mathematics of layer 8: overload flags; two that fail one behind the other. Nothing of the program is spoken of here.
  What Step asks holds of the states that the statements meet.
  A frame that a statement gives to a new controller: right, or wrong.
  Contracts of the functions of layer 1 and of what the statements do with bits: each returns what a plain function on lists says.
-/
import Derived.Test.YtgpmhmdofefdcaaGreatM8j
import Derived.Test.YtgpmhmdofefdcaaGreatB8w
import Derived.Test.YtgpmhmdofefdcaaGreatB2
namespace Go.Proofs.YtgpmhmdofefdcaaGreat
set_option linter.unusedVariables false

/-- Bits that come behind what was read change nothing of it. -/
theorem Reading.post {l : List Bool} {s : Tk} (m : List Bool) (h : Reading l l.length s) : Reading (l ++ m) l.length s := by
  have htt : (l ++ m).take l.length = l := List.take_left
  have htl : l.take l.length = l := List.take_length
  rcases h with h | h
  · left
    exact ⟨h.p, by rw [htt]; have := h.tk; rwa [htl] at this, by rw [htt]; have := h.ru; rwa [htl] at this, h.fi, h.le, h.no, by simp, h.ri⟩
  · right
    have ht2 : (l ++ m).take (bdN l) = putL (bdL l) := by rw [List.take_append_of_le_length h.lo, h.pu]
    have htk : tkL ((l ++ m).take (bdN l)) = (bdL l, -1) := by rw [ht2]; exact tkL_putL _
    have hm : (ruF false 0 ((l ++ m).take (bdN l))).2 ≠ 5 := fun e => by
      have := put_at htk
      rw [if_pos e, ht2] at this
      have := congrArg List.length this
      simp at this
    obtain ⟨e1, e2, _, e4⟩ := bd_found (by rw [List.length_append]; have := h.lo; omega) htk hm h.cm
    exact ⟨by rw [e1]; exact h.n0, by rw [e1]; exact h.lo, by rw [e1]; exact h.hi, by rw [e1]; exact h.p, by rw [e2]; exact h.li, by rw [e2]; exact h.fi, h.m, h.ri, h.ok, by rw [e1, e2]; exact e4, by rw [e2]; exact h.cm⟩

/-- One bit more. -/
theorem Reading.more {l : List Bool} {s : Tk} (x : Bool) (h : Reading l l.length s) (hs : (nxT s x).2 = 0 ∨ (nxT s x).2 = 4) : Reading (l ++ [x]) (l ++ [x]).length (nxT s x).1 := by
  have h1 := h.post [x]
  have hx : (l ++ [x])[l.length]? = some x := by simp
  have := (h1.step hx).2 hs
  rw [List.length_append]
  exact this

/-- A body is no longer than a head says. -/
theorem hdN_max (l : List Bool) : hdN l ≤ 118 := by
  unfold hdN
  have h1 := lonF_le (reF l).rem (reF l).dlc
  have h2 : heM l ≤ 39 := by unfold heM; split <;> omega
  omega

theorem Reading.short {l : List Bool} {s : Tk} (h : Reading l l.length s) : s.l.length ≤ 118 := by
  rcases h with h | h
  · cases hk : hdK s.l with
    | true => have := h.le hk; have := hdN_max s.l; omega
    | false =>
      by_cases h40 : s.l.length < 40
      · omega
      · have : hdK s.l = true := by unfold hdK; rw [decide_eq_true (by omega), decide_eq_true (by omega)]; simp
        rw [hk] at this; cases this
  · have hc := h.cm
    unfold cmpL at hc
    simp only [Bool.and_eq_true, decide_eq_true_eq] at hc
    rw [h.li, hc.2]
    exact hdN_max _

/-- A frame whose sum fits is right. -/
theorem fit_good {l : List Bool} (h : fitL l = true) : Good (paU l) := by
  unfold fitL at h
  simp only [Bool.and_eq_true, decide_eq_true_eq] at h
  have hp : paU l = ⟨(reF l).id, (reF l).ext, (reF l).rem, (reF l).dlc, paD l⟩ := by
    unfold paU; rw [h.1, h.2]; rfl
  rw [hp]
  refine ⟨?_, ?_, ?_⟩
  · show (reF l).id ≤ if (reF l).ext = true then 536870911 else 2047
    unfold reF
    split
    · have h1 := numL_take_lt (l.drop 1) 11
      have h2 := numL_take_lt (l.drop 14) 18
      simp only [if_true]
      omega
    · have h1 := numL_take_lt (l.drop 1) 11
      simp only [Bool.false_eq_true, if_false]
      omega
  · show (reF l).dlc ≤ 15
    unfold reF
    split
    · have h1 := numL_take_lt (l.drop 35) 4
      simp only; omega
    · have h1 := numL_take_lt (l.drop 15) 4
      simp only; omega
  · show (paD l).length = _
    exact paD_length l h.1

/-- What is taken is a right frame. -/
theorem took_good {l : List Bool} {s : Tk} {x : Bool} (h : Reading l l.length s) (hs : (nxT s x).2 = 4) : Good (paU (nxT s x).1.l) := by
  have h1 := h.more x (.inr hs)
  have hB : s.p = 9 := by
    unfold nxT at hs
    repeat' split at hs
    all_goals first | (simp at hs; done) | assumption | (cases x <;> simp at hs; done) | omega
  have hB2 := BeB.of h1
  have hr : BeB (l ++ [x]) (l ++ [x]).length (nxT s x).1 := by
    rcases h1 with h1 | h1
    · exfalso
      have hp := h1.p
      have : (nxT s x).1.p = 10 := by
        have hx : x = true := by
          cases x with
          | true => rfl
          | false => rw [nx_dom (by omega) (by omega) (by omega)] at hs; simp at hs
        subst hx
        rw [nx_on (by omega) (by omega) (by omega) (by omega)]
        show s.p + 1 = 10
        omega
      omega
    · exact h1
  have h4 : 4 ≤ (nxT s x).1.p := by
    have hx : x = true := by
      cases x with
      | true => rfl
      | false => rw [nx_dom (by omega) (by omega) (by omega)] at hs; simp at hs
    subst hx
    rw [nx_on (by omega) (by omega) (by omega) (by omega)]
    show 4 ≤ s.p + 1
    omega
  exact fit_good (hr.got h4).fit
end Go.Proofs.YtgpmhmdofefdcaaGreat

namespace Go.Proofs.YtgpmhmdofefdcaaGreat
set_option linter.unusedVariables false

/-- The run behind what was put. -/
def psF (b : Bool) (m : Nat) : List Bool → Bool × Nat
  | [] => (b, m)
  | x :: l => if (nxt b m x).1.2 = 5 then psF (!x) 1 l else psF (nxt b m x).1.1 (nxt b m x).1.2 l

theorem putF_app (p : List Bool) : ∀ b m u, putF b m (p ++ u) = putF b m p ++ putF (psF b m p).1 (psF b m p).2 u := by
  induction p with
  | nil => intro b m u; rfl
  | cons x p ih =>
    intro b m u
    rw [List.cons_append, putF, putF, psF]
    split
    · rw [ih]; rfl
    · rw [ih]; rfl

theorem putF_first (b : Bool) (m : Nat) (x : Bool) (r : List Bool) : ∃ t, putF b m (x :: r) = x :: t := by
  rw [putF]; split
  · exact ⟨_, rfl⟩
  · exact ⟨_, rfl⟩

/-- A body that goes on with x behind p: its wire is that of p, and x behind it. -/
theorem put_split {B p r : List Bool} {x : Bool} (h : B = p ++ x :: r) : ∃ t, putL B = putL p ++ x :: t := by
  unfold putL
  rw [h, putF_app]
  obtain ⟨t, ht⟩ := putF_first (psF false 0 p).1 (psF false 0 p).2 x r
  exact ⟨t, by rw [ht]⟩

theorem wi_split {F : Fr} {p r : List Bool} {x : Bool} (h : boL F = p ++ x :: r) :
    (putL p).length < (putL (boL F)).length ∧ (wiL F).take (putL p).length = putL p ∧ (wiL F)[(putL p).length]? = some x := by
  obtain ⟨t, ht⟩ := put_split h
  refine ⟨by rw [ht]; simp, ?_, ?_⟩
  · unfold wiL; rw [ht, List.append_assoc, List.take_left]
  · unfold wiL; rw [ht, List.append_assoc, List.getElem?_append_right (by omega)]; simp

theorem ack_split {F : Fr} {p r : List Bool} {x : Bool} (h : boL F = p ++ x :: r) : (ackL F).take (putL p).length = putL p ∧ (ackL F)[(putL p).length]? = some x := by
  obtain ⟨h1, h2, h3⟩ := wi_split h
  unfold ackL
  refine ⟨?_, ?_⟩
  · rw [List.take_set_of_le (by omega)]; exact h2
  · rw [List.getElem?_set_ne (by omega)]; exact h3

/-- Where two wires part, what was read is what their bodies have in common, and no stuff bit is due. -/
theorem part_state {F : Fr} (hg : Good F) {p r : List Bool} {x : Bool} (h : boL F = p ++ x :: r) {s : Tk} (hr : Rd (ackL F) (putL (boL F)).length (putL p).length s) : s.l = p ∧ s.m ≠ 5 ∧ s.p = 0 := by
  obtain ⟨h1, _, _⟩ := wi_split h
  obtain ⟨h2, _⟩ := ack_split h
  have hR := hr.on (by omega)
  rcases hR with hI | hB
  · have htk := hI.tk
    rw [h2, tkL_putL] at htk
    have hl : s.l = p := by
      have := congrArg Prod.fst htk
      exact this.symm
    refine ⟨hl, fun h5 => ?_, hI.p⟩
    have hp := put_at (l := ackL F) (k := (putL p).length) (q := p) (by rw [h2]; exact tkL_putL _)
    have hru := hI.ru
    rw [if_pos (by rw [hru]; exact h5), h2] at hp
    have := congrArg List.length hp
    simp at this
  · exfalso
    have hlo := hB.lo
    obtain ⟨f1, _, _⟩ := wire_found hg (ack_take (F := F) false) (by rw [List.length_set, wiL_length]; omega)
    have : bdN (ackL F) = (putL (boL F)).length := f1
    omega

/-- Of two that go on alike, the one whose bit is recessive where the other's is dominant loses, as long as that is in arbitration. -/
theorem lost_step {G : Fr} (hg : Good G) {p r : List Bool} (h : boL G = p ++ true :: r) {s : Tk} (hr : Rd (ackL G) (putL (boL G)).length (putL p).length s) (h1 : 1 ≤ p.length) (h2 : p.length ≤ if G.ext then 32 else 12) (cf : Cf) :
    stC (sndAt G cf s (putL p).length) false = (rcvH true G cf (nxT s false).1, (3, zeroFr)) := by
  obtain ⟨hl, hm, _⟩ := part_state hg h hr
  obtain ⟨w1, _, w3⟩ := wi_split h
  have hwl := wiL_length G
  show sndC (sndAt G cf s (putL p).length) false = _
  unfold sndC
  refine (if_neg (show ¬ (putL p).length + 9 = (wiL G).length by rw [hwl]; omega)).trans ?_
  refine (if_neg (show ¬ (wiL G)[(putL p).length]?.getD false = false by rw [w3]; simp)).trans ?_
  refine (if_neg ?_).trans ?_
  · show ¬ (false = true ∨ s.l.length < 1 ∨ (if G.ext = true then 32 else 12) < s.l.length)
    rw [hl]
    rintro (h | h | h)
    · cases h
    · omega
    · omega
  · exact (if_neg hm).trans rfl

/-- The same behind arbitration: an error. -/
theorem differ_step {G : Fr} (hg : Good G) {p r : List Bool} (h : boL G = p ++ true :: r) {s : Tk} (hr : Rd (ackL G) (putL (boL G)).length (putL p).length s) (h2 : (if G.ext then 32 else 12) < p.length) :
    stC (sndAt G zeC s (putL p).length) false = (phC (sndAt G (cfT 8) s (putL p).length) 2 0 true, (4, zeroFr)) := by
  obtain ⟨hl, _, _⟩ := part_state hg h hr
  obtain ⟨w1, _, w3⟩ := wi_split h
  have hwl := wiL_length G
  have hc : failC (sndAt G zeC s (putL p).length) 4 = (phC (sndAt G (cfT 8) s (putL p).length) 2 0 true, (4, zeroFr)) := rfl
  show sndC (sndAt G zeC s (putL p).length) false = _
  unfold sndC
  refine (if_neg (show ¬ (putL p).length + 9 = (wiL G).length by rw [hwl]; omega)).trans ?_
  refine (if_neg (show ¬ (wiL G)[(putL p).length]?.getD false = false by rw [w3]; simp)).trans ?_
  refine (if_pos ?_).trans hc
  show (false = true ∨ s.l.length < 1 ∨ (if G.ext = true then 32 else 12) < s.l.length)
  rw [hl]; exact .inr (.inr h2)

/-- Where the one goes on and the other doesn't. -/
theorem bf_split : ∀ (l m : List Bool), bfL l m = true → ∃ p r1 r2, l = p ++ false :: r1 ∧ m = p ++ true :: r2 := by
  intro l
  induction l with
  | nil => intro m h; simp [bfL] at h
  | cons x l ih =>
    intro m h
    cases m with
    | nil => simp [bfL] at h
    | cons y m =>
      rw [bfL] at h
      split at h
      · rename_i hxy
        subst hxy
        obtain ⟨p, r1, r2, e1, e2⟩ := ih m h
        exact ⟨x :: p, r1, r2, by rw [e1]; rfl, by rw [e2]; rfl⟩
      · rename_i hxy
        subst h
        obtain rfl : x = false := by cases x <;> simp_all
        exact ⟨[], l, m, rfl, rfl⟩

theorem contest_split {F G : Fr} (h : bfL (conL F.id F.ext F.rem) (conL G.id G.ext G.rem) = true) :
    ∃ p r1 r2, boL F = p ++ false :: r1 ∧ boL G = p ++ true :: r2 ∧ 1 ≤ p.length ∧ p.length ≤ if G.ext then 32 else 12 := by
  obtain ⟨p, r1, r2, e1, e2⟩ := bf_split _ _ h
  have hb : ∀ H : Fr, ∃ t, boL H = conL H.id H.ext H.rem ++ t := fun H => by
    rw [boL_split]; unfold heL; exact ⟨_, by simp only [List.append_assoc]; rfl⟩
  obtain ⟨t1, h1⟩ := hb F
  obtain ⟨t2, h2⟩ := hb G
  refine ⟨p, r1 ++ t1, r2 ++ t2, by rw [h1, e1]; simp, by rw [h2, e2]; simp, ?_, ?_⟩
  · cases p with
    | nil =>
      exfalso
      have : (conL G.id G.ext G.rem)[0]? = some false := by unfold conL; split <;> rfl
      rw [e2] at this; simp at this
    | cons => simp
  · have hl : (conL G.id G.ext G.rem).length = p.length + 1 + r2.length := by rw [e2]; simp; omega
    rw [conL_length] at hl
    unfold conN at hl
    cases hG : G.ext with
    | true => rw [hG] at hl; simp only [if_true] at hl ⊢; omega
    | false =>
      rw [hG] at hl e2
      simp only [Bool.false_eq_true, if_false] at hl ⊢
      by_cases h13 : p.length = 13
      · exfalso
        have a : (conL G.id false G.rem)[13]? = some false := by
          unfold conL
          simp only [Bool.false_eq_true, if_false]
          rw [List.getElem?_append_right (by simp)]
          simp
        rw [e2, List.getElem?_append_right (by omega)] at a
        simp [h13] at a
      · omega
end Go.Proofs.YtgpmhmdofefdcaaGreat

namespace Go.Proofs.YtgpmhmdofefdcaaGreat
set_option linter.unusedVariables false

/-- Two rows of which none is the begin of the other part at some bit. -/
theorem part_at : ∀ (l m : List Bool), (∀ t, m ≠ l ++ t) → (∀ t, l ≠ m ++ t) → ∃ p r1 r2 x, l = p ++ x :: r1 ∧ m = p ++ (!x) :: r2 := by
  intro l
  induction l with
  | nil => intro m h _; exact absurd rfl (h m)
  | cons x l ih =>
    intro m h1 h2
    cases m with
    | nil => exact absurd rfl (h2 (x :: l))
    | cons y m =>
      by_cases hxy : x = y
      · subst hxy
        obtain ⟨p, r1, r2, z, e1, e2⟩ := ih m (fun t e => h1 t (by rw [e]; rfl)) (fun t e => h2 t (by rw [e]; rfl))
        exact ⟨x :: p, r1, r2, z, by rw [e1]; rfl, by rw [e2]; rfl⟩
      · obtain rfl : y = !x := by cases x <;> cases y <;> simp_all
        exact ⟨[], l, m, x, rfl, rfl⟩

theorem twins_split {F G : Fr} (hF : Good F) (hG : Good G) (hne : F ≠ G) (h1 : F.id = G.id) (h2 : F.ext = G.ext) (h3 : F.rem = G.rem) :
    ∃ p r1 r2 x, boL F = p ++ x :: r1 ∧ boL G = p ++ (!x) :: r2 ∧ (if F.ext then 32 else 12) < p.length := by
  have key : ∀ A B : Fr, Good A → Good B → A ≠ B → ∀ t, boL B ≠ boL A ++ t := fun A B hA hB hn t e => by
    obtain ⟨a1, _, _, _, a5⟩ := bo_all A hA
    obtain ⟨_, _, _, _, b5⟩ := bo_all B hB
    have hk := (paK_parts a1).1
    have e1 := hd_more (m := t) hk
    rw [← e, b5, a5] at e1
    have e2 := congrArg List.length e
    rw [List.length_append, e1] at e2
    have ht : t = [] := List.eq_nil_of_length_eq_zero (by omega)
    rw [ht, List.append_nil] at e
    exact hn ((bo_inj hB hA).1 e).symm
  obtain ⟨p, r1, r2, x, e1, e2⟩ := part_at (boL F) (boL G) (key F G hF hG hne) (key G F hG hF (fun e => hne e.symm))
  refine ⟨p, r1, r2, x, e1, e2, ?_⟩
  have hb : ∀ H : Fr, ∃ t, boL H = conL H.id H.ext H.rem ++ t := fun H => by
    rw [boL_split]; unfold heL; exact ⟨_, by simp only [List.append_assoc]; rfl⟩
  obtain ⟨t1, g1⟩ := hb F
  obtain ⟨t2, g2⟩ := hb G
  rw [← h1, ← h2, ← h3] at g2
  have hc := conL_length F.id F.ext F.rem
  have hle : (conL F.id F.ext F.rem).length ≤ p.length := by
    rcases Nat.lt_or_ge p.length (conL F.id F.ext F.rem).length with hlt | hge
    · exfalso
      have a : (boL F)[p.length]? = some x := by rw [e1, List.getElem?_append_right (Nat.le_refl _)]; simp
      have b : (boL G)[p.length]? = some (!x) := by rw [e2, List.getElem?_append_right (Nat.le_refl _)]; simp
      rw [g1, List.getElem?_append_left hlt] at a
      rw [g2, List.getElem?_append_left hlt, a] at b
      cases x <;> simp at b
    · exact hge
  rw [hc] at hle
  unfold conN at hle
  cases hx : F.ext with
  | true => rw [hx] at hle; simp only [if_true] at hle ⊢; omega
  | false => rw [hx] at hle; simp only [Bool.false_eq_true, if_false] at hle ⊢; omega

/-- So many bits alike are counted. -/
theorem cnt_run {l : List Bool} {y : Bool} {d : Nat} (s : Bool × Nat) : ∀ m, (∀ i, i < m → l[d + i]? = some y) → m ≤ (cnt s (l.take (d + m))).2 ∧ (0 < m → (cnt s (l.take (d + m))).1 = y) := by
  intro m
  induction m with
  | zero => intro _; exact ⟨Nat.zero_le _, fun h => absurd h (by omega)⟩
  | succ m ih =>
    intro h
    obtain ⟨h1, h2⟩ := ih (fun i hi => h i (by omega))
    have hx := h m (by omega)
    rw [show d + (m + 1) = d + m + 1 by omega, cnt_snoc s hx]
    unfold cst
    by_cases h0 : m = 0
    · subst h0
      split
      · rename_i he; exact ⟨by simp only; omega, fun _ => rfl⟩
      · exact ⟨by simp, fun _ => rfl⟩
    · have := h2 (by omega)
      rw [if_pos this.symm]
      exact ⟨by simp only; omega, fun _ => rfl⟩

/-- Behind a dominant bit of its wire a sender drives recessive within five bits more, and ahead of the acknowledgement. -/
theorem soon_rec {F : Fr} {d : Nat} (hd : d < (putL (boL F)).length) (hx : (wiL F)[d]? = some false) :
    ∃ e, d < e ∧ e ≤ d + 5 ∧ e ≤ (putL (boL F)).length ∧ (wiL F)[e]? = some true ∧ ∀ i, d ≤ i → i < e → (wiL F)[i]? = some false := by
  have hwl := wiL_length F
  have hget : ∀ i, i < (putL (boL F)).length + 10 → ∃ z, (wiL F)[i]? = some z := fun i hi => ⟨(wiL F)[i]'(by rw [hwl]; exact hi), by simp⟩
  -- the first recessive one
  have hex : ∃ e, d < e ∧ e ≤ d + 5 ∧ e ≤ (putL (boL F)).length ∧ (wiL F)[e]? = some true := by
    refine Classical.byContradiction fun hno => ?_
    have hall : ∀ i, i ≤ 5 → d + i ≤ (putL (boL F)).length → (wiL F)[d + i]? = some false := fun i hi hle => by
      by_cases h0 : i = 0
      · subst h0; exact hx
      · obtain ⟨z, hz⟩ := hget (d + i) (by omega)
        cases z with
        | false => exact hz
        | true => exact absurd ⟨d + i, by omega, by omega, hle, hz⟩ hno
    by_cases hlong : d + 5 < (putL (boL F)).length
    · have hin : ∀ i, i < 6 → (putL (boL F))[d + i]? = some false := fun i hi => by
        have := hall i (by omega) (by omega)
        unfold wiL at this
        rw [List.getElem?_append_left (by omega)] at this
        exact this
      have h6 := (cnt_run (l := putL (boL F)) (d := d) (false, 0) 6 hin).1
      have h5 := putL_runs (boL F) (d + 6)
      omega
    · have hP := hall ((putL (boL F)).length - d) (by omega) (by omega)
      rw [show d + ((putL (boL F)).length - d) = (putL (boL F)).length + 0 by omega, wi_at (by omega)] at hP
      cases hP
  obtain ⟨e0, a1, a2, a3, a4⟩ := hex
  -- the least of them
  have hmin : ∀ n, n ≤ 5 → (∃ e, d < e ∧ e ≤ d + n ∧ e ≤ (putL (boL F)).length ∧ (wiL F)[e]? = some true) → ∃ e, d < e ∧ e ≤ d + n ∧ e ≤ (putL (boL F)).length ∧ (wiL F)[e]? = some true ∧ ∀ i, d ≤ i → i < e → (wiL F)[i]? = some false := by
    intro n
    induction n with
    | zero => rintro _ ⟨e, b1, b2, _⟩; omega
    | succ n ih =>
      rintro hn ⟨e, b1, b2, b3, b4⟩
      by_cases hsm : ∃ e, d < e ∧ e ≤ d + n ∧ e ≤ (putL (boL F)).length ∧ (wiL F)[e]? = some true
      · obtain ⟨e', c1, c2, c3, c4, c5⟩ := ih (by omega) hsm
        exact ⟨e', c1, by omega, c3, c4, c5⟩
      · refine ⟨e, b1, b2, b3, b4, fun i h1 h2 => ?_⟩
        by_cases h0 : i = d
        · rw [h0]; exact hx
        · obtain ⟨z, hz⟩ := hget i (by omega)
          cases z with
          | false => exact hz
          | true => exact absurd ⟨i, by omega, by omega, by omega, hz⟩ hsm
  obtain ⟨e, c1, c2, c3, c4, c5⟩ := hmin 5 (by omega) ⟨e0, a1, a2, a3, a4⟩
  exact ⟨e, c1, c2, c3, c4, c5⟩
end Go.Proofs.YtgpmhmdofefdcaaGreat

namespace Go.Proofs.YtgpmhmdofefdcaaGreat
set_option linter.unusedVariables false

/-- Between frames: a dominant bit as the first or the second one. -/
theorem over_first (c : Ct) (e : Bool) : stC (phC c 7 0 e) false = (flSt c 4 false 0, (9, zeroFr)) := rfl
theorem over_second (c : Ct) (e : Bool) : stC (phC c 7 0 e) true = (phC c 7 1 e, noH) ∧ stC (phC c 7 1 e) false = (flSt c 4 false 0, (9, zeroFr)) := ⟨rfl, rfl⟩
/-- The third one. -/
theorem inter_third (c : Ct) (e : Bool) : stC (phC c 7 1 e) true = (phC c 7 2 e, noH) ∧ stC (phC c 7 2 e) true = (phC c (if holdC c then 8 else 0) 0 e, noH) ∧ stC (phC c 7 2 e) false = (begC (phC c 7 2 e) (c.has && !holdC c), noH) := ⟨rfl, rfl, rfl⟩

/-- One that was the sender waits while another flag goes on. -/
theorem wait_on {c : Ct} (hs : c.sender = true) {n : Nat} (hn : n < 7) (e : Bool) : stC (phC c 5 n e) false = (phC c 5 (n + 1) e, noH) := by
  have h0 : waitE (phC c 5 n e) = 0 := by
    unfold waitE
    refine (if_neg (fun h => ?_)).trans (if_neg (show ¬ (n + 1) % 8 = 0 by omega))
    have : c.sender = false := h.2.2
    rw [hs] at this; cases this
  show waitC (phC c 5 n e) false = _
  unfold waitC
  rw [if_neg (by simp), h0, if_neg (fun h => h.2 rfl)]
  rfl

theorem wait_end (c : Ct) (n : Nat) (e : Bool) : stC (phC c 5 n e) true = (phC c 6 1 e, noH) ∧ dvC (phC c 5 n e) = true := ⟨rfl, rfl⟩

/-- Behind bits that two wires have in common at least those were read. -/
theorem plain_pre {F : Fr} (hg : Good F) {p r : List Bool} {y : Bool} (h : boL F = p ++ y :: r) {k : Nat} {s : Tk} (hk : (putL p).length ≤ k) (hkn : k < (putL (boL F)).length + 10) (hr : Rd (ackL F) (putL (boL F)).length k s) : p.length ≤ s.l.length := by
  have hwl := wiL_length F
  obtain ⟨h2, _⟩ := ack_split h
  rcases hr.on hkn with hI | hB
  · have htk := hI.tk
    have hle := hI.kl
    have e1 : ((ackL F).take k).take (putL p).length = putL p := by rw [List.take_take, Nat.min_eq_left hk]; exact h2
    have e2 : tkL (((ackL F).take k).take (putL p).length) = (p, -1) := by rw [e1]; exact tkL_putL _
    obtain ⟨q, hq⟩ := tk_more e2
    unfold ackL at hq
    have : (tkL ((ackL F).take k)).1 = s.l := by
      have := congrArg Prod.fst htk
      exact this
    unfold ackL at this
    rw [this] at hq
    rw [hq]; simp
  · rw [hB.li]
    obtain ⟨_, f2, _⟩ := wire_found hg (ack_take (F := F) false) (by rw [List.length_set, hwl]; omega)
    have e : bdL (ackL F) = boL F := f2
    rw [e, h]; simp

/-- The other one fails where it drives recessive and samples the flag. -/
theorem other_turn {F : Fr} (hg : Good F) {p r : List Bool} {y : Bool} (h : boL F = p ++ y :: r) (hl : (if F.ext then 32 else 12) < p.length) {k : Nat} {s : Tk} (hk : (putL p).length ≤ k) (hkP : k ≤ (putL (boL F)).length)
    (hr : Rd (ackL F) (putL (boL F)).length k s) (hx : (wiL F)[k]? = some true) : stC (sndAt F zeC s k) false = (phC (sndAt F (cfT 8) s k) 2 0 true, (4, zeroFr)) := by
  have hwl := wiL_length F
  have hpl := plain_pre hg h hk (by omega) hr
  have hc : failC (sndAt F zeC s k) 4 = (phC (sndAt F (cfT 8) s k) 2 0 true, (4, zeroFr)) := rfl
  show sndC (sndAt F zeC s k) false = _
  unfold sndC
  refine (if_neg (show ¬ k + 9 = (wiL F).length by rw [hwl]; omega)).trans ?_
  refine (if_neg (show ¬ (wiL F)[k]?.getD false = false by rw [hx]; simp)).trans ?_
  refine (if_pos ?_).trans hc
  show (false = true ∨ s.l.length < 1 ∨ (if F.ext = true then 32 else 12) < s.l.length)
  exact .inr (.inr (by omega))
end Go.Proofs.YtgpmhmdofefdcaaGreat

namespace Go.Proofs.YtgpmhmdofefdcaaGreat
open Go.RowKit Go.Sort
set_option linter.unusedVariables false

theorem tk_s0 : TkOK s0 := ⟨⟨by simp [s0], fun _ => rfl⟩, by simp [s0], by simp [s0], fun e => by simp [s0] at e⟩

theorem P_top {F : Fr} (hg : Good F) : (putL (boL F)).length ≤ 150 := by
  have h1 := putL_len (boL F)
  have h2 := boL_length F
  have h3 : heN F.ext ≤ 39 := by unfold heN; split <;> omega
  have h4 : F.data.length ≤ 8 := by
    have := (riF_long ((good_iff F _ rfl).2 hg)).2.1; exact this
  omega

theorem tk_rd {F : Fr} (hg : Good F) {k : Nat} {s : Tk} (hk : k < (putL (boL F)).length + 10) (h : Rd (ackL F) (putL (boL F)).length k s) : TkOK s := by
  have hP := P_top hg
  refine ⟨h.ri, by have := h.len; omega, by have := h.p; omega, fun e => ?_⟩
  rcases h.on hk with hI | hB
  · have := hI.p; omega
  · exact ⟨hB.ok (by omega), hB.m⟩

theorem good_len {F : Fr} (hg : Good F) : F.data.length ≤ 8 := (riF_long ((good_iff F _ rfl).2 hg)).2.1

theorem ok_snd {F : Fr} (hg : Good F) {cf : Cf} (hm : moC cf ≤ 1) {k : Nat} {s : Tk} (h1 : 1 ≤ k) (hk : k < (putL (boL F)).length + 10) (h : Rd (ackL F) (putL (boL F)).length k s) (hl : 1 ≤ s.l.length) : StepOK (sndAt F cf s k) := by
  have hP := P_top hg
  have hwl := wiL_length F
  have hs := tk_rd hg hk h
  have hd := good_len hg
  refine ⟨by show (1 : Nat) < 10; omega, by show (0 : Nat) ≤ _; omega, fun _ => hm, fun _ => hg, by show F.data.length ≤ _; omega, by show (wiL F).length ≤ _; omega, by show s.l.length ≤ _; have := h.len; omega, fun _ => hs, fun _ _ => ⟨by show k < (wiL F).length; omega, by show (wiL F).length ≤ _; omega, fun e => ?_, hl⟩, fun e => absurd e (by show ¬ (1 : Nat) = 6; omega)⟩
  have e' : k + 9 = (wiL F).length := e
  show (wiL F)[k]?.getD false = true
  rw [show k = (putL (boL F)).length + 1 by omega, wi_at (by omega)]; rfl

theorem rd_len {F : Fr} (hg : Good F) {k : Nat} {s : Tk} (h1 : 1 ≤ k) (hk : k < (putL (boL F)).length + 10) (h : Rd (ackL F) (putL (boL F)).length k s) : 1 ≤ s.l.length := by
  have hP := P_pos F
  rcases h.on hk with hI | hB
  · have hp := put_at hI.tk
    have hkl := hI.kl
    by_cases h0 : s.l.length = 0
    · exfalso
      have e : s.l = [] := List.eq_nil_of_length_eq_zero h0
      rw [e] at hp
      have hl := congrArg List.length hp
      rw [show (putL ([] : List Bool)).length = 0 from rfl] at hl
      split at hl
      · rw [List.length_append, List.length_take] at hl; simp at hl
      · rw [List.length_take] at hl; omega
    · omega
  · rw [hB.li]
    obtain ⟨_, f2, _⟩ := wire_found hg (ack_take (F := F) false) (by rw [List.length_set, wiL_length]; omega)
    have e : bdL (ackL F) = boL F := f2
    rw [e, boL_length]; omega

theorem ok_rcv {F : Fr} (hg : Good F) {hs : Bool} {gv : Fr} (hgv : hs = true → Good gv) (hgl : gv.data.length ≤ 1000000) {cf : Cf} (hm : moC cf ≤ 1) {k : Nat} {s : Tk} (hk : k < (putL (boL F)).length + 10) (h : Rd (ackL F) (putL (boL F)).length k s) : StepOK (rcvH hs gv cf s) := by
  have hP := P_top hg
  exact ⟨by show (1 : Nat) < 10; omega, by show (0 : Nat) ≤ _; omega, fun _ => hm, hgv, hgl, by show ([] : List Bool).length ≤ _; simp, by show s.l.length ≤ _; have := h.len; omega, fun _ => tk_rd hg hk h, fun _ e => absurd e (by show ¬ false = true; simp), fun e => absurd e (by show ¬ (1 : Nat) = 6; omega)⟩

theorem ok_ph {c : Ct} {ph n : Nat} {e : Bool} (hm : ph ≠ 9 → moC c.cf ≤ 1) (h1 : ph ≠ 1) (h10 : ph < 10) (hn : n ≤ 7) (hgv : c.has = true → Good c.give) (hgl : c.give.data.length ≤ 1000000) : StepOK (phC c ph n e) :=
  ⟨h10, by show n ≤ _; omega, hm, hgv, hgl, by show ([] : List Bool).length ≤ _; simp, by show s0.l.length ≤ _; simp [s0], fun e => absurd e h1, fun e => absurd e h1, fun _ => by show n < 8; omega⟩

theorem ok_c0 : StepOK c0 := ok_ph (c := c0) (ph := 0) (n := 0) (e := false) (fun _ => by decide) (by omega) (by omega) (by omega) (fun e => by cases e) (by simp [c0, zeroFr])

theorem ok_gi {F : Fr} (hg : Good F) : StepOK (giC F) := by
  have hd := good_len hg
  exact ⟨by show (0 : Nat) < 10; omega, by show (0 : Nat) ≤ _; omega, fun _ => by show moC zeC ≤ 1; decide, fun _ => hg, by show F.data.length ≤ _; omega, by show ([] : List Bool).length ≤ _; simp, by show s0.l.length ≤ _; simp [s0], fun e => absurd e (by show ¬ (0 : Nat) = 1; omega), fun e => absurd e (by show ¬ (0 : Nat) = 1; omega), fun e => absurd e (by show ¬ (0 : Nat) = 6; omega)⟩
end Go.Proofs.YtgpmhmdofefdcaaGreat

namespace Go.Proofs.YtgpmhmdofefdcaaGreat
open Go.RowKit Go.Sort
set_option linter.unusedVariables false

theorem give_fr (F : Fr) (id : Nat) (ext rem : Bool) (dlc : Nat) (l : List UInt8) (hF : F = ⟨id, ext, rem, dlc, l⟩) (hg : Good F) (a : Option Addr) (k : Nat) (w : World) (h : RL bv w a l.length k l) :
    Calls Tryz.prog 31 #[.agg ctZ, .agg #[.int .u32 (id : Int), .bool ext, .bool rem, .int .u8 (dlc : Int), .slice a l.length k]] w fun e w' => ∃ s', e = .returned (.tuple #[.agg (ctA (giC F) s'), .int .i64 0]) ∧
      CtO w.heap.size w' (giC F) s' ∧ Below w.heap.size w w' := by
  subst hF
  exact give_yes w c0 sl0 _ hg a k (CtO.zero 0 w).r h rfl (by simp [c0]) (by simp [c0, s0])

theorem give_wrong (id : Nat) (ext rem : Bool) (dlc n : Nat) (a : Option Addr) (k : Nat) (w : World) (hi : id < 4294967296) (hd : dlc < 256) (hr : riF id ext rem dlc n = false) :
    Calls Tryz.prog 31 #[.agg ctZ, .agg #[.int .u32 (id : Int), .bool ext, .bool rem, .int .u8 (dlc : Int), .slice a n k]] w fun e w' => e = .returned (.tuple #[.agg ctZ, .int .i64 40]) ∧ Below w.heap.size w w' :=
  give_no w c0 sl0 id ext rem dlc a n k hi hd 40 (.inl ⟨hr, rfl⟩)

/-- A box laid for what Give handed back. -/
theorem cb_new {B : Nat} {w : World} {c : Ct} {s : Sl} (h : CtO B w c s) : Cb ((w.alloc (.cells ctZ 54)).setRow w.heap.size (ctA c s)) w.heap.size c s :=
  Cb.put (c := c0) (s := sl0) (heap_alloc_new w _) (h.alloc _) (h.fresh (Nat.le_refl _))
theorem below_new {B : Nat} {w0 w : World} (h : Below B w0 w) (hs : B ≤ w.heap.size) (c : Ct) (s : Sl) : Below B w0 ((w.alloc (.cells ctZ 54)).setRow w.heap.size (ctA c s)) :=
  below_setRow (h.alloc hs _) hs _

theorem mo_8 : moC (cfT 8) = 0 := by decide
theorem ok_fl {C : Ct} (hm : moC C.cf ≤ 1) (hg : C.has = true → Good C.give) (hd : C.give.data.length ≤ 1000000) {ph : Nat} (hp : ph = 2 ∨ ph = 4) (e : Bool) {j : Nat} (hj : j ≤ 16) : StepOK (flSt C ph e j) := by
  unfold flSt
  split
  · rcases hp with rfl | rfl
    · exact ok_ph (fun _ => hm) (by omega) (by omega) (by omega) hg hd
    · exact ok_ph (fun _ => hm) (by omega) (by omega) (by omega) hg hd
  · split
    · exact ok_ph (fun _ => hm) (by omega) (by omega) (by omega) hg hd
    · split
      · refine ok_ph (fun _ => hm) (by omega) (by omega) ?_ hg hd
        omega
      · exact ok_ph (fun _ => hm) (by omega) (by omega) (by omega) hg hd
end Go.Proofs.YtgpmhmdofefdcaaGreat

namespace Go.Proofs.YtgpmhmdofefdcaaGreat
open Go.RowKit
set_option linter.unusedVariables false

theorem all_snoc {l : List Bool} {k : Nat} {x : Bool} (h : l[k]? = some x) : (l.take (k + 1)).all id = ((l.take k).all id && x) := by
  rw [take_snoc h]; simp

theorem all_false {l : List Bool} {k : Nat} (h : l[k]? = some false) : l.all id = false := by
  rw [Bool.eq_false_iff]
  intro hh
  rw [List.all_eq_true] at hh
  exact absurd (hh false (List.mem_of_getElem? h)) (by simp)

theorem bus_any (w : World) (a : Option Addr) (n c : Nat) (l : List Bool) (h : RL .bool w a n c l) (hn : n ≤ 1000000) :
    Calls Tryz.prog 28 #[.slice a n c] w fun e w' => e = .returned (.bool (l.all id)) ∧ w = w' := by
  go_enter Tryz.func28, Tryz.ntmps28
  go_wp2
  go_loop [6] (fun i => ∃ k : Nat, k ≤ n ∧ i = .int .i64 k ∧ (l.take k).all id = true) (fun i => n - (intOf i).toNat)
  case atStart => exact ⟨0, Nat.zero_le _, rfl, rfl⟩
  case round =>
    obtain ⟨k, hk, rfl, hall⟩ := hrel
    by_cases hlt : k < n
    · obtain ⟨b, off, x, rfl, hx, hck⟩ := h.at hlt
      have HX := hid hx; clear hx
      have HA := hid hall; clear hall
      cases x
      · go_wp2
        go_ret
        exact ⟨ret_bool (all_false HX.out).symm, rfl⟩
      · go_wp2
        go_round
        case rel => exact ⟨k + 1, by omega, by go_num, by rw [all_snoc HX.out, HA.out]; rfl⟩
        case measure => simp [intOf]; omega
    · have HA := hid hall; clear hall
      have hkn : Hid (l.take k = l) := List.take_of_length_le (by rw [h.len]; omega)
      go_wp2
      go_ret
      exact ⟨ret_bool (HA.out.symm.trans (congrArg (·.all id) hkn.out)), rfl⟩

/-- How many are true. -/
def cntT (l : List Bool) : Nat := (l.filter id).length

theorem cntT_snoc {l : List Bool} {k : Nat} {x : Bool} (h : l[k]? = some x) : cntT (l.take (k + 1)) = cntT (l.take k) + x.toNat := by
  unfold cntT; rw [take_snoc h, List.filter_append]; cases x <;> simp

theorem cntT_le (l : List Bool) : cntT l ≤ l.length := List.length_filter_le _ _

theorem cntT_all (l : List Bool) : decide (cntT l = l.length) = l.all id := by
  rw [Bool.eq_iff_iff, decide_eq_true_eq, List.all_eq_true]
  exact List.length_filter_eq_length_iff

end Go.Proofs.YtgpmhmdofefdcaaGreat
