/-
  Plain mathematics of layer 7: the state of reading as a function on lists, and what the document's answer finds of all bits at once. Nothing of the program is spoken of here.
  Contract of Parse at a body (the program's).
-/
import Derived.Test.YtgpmhmdofefdcaaGreatM4
import Derived.Test.YtgpmhmdofefdcaaGreatB4e
import Derived.Deep.RegionLaw
namespace Go.Proofs.YtgpmhmdofefdcaaGreat
set_option linter.unusedVariables false

/-- Whether the check sum of a body fits. -/
def fitL (l : List Bool) : Bool := paK l && decide (suV l = 0#15)
/-- Whether bits are all of a body. -/
def cmpL (l : List Bool) : Bool := hdK l && decide (l.length = hdN l)

/-- The state of reading. -/
structure Tk where
  b : Bool
  m : Nat
  l : List Bool
  p : Nat
  fi : Bool

/-- The state behind a bit, and what it says. -/
def nxT (s : Tk) (x : Bool) : Tk × Nat :=
  if s.p = 0 then
    if (nxt s.b s.m x).2 = 2 then (⟨s.b, s.m, s.l, 11, s.fi⟩, 1)
    else if (nxt s.b s.m x).2 = 1 then (⟨(nxt s.b s.m x).1.1, (nxt s.b s.m x).1.2, s.l, if cmpL s.l && !decide ((nxt s.b s.m x).1.2 = 5) then 1 else 0, s.fi⟩, 0)
    else (⟨(nxt s.b s.m x).1.1, (nxt s.b s.m x).1.2, s.l ++ [x], if cmpL (s.l ++ [x]) && !decide ((nxt s.b s.m x).1.2 = 5) then 1 else 0, fitL (s.l ++ [x])⟩, 0)
  else if s.p = 2 then (⟨s.b, s.m, s.l, 3, s.fi⟩, 0)
  else if s.p = 10 then (⟨s.b, s.m, s.l, 11, s.fi⟩, if x then 6 else 5)
  else if 10 < s.p then (s, 6)
  else if x = false then (⟨s.b, s.m, s.l, 11, s.fi⟩, 2)
  else if s.p = 3 ∧ s.fi = false then (⟨s.b, s.m, s.l, 11, s.fi⟩, 3)
  else (⟨s.b, s.m, s.l, s.p + 1, s.fi⟩, if s.p = 9 then 4 else 0)

/-- The run behind bits of which none is wrong. -/
def ruF (b : Bool) (m : Nat) (t : List Bool) : Bool × Nat := t.foldl (fun s x => (nxt s.1 s.2 x).1) (b, m)

theorem drop_of_get {l : List Bool} {k : Nat} {x : Bool} (h : l[k]? = some x) : l.drop k = x :: l.drop (k + 1) := by
  obtain ⟨hk, rfl⟩ := List.getElem?_eq_some_iff.1 h
  exact List.drop_eq_getElem_cons hk

theorem ruF_cons (b : Bool) (m : Nat) (x : Bool) (t : List Bool) : ruF b m (x :: t) = ruF (nxt b m x).1.1 (nxt b m x).1.2 t := rfl

theorem ruF_snoc {l : List Bool} {k : Nat} {x : Bool} (h : l[k]? = some x) : ruF false 0 (l.take (k + 1)) = (nxt (ruF false 0 (l.take k)).1 (ruF false 0 (l.take k)).2 x).1 := by
  unfold ruF; rw [take_snoc h, List.foldl_append]; rfl

theorem tkF_app (t : List Bool) : ∀ b m i out u, (tkF b m i out t).2 = -1 → tkF b m i out (t ++ u) = tkF (ruF b m t).1 (ruF b m t).2 (i + t.length) (tkF b m i out t).1 u := by
  induction t with
  | nil => intro b m i out u _; simp [tkF, ruF]
  | cons x t ih =>
    intro b m i out u h
    rw [List.cons_append]
    rw [tkF] at h ⊢
    rw [ruF_cons, List.length_cons]
    split at h
    · simp only at h; omega
    · rename_i h2
      rw [if_neg h2]
      split at h
      · rename_i h1
        rw [if_pos h1, ih _ _ _ _ _ h]
        conv => rhs; rw [tkF, if_neg h2, if_pos h1]
        congr 1; omega
      · rename_i h1
        rw [if_neg h1, ih _ _ _ _ _ h]
        conv => rhs; rw [tkF, if_neg h2, if_neg h1]
        congr 1; omega

theorem tkF_ge (l : List Bool) : ∀ b m i out, (tkF b m i out l).2 = -1 ∨ (i : Int) ≤ (tkF b m i out l).2 := by
  induction l with
  | nil => intro b m i out; exact .inl rfl
  | cons x l ih =>
    intro b m i out
    rw [tkF]
    split
    · right; simp
    · split
      · rcases ih (nxt b m x).1.1 (nxt b m x).1.2 (i + 1) out with h | h
        · exact .inl h
        · right; omega
      · rcases ih (nxt b m x).1.1 (nxt b m x).1.2 (i + 1) (out ++ [x]) with h | h
        · exact .inl h
        · right; omega

/-- What was taken, and nothing wrong in it, put again: as it was, and the stuff bit that is owed. -/
theorem put_again : ∀ (N : Nat) (l : List Bool), l.length ≤ N → ∀ b m i, m ≤ 4 → (tkF b m i [] l).2 = -1 → putF b m (tkF b m i [] l).1 = if (ruF b m l).2 = 5 then l ++ [!(ruF b m l).1] else l := by
  intro N
  induction N with
  | zero => intro l hl b m i hm _; obtain rfl : l = [] := List.eq_nil_of_length_eq_zero (by omega); rw [if_neg (by simp [ruF]; omega)]; rfl
  | succ N ih =>
    intro l hl b m i hm h
    cases l with
    | nil => rw [if_neg (by simp [ruF]; omega)]; rfl
    | cons x l =>
      simp only [List.length_cons] at hl
      have hp := nxt_plain (b := b) (x := x) (show m ≠ 5 by omega)
      rw [tkF, hp, if_neg (by decide), if_neg (by decide), tkF_out] at h ⊢
      simp only [List.nil_append, List.cons_append] at h ⊢
      rw [putF, ruF_cons]
      by_cases h5 : (nxt b m x).1.2 = 5
      · rw [if_pos h5]
        obtain ⟨e, _⟩ := nxt_five hm h5
        rw [e] at h ⊢
        simp only at h ⊢
        cases l with
        | nil => rw [if_pos (by rfl)]; rfl
        | cons y l =>
          rw [tkF] at h ⊢
          by_cases hy : y = x
          · rw [show nxt x 5 y = ((x, 5), 2) from by unfold nxt; rw [if_pos rfl, if_pos hy], if_pos rfl] at h
            simp only at h
            omega
          · obtain rfl : y = !x := by cases x <;> cases y <;> simp_all
            rw [nxt_owed, if_neg (show ¬ ((1 : Nat) = 2) by decide), if_pos rfl] at h
            rw [ruF_cons, nxt_owed, if_neg (show ¬ ((1 : Nat) = 2) by decide), if_pos rfl]
            simp only [List.length_cons] at hl
            simp only at h ⊢
            rw [ih l (by omega) (!x) 1 (i + 1 + 1) (by omega) h]
            split <;> simp
      · rw [if_neg h5]
        rw [ih l (by omega) _ _ (i + 1) (nxt_le hm h5).1 h]
        split <;> simp

theorem putL_again {l : List Bool} (h : (tkL l).2 = -1) : putL (tkL l).1 = if (ruF false 0 l).2 = 5 then l ++ [!(ruF false 0 l).1] else l := put_again l.length l (Nat.le_refl _) false 0 0 (by omega) h

theorem putF_more (u : List Bool) : ∀ b m v, m ≤ 4 → (putF b m u).length + v.length ≤ (putF b m (u ++ v)).length := by
  induction u with
  | nil => intro b m v hm; have := (putF_len v b m hm).1; simpa [putF] using this
  | cons x u ih =>
    intro b m v hm
    rw [List.cons_append, putF, putF]
    split
    · have := ih (!x) 1 v (by omega); simp only [List.length_cons]; omega
    · rename_i h5
      have := ih (nxt b m x).1.1 (nxt b m x).1.2 v (nxt_le hm h5).1; simp only [List.length_cons]; omega

/-- The document's Body: how many bits, and its plain ones. -/
def bdK (l : List Bool) : Bool := hdK (tkL l).1 && decide (hdN (tkL l).1 ≤ (tkL l).1.length)
def bdL (l : List Bool) : List Bool := if bdK l then (tkL l).1.take (hdN (tkL l).1) else []
def bdN (l : List Bool) : Nat := if bdK l then (putL (bdL l)).length else 0

theorem bdN_pos {l : List Bool} : bdN l = 0 ↔ bdK l = false := by
  unfold bdN
  cases h : bdK l with
  | false => simp
  | true =>
    simp only [if_true]
    have h1 := (putL_len (bdL l)).1
    unfold bdL at h1
    rw [if_pos h, List.length_take] at h1
    unfold bdK at h
    simp only [Bool.and_eq_true, decide_eq_true_eq] at h
    have : 15 ≤ hdN (tkL l).1 := by unfold hdN; omega
    unfold bdL
    simp only [bdK, h.1, decide_eq_true h.2, Bool.and_self, if_true, Bool.true_eq_false, iff_false]
    omega

/-- What the document says of bit i. -/
def rdS (n : Nat) (wr : Int) (fi : Bool) (i : Nat) (x : Bool) : Nat :=
  if n = 0 ∨ i < n then (if (i : Int) = wr then 1 else 0)
  else if i - n = 1 then 0
  else if i - n = 9 then (if x then 6 else 5)
  else if x = false then 2
  else if i - n = 2 ∧ fi = false then 3
  else if i - n = 8 then 4 else 0

/-- In the body. -/
structure InB (l : List Bool) (k : Nat) (s : Tk) : Prop where
  p : s.p = 0
  tk : tkL (l.take k) = (s.l, -1)
  ru : ruF false 0 (l.take k) = (s.b, s.m)
  fi : s.fi = fitL s.l
  le : hdK s.l = true → s.l.length ≤ hdN s.l
  no : ¬ (cmpL s.l = true ∧ s.m ≠ 5)
  kl : k ≤ l.length
  ri : rightA s.b s.m

/-- Behind the body. -/
structure BeB (l : List Bool) (k : Nat) (s : Tk) : Prop where
  n0 : bdN l ≠ 0
  lo : bdN l ≤ k
  hi : k ≤ bdN l + 9
  p : s.p = 1 + (k - bdN l)
  li : s.l = bdL l
  fi : s.fi = fitL (bdL l)
  m : s.m ≠ 5
  ri : rightA s.b s.m
  ok : 4 ≤ s.p → s.fi = true
  pu : l.take (bdN l) = putL (bdL l)
  cm : cmpL (bdL l) = true

def s0 : Tk := ⟨false, 0, [], 0, false⟩

theorem InB.start (l : List Bool) : InB l 0 s0 :=
  ⟨rfl, by simp [s0, tkL, tkF], by simp [s0, ruF], by simp only [s0]; rfl, by simp [s0, hdK], by simp [s0, cmpL, hdK], Nat.zero_le _, ⟨by simp [s0], fun _ => rfl⟩⟩

theorem hdK_short {l m : List Bool} (h : hdK l = false) (h2 : hdK (l ++ m) = true) : l.length < hdN (l ++ m) := by
  unfold hdK at h h2
  have hN : heM (l ++ m) + 15 ≤ hdN (l ++ m) := by unfold hdN; omega
  unfold heM at hN
  simp only [Bool.and_eq_true, decide_eq_true_eq, Bool.or_eq_true, Bool.not_eq_true'] at h2
  by_cases h19 : l.length < 19
  · split at hN <;> omega
  · rw [List.getElem?_append_left (by omega)] at h2 hN
    cases hx : l[13]?.getD false with
    | true => rw [hx] at h hN; simp only [if_true] at hN; simp at h; omega
    | false => rw [hx] at h; simp at h; omega

theorem tk_split {l : List Bool} {k : Nat} {q : List Bool} (h : tkL (l.take k) = (q, -1)) : tkL l = tkF (ruF false 0 (l.take k)).1 (ruF false 0 (l.take k)).2 (l.take k).length q (l.drop k) := by
  have := tkF_app (l.take k) false 0 0 [] (l.drop k) (by unfold tkL at h; rw [h])
  rw [List.take_append_drop] at this
  unfold tkL at h ⊢
  rw [this, h, Nat.zero_add]

theorem tk_more {l : List Bool} {k : Nat} {q : List Bool} (h : tkL (l.take k) = (q, -1)) : ∃ r, (tkL l).1 = q ++ r := by
  rw [tk_split h, tkF_out]; exact ⟨_, rfl⟩

theorem put_at {l : List Bool} {k : Nat} {q : List Bool} (h : tkL (l.take k) = (q, -1)) : putL q = if (ruF false 0 (l.take k)).2 = 5 then l.take k ++ [!(ruF false 0 (l.take k)).1] else l.take k := by
  have := putL_again (l := l.take k) (by rw [h])
  rw [h] at this
  exact this

/-- The body is there. -/
theorem bd_found {l : List Bool} {k : Nat} {q : List Bool} (hk : k ≤ l.length) (h : tkL (l.take k) = (q, -1)) (hm : (ruF false 0 (l.take k)).2 ≠ 5) (hc : cmpL q = true) : bdN l = k ∧ bdL l = q ∧ k ≠ 0 ∧ l.take k = putL q := by
  obtain ⟨r, hr⟩ := tk_more h
  unfold cmpL at hc
  simp only [Bool.and_eq_true, decide_eq_true_eq] at hc
  have e1 := hd_more (m := r) hc.1
  have e2 := hdK_more (m := r) hc.1
  have hb : bdK l = true := by
    unfold bdK; rw [hr, e2, e1]; simp [← hc.2]
  have hL : bdL l = q := by
    unfold bdL; rw [if_pos hb, hr, e1, ← hc.2, List.take_left]
  have hp := put_at h
  rw [if_neg hm] at hp
  have hN : bdN l = k := by
    unfold bdN; rw [if_pos hb, hL, hp, List.length_take]; omega
  refine ⟨hN, hL, fun h0 => ?_, hp.symm⟩
  subst h0
  have := bdN_pos.1 hN
  rw [hb] at this; cases this

/-- As long as the body is not over. -/
theorem InB.early {l : List Bool} {k : Nat} {s : Tk} (h : InB l k s) : bdN l = 0 ∨ k < bdN l := by
  by_cases h0 : bdN l = 0
  · exact .inl h0
  right
  have hb : bdK l = true := by
    cases e : bdK l with
    | true => rfl
    | false => exact absurd (bdN_pos.2 e) h0
  obtain ⟨r, hr⟩ := tk_more h.tk
  have hb' := hb
  unfold bdK at hb'
  simp only [Bool.and_eq_true, decide_eq_true_eq] at hb'
  have hp := put_at h.tk
  have hpk : k ≤ (putL s.l).length := by
    rw [hp]; split <;> simp <;> have := h.kl <;> omega
  have hL : bdL l = (s.l ++ r).take (hdN (s.l ++ r)) := by unfold bdL; rw [if_pos hb, hr]
  have hN : bdN l = (putL (bdL l)).length := by unfold bdN; rw [if_pos hb]
  rw [hr] at hb'
  by_cases hc : cmpL s.l = true
  · have h5 : s.m = 5 := Classical.byContradiction fun h5 => h.no ⟨hc, h5⟩
    unfold cmpL at hc
    simp only [Bool.and_eq_true, decide_eq_true_eq] at hc
    rw [hN, hL, hd_more hc.1, ← hc.2, List.take_left, hp, h.ru]
    simp only [h5, if_true, List.length_append, List.length_take, List.length_cons, List.length_nil]
    have := h.kl
    omega
  · have hlt : s.l.length < hdN (s.l ++ r) := by
      cases hk : hdK s.l with
      | true =>
        rw [hd_more hk]
        have h1 := h.le hk
        have h2 : s.l.length ≠ hdN s.l := fun e => hc (by unfold cmpL; simp [hk, ← e])
        omega
      | false => exact hdK_short hk hb'.1
    obtain ⟨d, hd⟩ : ∃ d, hdN (s.l ++ r) = s.l.length + d := ⟨hdN (s.l ++ r) - s.l.length, by omega⟩
    rw [hd] at hL hb'
    have e : (s.l ++ r).take (s.l.length + d) = s.l ++ r.take d := by rw [List.take_append, List.take_of_length_le (by omega)]; simp
    rw [e] at hL
    have hrd : d ≤ r.length := by simp at hb'; omega
    have := putF_more s.l false 0 (r.take d) (by omega)
    rw [hN, hL]
    unfold putL at hpk ⊢
    rw [List.length_take] at this
    omega

theorem inb_next {l : List Bool} {k : Nat} {x : Bool} {q : List Bool} {b : Bool} {m : Nat} {fi : Bool} (hx : l[k]? = some x) (htk : tkL (l.take (k + 1)) = (q, -1)) (hru : ruF false 0 (l.take (k + 1)) = (b, m)) (hfi : fi = fitL q)
    (hle : hdK q = true → q.length ≤ hdN q) (hri : rightA b m) :
    InB l (k + 1) ⟨b, m, q, if cmpL q && !decide (m = 5) then 1 else 0, fi⟩ ∨ BeB l (k + 1) ⟨b, m, q, if cmpL q && !decide (m = 5) then 1 else 0, fi⟩ := by
  have hkl : k + 1 ≤ l.length := by
    have := (List.getElem?_eq_some_iff.1 hx).1; omega
  by_cases hc : cmpL q = true ∧ m ≠ 5
  · right
    obtain ⟨h1, h2, h3, h4⟩ := bd_found hkl htk (by rw [hru]; exact hc.2) hc.1
    have e : (cmpL q && !decide (m = 5)) = true := by rw [hc.1, decide_eq_false hc.2]; rfl
    rw [e]
    refine ⟨by rw [h1]; exact h3, by omega, by omega, by simp [h1], by rw [h2], by rw [h2]; exact hfi, hc.2, hri, by simp, by rw [h1, h2]; exact h4, by rw [h2]; exact hc.1⟩
  · left
    have e : (cmpL q && !decide (m = 5)) = false := by
      cases h : cmpL q with
      | false => rfl
      | true => have : m = 5 := Classical.byContradiction fun h5 => hc ⟨h, h5⟩
                simp [this]
    rw [e]
    exact ⟨rfl, htk, hru, hfi, hle, hc, hkl, hri⟩

theorem InB.step {l : List Bool} {k : Nat} {s : Tk} {x : Bool} (h : InB l k s) (hx : l[k]? = some x) :
    (nxT s x).2 = rdS (bdN l) (tkL l).2 (fitL (bdL l)) k x ∧ ((nxT s x).2 = 0 ∨ (nxT s x).2 = 4 → InB l (k + 1) (nxT s x).1 ∨ BeB l (k + 1) (nxT s x).1) := by
  have hkl : k < l.length := (List.getElem?_eq_some_iff.1 hx).1
  have hR : rdS (bdN l) (tkL l).2 (fitL (bdL l)) k x = if (k : Int) = (tkL l).2 then 1 else 0 := by unfold rdS; rw [if_pos h.early]
  have hs := tk_split h.tk
  have hlk : (l.take k).length = k := by rw [List.length_take]; omega
  rw [h.ru, hlk, drop_of_get hx] at hs
  have hs1 : tkL (l.take (k + 1)) = tkF s.b s.m k s.l [x] := by
    have := tkF_app (l.take k) false 0 0 [] [x] (by have := h.tk; unfold tkL at this; rw [this])
    rw [← take_snoc hx] at this
    have e := h.tk
    unfold tkL at e ⊢
    rw [this, e, h.ru, Nat.zero_add, hlk]
  have hr1 := ruF_snoc hx
  rw [h.ru] at hr1
  simp only at hs hs1 hr1
  have hri := (nxt_right (x := x) h.ri).1
  rw [hR]
  unfold nxT
  rw [if_pos h.p]
  rw [tkF] at hs hs1
  by_cases h2 : (nxt s.b s.m x).2 = 2
  · rw [if_pos h2] at hs ⊢
    rw [hs]
    simp
  · rw [if_neg h2] at hs hs1 ⊢
    have hwr : ∀ b m out, (tkF b m (k + 1) out (l.drop (k + 1))).2 ≠ (k : Int) := fun b m out e => by
      rcases tkF_ge (l.drop (k + 1)) b m (k + 1) out with h' | h' <;> omega
    by_cases h1 : (nxt s.b s.m x).2 = 1
    · rw [if_pos h1] at hs hs1 ⊢
      rw [hs]
      refine ⟨(if_neg (fun e => hwr _ _ _ e.symm)).symm, fun _ => ?_⟩
      exact inb_next hx (by rw [hs1]; rfl) hr1 h.fi h.le hri
    · rw [if_neg h1] at hs hs1 ⊢
      rw [hs]
      refine ⟨(if_neg (fun e => hwr _ _ _ e.symm)).symm, fun _ => ?_⟩
      refine inb_next hx (by rw [hs1]; rfl) hr1 rfl (fun hk => ?_) hri
      cases hk0 : hdK s.l with
      | true =>
        rw [hd_more hk0]
        have h3 := h.le hk0
        have h5 : s.m ≠ 5 := fun h5 => by
          unfold nxt at h1 h2
          rw [if_pos h5] at h1 h2
          split at h2
          · simp at h2
          · rename_i hn; rw [if_neg hn] at h1; simp at h1
        have h4 : s.l.length ≠ hdN s.l := fun e => h.no ⟨by unfold cmpL; simp [hk0, ← e], h5⟩
        simp only [List.length_append, List.length_cons, List.length_nil]
        omega
      | false =>
        have := hdK_short hk0 hk
        simp only [List.length_append, List.length_cons, List.length_nil]
        omega

theorem BeB.step {l : List Bool} {k : Nat} {s : Tk} {x : Bool} (h : BeB l k s) (hx : l[k]? = some x) :
    (nxT s x).2 = rdS (bdN l) (tkL l).2 (fitL (bdL l)) k x ∧ ((nxT s x).2 = 0 ∨ (nxT s x).2 = 4 → BeB l (k + 1) (nxT s x).1) := by
  obtain ⟨n0, lo, hi, hp, hl, hfi, hm, hri, hok, hpu, hcm⟩ := h
  obtain ⟨d, rfl⟩ : ∃ d, k = bdN l + d := ⟨k - bdN l, by omega⟩
  have hd : bdN l + d - bdN l = d := by omega
  rw [hd] at hp
  have hnn : ¬ (bdN l = 0 ∨ bdN l + d < bdN l) := by omega
  unfold rdS
  rw [if_neg hnn, hd]
  unfold nxT
  rw [hp, ← hfi]
  rw [hp] at hok
  have hdd : bdN l + d + 1 - bdN l = d + 1 := by omega
  rw [if_neg (by omega)]
  by_cases h1 : d = 1
  · subst h1
    rw [if_pos rfl, if_pos rfl]
    exact ⟨rfl, fun _ => ⟨n0, by omega, by omega, by rw [hdd], hl, hfi, hm, hri, by simp, hpu, hcm⟩⟩
  rw [if_neg (by omega), if_neg h1]
  by_cases h9 : d = 9
  · subst h9
    rw [if_pos rfl, if_pos rfl]
    refine ⟨rfl, fun hh => ?_⟩
    cases x <;> simp at hh
  rw [if_neg (by omega), if_neg h9, if_neg (by omega)]
  cases x
  · rw [if_pos rfl, if_pos rfl]
    refine ⟨rfl, fun hh => ?_⟩
    simp at hh
  rw [if_neg (show ¬ (true = false) by simp), if_neg (show ¬ (true = false) by simp)]
  by_cases h2 : d = 2 ∧ s.fi = false
  · rw [if_pos ⟨by omega, h2.2⟩, if_pos h2]
    refine ⟨rfl, fun hh => ?_⟩
    simp at hh
  · rw [if_neg (fun hh => h2 ⟨by omega, hh.2⟩), if_neg h2]
    refine ⟨by by_cases h8 : d = 8 <;> simp [h8] <;> omega, fun _ => ⟨n0, by omega, by omega, by rw [hdd]; simp only; omega, hl, hfi, hm, hri, fun h4 => ?_, hpu, hcm⟩⟩
    simp only at h4 ⊢
    by_cases h3 : d = 2
    · cases e : s.fi with
      | true => rfl
      | false => exact absurd ⟨h3, e⟩ h2
    · exact hok (by omega)

/-- What the state is, as long as nothing has ended it. -/
def Reading (l : List Bool) (k : Nat) (s : Tk) : Prop := InB l k s ∨ BeB l k s

theorem Reading.start (l : List Bool) : Reading l 0 s0 := .inl (InB.start l)

theorem Reading.step {l : List Bool} {k : Nat} {s : Tk} {x : Bool} (h : Reading l k s) (hx : l[k]? = some x) :
    (nxT s x).2 = rdS (bdN l) (tkL l).2 (fitL (bdL l)) k x ∧ ((nxT s x).2 = 0 ∨ (nxT s x).2 = 4 → Reading l (k + 1) (nxT s x).1) := by
  rcases h with h | h
  · exact h.step hx
  · obtain ⟨h1, h2⟩ := h.step hx
    exact ⟨h1, fun e => .inr (h2 e)⟩

theorem Reading.ri {l : List Bool} {k : Nat} {s : Tk} (h : Reading l k s) : rightA s.b s.m := by
  rcases h with h | h
  · exact h.ri
  · exact h.ri
end Go.Proofs.YtgpmhmdofefdcaaGreat

namespace Go.Proofs.YtgpmhmdofefdcaaGreat
open Go.RowKit Go.Sort
set_option linter.unusedVariables false

/-- The state of Parse's loop: the row that is read, the boxes of the result and of the frame, the bytes so far. -/
structure Pl (w wr : World) (g q : Nat) (l : List Bool) (v0 v1 v2 v3 : Value) (a : Option Addr) (k c : Nat) (out : List UInt8) : Prop where
  row : Rw w wr g l
  bel : Below w.heap.size w wr
  b2 : wr.heap[w.heap.size]? = some (.cells #[.int .u32 0, .bool false, .bool false, .int .u8 0, .slice none 0 0] 26 (0, 0))
  b3 : wr.heap[q]? = some (.cells #[v0, v1, v2, v3, .slice a k c] 26 (0, 0))
  own : OL bv 5 (q + 1) wr a k c out

section
variable {w wr w' : World} {g q : Nat} {l l' : List Bool} {v0 v1 v2 v3 : Value} {a a' : Option Addr} {k c k' c' : Nat} {out out' : List UInt8}
theorem Pl.call (h : Pl w wr g q l v0 v1 v2 v3 a k c out) (hg : w.heap.size < g) (hq : g < q) (hr : Rw w w' g l') (hgr : wr.grownBy w' (some g)) : Pl w w' g q l' v0 v1 v2 v3 a k c out :=
  ⟨hr, h.bel.grown hgr h.bel.size (fun k hk => by simp at hk; omega), grow_box hgr h.b2 (by omega), grow_box hgr h.b3 (by omega), h.own.kept fun j hj => by
    have h1 := h.own.ltB hj
    exact hgr.block j h1.1 (by simp; have := h1.2; dsimp only at this; omega)⟩
theorem Pl.drew (h : Pl w wr g q l v0 v1 v2 v3 a k c out) : Pl w wr.drew g q l v0 v1 v2 v3 a k c out := ⟨h.row, h.bel.drew, h.b2, h.b3, h.own.drew⟩
theorem Pl.size (h : Pl w wr g q l v0 v1 v2 v3 a k c out) : q < wr.heap.size := bx_lt h.b3
theorem Pl.lt (h : Pl w wr g q l v0 v1 v2 v3 a k c out) : g < wr.heap.size := by obtain ⟨_, _, _, h1, _⟩ := h.row; exact bx_lt h1
theorem Pl.app (h : Pl w wr g q l v0 v1 v2 v3 a k c out) (hg : w.heap.size < g) (hq : g < q) (o : Obj) (hol : OL bv 5 (q + 1) w' a' k' c' out') (hb : Below (q + 1) (wr.alloc o) w') :
    Pl w (w'.setCell ⟨q, 4, none⟩ (.slice a' k' c')) g q l v0 v1 v2 v3 a' k' c' out' := by
  have hs := h.size
  have hq' : ∀ j, j ≤ q → w'.heap[j]? = wr.heap[j]? := fun j hj => (hb.block j (by omega)).trans (Below.heap_alloc _ _ _ (by omega))
  refine ⟨h.row.grown ((heap_setCell_other _ _ _ _ (by simp; omega)).trans (hq' g (by omega))), ?_, ?_, ?_, hol.kept fun j hj => heap_setCell_other _ _ _ _ ?_⟩
  · exact ((h.bel.alloc h.bel.size o).trans (hb.mono (by omega))).setCell (by simp; omega) _
  · exact (heap_setCell_other _ _ _ _ (by simp; omega)).trans ((hq' _ (by omega)).trans h.b2)
  · have := heap_setCell_same w' q 4 _ _ (.slice a' k' c') ((hq' q (Nat.le_refl _)).trans h.b3)
    simpa using this
  · have h1 := (hol.ltB hj).2
    dsimp only at h1 ⊢
    omega
end

/-- One byte more of what is read. -/
theorem byL_chunk {l : List Bool} {M k L : Nat} (hk : k < L) (hl : M + 8 * L ≤ l.length) : (byL ((l.drop M).take (8 * L))).take (k + 1) = (byL ((l.drop M).take (8 * L))).take k ++ [UInt8.ofNat (numL ((l.drop (M + 8 * k)).take 8) % 4294967296)] := by
  have hlen : ((l.drop M).take (8 * L)).length = 8 * L := by rw [List.length_take, List.length_drop]; omega
  have h := byL_get ((l.drop M).take (8 * L)) k (by rw [hlen]; omega)
  have hn : numL ((l.drop (M + 8 * k)).take 8) % 4294967296 = numL ((l.drop (M + 8 * k)).take 8) := by
    have := numL_take_lt (l.drop (M + 8 * k)) 8
    exact Nat.mod_eq_of_lt (by omega)
  rw [take_snoc h, hn]
  congr 3
  rw [List.drop_take, List.drop_drop, List.take_take, Nat.min_eq_left (by omega)]

theorem byL_done {l : List Bool} {M L : Nat} (hl : M + 8 * L ≤ l.length) : (byL ((l.drop M).take (8 * L))).length = L := by
  rw [byL_length, List.length_take, List.length_drop]; omega

theorem lit1V (w : World) (v : Nat) (hv : v < 256) : RL bv (w.alloc (.cells #[.int .u8 (v : Int)] 5)) (some ⟨w.heap.size, 0, none⟩) 1 1 [UInt8.ofNat v] := by
  have h := ol_lit bv 5 w.heap.size w [UInt8.ofNat v] #[bv (UInt8.ofNat v)] 1 rfl rfl (by omega) (Nat.le_refl _)
  have e : bv (UInt8.ofNat v) = .int .u8 (v : Int) := by
    show Value.int .u8 ((UInt8.ofNat v).toNat : Int) = _
    rw [UInt8.toNat_ofNat_of_lt' (by simpa using hv)]
  rw [e] at h
  exact h.rl

set_option maxHeartbeats 2000000 in
theorem parse_own (w : World) (a : Option Addr) (n c : Nat) (l : List Bool) (h : RL .bool w a n c l) (hk : paK l = true) (hs : suV l = 0#15) :
    Calls Tryz.prog 97 #[.slice a n c] w fun e w' => ∃ a' c', e = .returned (.tuple #[.agg #[.int .u32 ((reF l).id : Int), .bool (reF l).ext, .bool (reF l).rem, .int .u8 ((reF l).dlc : Int), .slice a' (lonF (reF l).rem (reF l).dlc) c'], .int .i64 0]) ∧ OL bv 5 w.heap.size w' a' (lonF (reF l).rem (reF l).dlc) c' (paD l) ∧ Below w.heap.size w w' := by
  have hmf : ∀ (fn : Fn) (first cap : Array Value) (w : World), (Instr.makeFunc fn first cap).run Tryz.prog w = .ok (.func fn first cap) w := fun _ _ _ _ => rfl
  obtain ⟨hd, hx, hlN⟩ := paK_parts hk
  have hN2 := hdN_le l
  obtain ⟨w1, hw1, hb1, g1⟩ := zero_new w
  have h1 := h.below g1
  have hs1 : w.heap.size < w1.heap.size := bx_lt hb1
  have hH := fhead_any w1 a n c l h1 (by rw [← h.len]; omega) hd
  rw [← hlN, h.len] at hH hN2
  obtain ⟨b, off, x, rfl, hx', hck⟩ := h1.at (k := 0) (by omega)
  obtain rfl : x = false := by rw [hx'] at hx; simpa using hx
  have hlt : b < w1.heap.size := by obtain ⟨b', off', e, hl, _⟩ := h1.cell (by omega); cases e; exact hl
  obtain ⟨E, hE⟩ : ∃ E, n = E + 15 := ⟨n - 15, by omega⟩
  have hst := (sum_tail (l := l) (E := E) (by rw [h.len]; exact hE)).1 hs
  obtain ⟨a1, c1, p1, p2, hq1⟩ := run_cutFrom tB h1 .i64 E (by omega)
  obtain ⟨a2, p3, p4, hq2⟩ := run_cutTo tB h1 .i64 E (by omega)
  obtain ⟨v1, hv1⟩ : ∃ v1, v1 = numL (l.drop E) % 4294967296 := ⟨_, rfl⟩
  have hv1' : v1 < 32768 := by rw [hv1, hst]; exact (suV (l.take E)).isLt
  have k1 : ∀ w2, Below w1.heap.size w1 w2 → ∀ d os, Calls Tryz.prog 107 #[.slice a1 (n - E) c1] (grow (redrawn w2 d) os) fun e w'' => e = .returned (.int .u32 (v1 : Int)) ∧ ∃ p : Regrown, w'' = grow (redrawn w2 p.d) p.os := fun w2 g2 d os => by
    rw [hv1]
    exact Calls.regrown_of ((number_any _ a1 _ c1 _ ((hq1.below g2).below (below_regrown _ _ _)) (by omega)).mono fun e w' he => ⟨he.1, by rw [← he.2]; exact Below.refl _ _⟩)
  have k2 : ∀ w2, Below w1.heap.size w1 w2 → ∀ d os, Calls Tryz.prog 48 #[.slice a2 E c] (grow (redrawn w2 d) os) fun e w'' => e = .returned (.int .u16 (v1 : Int)) ∧ ∃ p : Regrown, w'' = grow (redrawn w2 p.d) p.os := fun w2 g2 d os => by
    rw [hv1, hst]
    exact Calls.regrown_of (sum_any _ a2 E c _ ((hq2.below g2).below (below_regrown _ _ _)) (by omega))
  have hEi : (n : Int) - 15 = (E : Int) := by omega
  have i0 : 0 < n := by omega
  have hE0 : (0 : Int) ≤ (E : Int) := by omega
  have hML : heM l + 8 * lonF (reF l).rem (reF l).dlc + 15 = l.length := by rw [hlN]; rfl
  have HD : Hid (paD l = byL ((l.drop (heM l)).take (8 * lonF (reF l).rem (reF l).dlc))) := by show _ = _; rfl
  rw [HD.out]
  have hf : ∀ w9, Below w.heap.size w w9 → Calls Tryz.prog 109 #[.func (.func 108) #[.pointer (some ⟨w9.heap.size, 0, none⟩)] #[]] (w9.alloc (.cells #[.slice (some ⟨b, off, none⟩) n c] 149)) fun e w' => e = .returned (.agg #[.int .u32 ((reF l).id : Int), .bool (reF l).ext, .bool (reF l).rem, .int .u8 ((reF l).dlc : Int), .slice none 0 0]) ∧ Rw w w' w9.heap.size (l.drop (heM l)) ∧ (w9.alloc (.cells #[.slice (some ⟨b, off, none⟩) n c] 149)).grownBy w' (some w9.heap.size) := fun w9 g9 =>
    fields_any w _ _ l g9.size (by simp) (g9.alloc g9.size _) ⟨_, n, c, heap_alloc_new w9 _, h⟩ hd
  obtain ⟨q1, q2⟩ := reF_lt l
  have hq8 := lonF_le (reF l).rem (reF l).dlc
  have hlo := fun w0 => frLong_any w0 (reF l).id (reF l).ext (reF l).rem (reF l).dlc none 0 0 (by omega)
  obtain ⟨L, hL⟩ : ∃ L, L = lonF (reF l).rem (reF l).dlc := ⟨_, rfl⟩
  obtain ⟨M, hM⟩ : ∃ M, M = heM l := ⟨_, rfl⟩
  rw [← hL] at hlo hq8 hML ⊢
  rw [← hM] at hML
  simp only [← hM] at hf ⊢
  obtain ⟨fr, hfr⟩ : ∃ fr, fr = reF l := ⟨_, rfl⟩
  simp only [← hfr] at hf hlo ⊢
  clear hL hM hfr q1 q2 HD
  obtain ⟨id, ext, rem, dlc, dat⟩ := fr
  dsimp only at hf hlo ⊢
  have hlen := h.len
  have hML2 : M + 8 * L ≤ l.length := by omega
  have HE := hid hE
  clear hk hs hd hx hx' hlN hst hv1 hq1 hq2 h1 hE hML
  go_enter Tryz.func97, Tryz.ntmps97
  go_wp2_with (go_at_call 106; rw [hw1.out]; (with_reducible refine hH.mono ?_); rintro e w2 ⟨rfl, g2⟩; have hb2 := bx_below hb1 g2; have c0 : w2.cell? ⟨b, off, none⟩ = some (.bool false) := (by rw [g2.cell (p := ⟨b, off, none⟩) hlt]; exact hck))
  have k1' := k1 w2 g2
  have k2' := k2 w2 g2
  clear k1 k2 c0 hck
  refine wp_region_quiet_below (by kernel_rfl) (by kernel_rfl) ?_
  repeat (go_big_quiet_step (first
    | (go_at_call 107; with_reducible exact k1' _ _)
    | (go_at_call 48; with_reducible exact k2' _ _)))
  refine wpQuiet_nil ?_
  intro w9 hw9
  have g9 : Below w2.heap.size w2 w9 := by obtain ⟨p9, rfl⟩ := hw9; exact below_regrown _ _ _
  clear hw9 k1' k2' p1 p2 p3 p4
  have hb9 := bx_below hb2 g9
  have gg9 := bstep (bstep g1 g2) g9
  have hs9 : w.heap.size < w9.heap.size := bx_lt hb9
  have hf' := hf w9 gg9
  clear hf hb2 hb1 g1 g2 g9 hH hw1 HE hEi hE0 hlt
  go_wp2_with (first
    | (go_at_call 109; (with_reducible refine hf'.mono ?_); rintro e w3 ⟨rfl, r3, g3⟩; have gg3 : Below w.heap.size w w3 := (gg9.alloc (Nat.le_of_lt hs9) _).grown g3 (by simp; omega) (fun q hq => by simp at hq; omega); have hb3 := grow_box g3 (bx_alloc _ hb9) (by omega); have hlt3 : w9.heap.size < w3.heap.size := Nat.lt_of_lt_of_le (by simp) g3.size)
    | (go_at_call 14; refine (hlo _).mono ?_; rintro e w4 ⟨rfl, g4⟩; have pl4 : Pl w w4 w9.heap.size w3.heap.size (l.drop (M + 8 * 0)) (.int .u32 (id : Int)) (.bool ext) (.bool rem) (.int .u8 (dlc : Int)) none 0 0 [] := ⟨r3.grown ((g4.block _ (by simp; omega)).trans (Below.heap_alloc _ _ _ hlt3)), bstep (bnew gg3 _) g4, bx_below (bx_alloc _ hb3) g4, bx_below (heap_alloc_new w3 _) g4, OL.nil _ _ _ _⟩))
  clear r3 g3 gg3 hb3 g4 hf' hlo hb9 gg9 h hlen
  generalize hgg : w9.heap.size = g at *
  generalize hqq : w3.heap.size = q at *
  clear hgg hqq
  have hln := byL_done hML2
  go_loopw [49] (fun i wr => ∃ (k : Nat) (a' : Option Addr) (c' : Nat), k ≤ L ∧ i = .int .i64 (k : Int) ∧ Pl w wr g q (l.drop (M + 8 * k)) (.int .u32 (id : Int)) (.bool ext) (.bool rem) (.int .u8 (dlc : Int)) a' k c' ((byL ((l.drop M).take (8 * L))).take k)) (fun i _ => L - (intOf i).toNat)
  case atStart => exact ⟨0, none, 0, Nat.zero_le _, rfl, pl4⟩
  case round =>
    clear pl4
    obtain ⟨k, a', c', hk, rfl, pl⟩ := hrel
    by_cases hlt : k < L
    · obtain ⟨v, hv⟩ : ∃ v, v = numL ((l.drop (M + 8 * k)).take 8) % 4294967296 := ⟨_, rfl⟩
      have hv2 : v < 256 := by have := numL_take_lt (l.drop (M + 8 * k)) 8; omega
      have hnext : Hid ((byL ((l.drop M).take (8 * L))).take (k + 1) = (byL ((l.drop M).take (8 * L))).take k ++ [UInt8.ofNat v]) := by
        show _ = _
        rw [byL_chunk hlt hML2, ← Nat.mod_eq_of_lt (show v < 4294967296 by omega), hv, Nat.mod_mod]
      have pld := pl.drew
      have kt : Calls Tryz.prog 108 #[.pointer (some ⟨g, 0, none⟩), .int .i64 8] wr.drew fun e w' => e = .returned (.int .u32 (v : Int)) ∧ Pl w w' g q (l.drop (M + 8 * (k + 1))) (.int .u32 (id : Int)) (.bool ext) (.bool rem) (.int .u8 (dlc : Int)) a' k c' ((byL ((l.drop M).take (8 * L))).take k) := by
        have := rtake_any w wr.drew g (l.drop (M + 8 * k)) 8 (Nat.le_of_lt hs9) pld.bel pld.row (by rw [List.length_drop]; omega) (by omega)
        rw [← hv] at this
        refine this.mono fun e w' ⟨he, h2, h3⟩ => ⟨he, pld.call hs9 hlt3 ?_ h3⟩
        rw [List.drop_drop] at h2
        exact h2
      obtain ⟨e0, e1, e2, e3, e4⟩ := bx5 pld.b3
      have hwr : IntKind.u8.wrap (v : Int) = (v : Int) := IntWalk.u8_in _ (by omega)
      clear hv e0 e1 e2 e3
      go_wp2_with fail
      have hk8 : (byL ((l.drop M).take (8 * L))).length = L := hln
      go_region_law
        (first
          | (go_simp; go_at_call 108; (with_reducible refine Calls.mono kt ?_); rintro e w6 ⟨rfl, pl6⟩; have p6 := (bx5 pl6.b3).2.2.2.2; have hs6 := pl6.size)
          | (refine step_app (f := bv) (B := q + 1) (w := w6.alloc (.cells #[.int .u8 (v : Int)] 5)) (a := a') (n := k) (c := c') (l := (byL ((l.drop M).take (8 * L))).take k) (a2 := some ⟨w6.heap.size, 0, none⟩) (n2 := 1) (c2 := 1) (m := [UInt8.ofNat v]) tY rfl (.tmp 52) (.tmp 56) rfl rfl (pl6.own.alloc _) rfl (lit1V w6 v hv2) (fun _ => rfl) ?_ ?_ ?_ ?_; omega; omega; (simp; omega); intro w7 a7 c7 hol7 g7; have pl7 := pl6.app hs9 hlt3 _ hol7 g7; have b7 : w7.heap[q]? = some (.cells #[.int .u32 (id : Int), .bool ext, .bool rem, .int .u8 (dlc : Int), .slice a' k c'] 26 (0, 0)) := (by rw [g7.block _ (by omega)]; exact bx_alloc _ pl6.b3); have c7' := (bx5 b7).2.2.2.2; have f7 := bx_thaw b7 4))
      all_goals
        clear kt e4 p6
        go_wp2
        go_roundw
        case rel => exact ⟨k + 1, a7, c7, by omega, by go_num, by rw [hnext.out]; exact pl7⟩
        case measure => simp [intOf]; omega
    · obtain rfl : k = L := by omega
      rw [List.take_of_length_le (by omega)] at pl
      obtain ⟨e0, e1, e2, e3, e4⟩ := bx5 pl.b3
      obtain ⟨d0, d1, d2, d3, d4⟩ := bx5 pl.b2
      have f8 := bx_thaw pl.b2
      have hset := below_five pl.bel
      have hown := pl.own
      clear pl
      go_wp2
      refine bodyPost_ret (v := .tuple #[.agg #[.int .u32 (id : Int), .bool ext, .bool rem, .int .u8 (dlc : Int), .slice a' k c'], .int .i64 0]) (by simp [results, Tryz.results97, go_sem, d0, d1, d2, d3, d4]) rfl ⟨a', c', rfl, (hown.kept fun j hj => ?_).mono (by omega), hset _ _ _ _ _⟩
      have h1 := (hown.ltB hj).2
      have hn : j ≠ w.heap.size := by dsimp only at h1; omega
      rw [heap_setCell_other _ _ _ _ hn, heap_setCell_other _ _ _ _ hn, heap_setCell_other _ _ _ _ hn, heap_setCell_other _ _ _ _ hn, heap_setCell_other _ _ _ _ hn]

theorem parse_ok (w : World) (a : Option Addr) (n c : Nat) (l : List Bool) (h : RL .bool w a n c l) (hk : paK l = true) (hs : suV l = 0#15) :
    Calls Tryz.prog 97 #[.slice a n c] w fun e w' => ∃ a' c', e = .returned (.tuple #[.agg #[.int .u32 ((reF l).id : Int), .bool (reF l).ext, .bool (reF l).rem, .int .u8 ((reF l).dlc : Int), .slice a' (lonF (reF l).rem (reF l).dlc) c'], .int .i64 0]) ∧ RL bv w' a' (lonF (reF l).rem (reF l).dlc) c' (paD l) ∧ Below w.heap.size w w' :=
  (parse_own w a n c l h hk hs).mono fun e w' ⟨a', c', h1, h2, h3⟩ => ⟨a', c', h1, h2.rl, h3⟩
end Go.Proofs.YtgpmhmdofefdcaaGreat
