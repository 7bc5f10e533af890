/-
  Plain mathematics of layer 7: the state of reading as a function on lists, and what the document's answer finds of all bits at once. Nothing of the program is spoken of here.
-/
import Derived.Test.YthpgcgkgokfnpaaM4
namespace Go.Proofs.Ythpgcgkgokfnpaa
set_option linter.unusedVariables false

/-- Whether the check sum of a body fits. -/
def fitL (l : List Bool) : Bool := paK l && decide (suV l = 0#15)
/-- Whether bits are all of a body. -/
def cmpL (l : List Bool) : Bool := hdK l && decide (l.length = hdN l)

/-- The state of reading. -/
structure Tk where
  b : Bool
  m : Nat
  l : List Bool
  p : Nat
  fi : Bool

/-- The state behind a bit, and what it says. -/
def nxT (s : Tk) (x : Bool) : Tk × Nat :=
  if s.p = 0 then
    if (nxt s.b s.m x).2 = 2 then (⟨s.b, s.m, s.l, 11, s.fi⟩, 1)
    else if (nxt s.b s.m x).2 = 1 then (⟨(nxt s.b s.m x).1.1, (nxt s.b s.m x).1.2, s.l, if cmpL s.l && !decide ((nxt s.b s.m x).1.2 = 5) then 1 else 0, s.fi⟩, 0)
    else (⟨(nxt s.b s.m x).1.1, (nxt s.b s.m x).1.2, s.l ++ [x], if cmpL (s.l ++ [x]) && !decide ((nxt s.b s.m x).1.2 = 5) then 1 else 0, fitL (s.l ++ [x])⟩, 0)
  else if s.p = 2 then (⟨s.b, s.m, s.l, 3, s.fi⟩, 0)
  else if s.p = 10 then (⟨s.b, s.m, s.l, 11, s.fi⟩, if x then 6 else 5)
  else if 10 < s.p then (s, 6)
  else if x = false then (⟨s.b, s.m, s.l, 11, s.fi⟩, 2)
  else if s.p = 3 ∧ s.fi = false then (⟨s.b, s.m, s.l, 11, s.fi⟩, 3)
  else (⟨s.b, s.m, s.l, s.p + 1, s.fi⟩, if s.p = 9 then 4 else 0)

/-- The run behind bits of which none is wrong. -/
def ruF (b : Bool) (m : Nat) (t : List Bool) : Bool × Nat := t.foldl (fun s x => (nxt s.1 s.2 x).1) (b, m)

theorem drop_of_get {l : List Bool} {k : Nat} {x : Bool} (h : l[k]? = some x) : l.drop k = x :: l.drop (k + 1) := by
  obtain ⟨hk, rfl⟩ := List.getElem?_eq_some_iff.1 h
  exact List.drop_eq_getElem_cons hk

theorem ruF_cons (b : Bool) (m : Nat) (x : Bool) (t : List Bool) : ruF b m (x :: t) = ruF (nxt b m x).1.1 (nxt b m x).1.2 t := rfl

theorem ruF_snoc {l : List Bool} {k : Nat} {x : Bool} (h : l[k]? = some x) : ruF false 0 (l.take (k + 1)) = (nxt (ruF false 0 (l.take k)).1 (ruF false 0 (l.take k)).2 x).1 := by
  unfold ruF; rw [take_snoc h, List.foldl_append]; rfl

theorem tkF_app (t : List Bool) : ∀ b m i out u, (tkF b m i out t).2 = -1 → tkF b m i out (t ++ u) = tkF (ruF b m t).1 (ruF b m t).2 (i + t.length) (tkF b m i out t).1 u := by
  induction t with
  | nil => intro b m i out u _; simp [tkF, ruF]
  | cons x t ih =>
    intro b m i out u h
    rw [List.cons_append]
    rw [tkF] at h ⊢
    rw [ruF_cons, List.length_cons]
    split at h
    · simp only at h; omega
    · rename_i h2
      rw [if_neg h2]
      split at h
      · rename_i h1
        rw [if_pos h1, ih _ _ _ _ _ h]
        conv => rhs; rw [tkF, if_neg h2, if_pos h1]
        congr 1; omega
      · rename_i h1
        rw [if_neg h1, ih _ _ _ _ _ h]
        conv => rhs; rw [tkF, if_neg h2, if_neg h1]
        congr 1; omega

theorem tkF_ge (l : List Bool) : ∀ b m i out, (tkF b m i out l).2 = -1 ∨ (i : Int) ≤ (tkF b m i out l).2 := by
  induction l with
  | nil => intro b m i out; exact .inl rfl
  | cons x l ih =>
    intro b m i out
    rw [tkF]
    split
    · right; simp
    · split
      · rcases ih (nxt b m x).1.1 (nxt b m x).1.2 (i + 1) out with h | h
        · exact .inl h
        · right; omega
      · rcases ih (nxt b m x).1.1 (nxt b m x).1.2 (i + 1) (out ++ [x]) with h | h
        · exact .inl h
        · right; omega

/-- What was taken, and nothing wrong in it, put again: as it was, and the stuff bit that is owed. -/
theorem put_again : ∀ (N : Nat) (l : List Bool), l.length ≤ N → ∀ b m i, m ≤ 4 → (tkF b m i [] l).2 = -1 → putF b m (tkF b m i [] l).1 = if (ruF b m l).2 = 5 then l ++ [!(ruF b m l).1] else l := by
  intro N
  induction N with
  | zero => intro l hl b m i hm _; obtain rfl : l = [] := List.eq_nil_of_length_eq_zero (by omega); rw [if_neg (by simp [ruF]; omega)]; rfl
  | succ N ih =>
    intro l hl b m i hm h
    cases l with
    | nil => rw [if_neg (by simp [ruF]; omega)]; rfl
    | cons x l =>
      simp only [List.length_cons] at hl
      have hp := nxt_plain (b := b) (x := x) (show m ≠ 5 by omega)
      rw [tkF, hp, if_neg (by decide), if_neg (by decide), tkF_out] at h ⊢
      simp only [List.nil_append, List.cons_append] at h ⊢
      rw [putF, ruF_cons]
      by_cases h5 : (nxt b m x).1.2 = 5
      · rw [if_pos h5]
        obtain ⟨e, _⟩ := nxt_five hm h5
        rw [e] at h ⊢
        simp only at h ⊢
        cases l with
        | nil => rw [if_pos (by rfl)]; rfl
        | cons y l =>
          rw [tkF] at h ⊢
          by_cases hy : y = x
          · rw [show nxt x 5 y = ((x, 5), 2) from by unfold nxt; rw [if_pos rfl, if_pos hy], if_pos rfl] at h
            simp only at h
            omega
          · obtain rfl : y = !x := by cases x <;> cases y <;> simp_all
            rw [nxt_owed, if_neg (show ¬ ((1 : Nat) = 2) by decide), if_pos rfl] at h
            rw [ruF_cons, nxt_owed, if_neg (show ¬ ((1 : Nat) = 2) by decide), if_pos rfl]
            simp only [List.length_cons] at hl
            simp only at h ⊢
            rw [ih l (by omega) (!x) 1 (i + 1 + 1) (by omega) h]
            split <;> simp
      · rw [if_neg h5]
        rw [ih l (by omega) _ _ (i + 1) (nxt_le hm h5).1 h]
        split <;> simp

theorem putL_again {l : List Bool} (h : (tkL l).2 = -1) : putL (tkL l).1 = if (ruF false 0 l).2 = 5 then l ++ [!(ruF false 0 l).1] else l := put_again l.length l (Nat.le_refl _) false 0 0 (by omega) h

theorem putF_more (u : List Bool) : ∀ b m v, m ≤ 4 → (putF b m u).length + v.length ≤ (putF b m (u ++ v)).length := by
  induction u with
  | nil => intro b m v hm; have := (putF_len v b m hm).1; simpa [putF] using this
  | cons x u ih =>
    intro b m v hm
    rw [List.cons_append, putF, putF]
    split
    · have := ih (!x) 1 v (by omega); simp only [List.length_cons]; omega
    · rename_i h5
      have := ih (nxt b m x).1.1 (nxt b m x).1.2 v (nxt_le hm h5).1; simp only [List.length_cons]; omega

/-- The document's Body: how many bits, and its plain ones. -/
def bdK (l : List Bool) : Bool := hdK (tkL l).1 && decide (hdN (tkL l).1 ≤ (tkL l).1.length)
def bdL (l : List Bool) : List Bool := if bdK l then (tkL l).1.take (hdN (tkL l).1) else []
def bdN (l : List Bool) : Nat := if bdK l then (putL (bdL l)).length else 0

theorem bdN_pos {l : List Bool} : bdN l = 0 ↔ bdK l = false := by
  unfold bdN
  cases h : bdK l with
  | false => simp
  | true =>
    simp only [if_true]
    have h1 := (putL_len (bdL l)).1
    unfold bdL at h1
    rw [if_pos h, List.length_take] at h1
    unfold bdK at h
    simp only [Bool.and_eq_true, decide_eq_true_eq] at h
    have : 15 ≤ hdN (tkL l).1 := by unfold hdN; omega
    unfold bdL
    simp only [bdK, h.1, decide_eq_true h.2, Bool.and_self, if_true, Bool.true_eq_false, iff_false]
    omega

/-- What the document says of bit i. -/
def rdS (n : Nat) (wr : Int) (fi : Bool) (i : Nat) (x : Bool) : Nat :=
  if n = 0 ∨ i < n then (if (i : Int) = wr then 1 else 0)
  else if i - n = 1 then 0
  else if i - n = 9 then (if x then 6 else 5)
  else if x = false then 2
  else if i - n = 2 ∧ fi = false then 3
  else if i - n = 8 then 4 else 0

/-- In the body. -/
structure InB (l : List Bool) (k : Nat) (s : Tk) : Prop where
  p : s.p = 0
  tk : tkL (l.take k) = (s.l, -1)
  ru : ruF false 0 (l.take k) = (s.b, s.m)
  fi : s.fi = fitL s.l
  le : hdK s.l = true → s.l.length ≤ hdN s.l
  no : ¬ (cmpL s.l = true ∧ s.m ≠ 5)
  kl : k ≤ l.length
  ri : rightA s.b s.m

/-- Behind the body. -/
structure BeB (l : List Bool) (k : Nat) (s : Tk) : Prop where
  n0 : bdN l ≠ 0
  lo : bdN l ≤ k
  hi : k ≤ bdN l + 9
  p : s.p = 1 + (k - bdN l)
  li : s.l = bdL l
  fi : s.fi = fitL (bdL l)
  m : s.m ≠ 5
  ri : rightA s.b s.m
  ok : 4 ≤ s.p → s.fi = true
  pu : l.take (bdN l) = putL (bdL l)
  cm : cmpL (bdL l) = true

def s0 : Tk := ⟨false, 0, [], 0, false⟩

theorem InB.start (l : List Bool) : InB l 0 s0 :=
  ⟨rfl, by simp [s0, tkL, tkF], by simp [s0, ruF], by simp only [s0]; rfl, by simp [s0, hdK], by simp [s0, cmpL, hdK], Nat.zero_le _, ⟨by simp [s0], fun _ => rfl⟩⟩

theorem hdK_short {l m : List Bool} (h : hdK l = false) (h2 : hdK (l ++ m) = true) : l.length < hdN (l ++ m) := by
  unfold hdK at h h2
  have hN : heM (l ++ m) + 15 ≤ hdN (l ++ m) := by unfold hdN; omega
  unfold heM at hN
  simp only [Bool.and_eq_true, decide_eq_true_eq, Bool.or_eq_true, Bool.not_eq_true'] at h2
  by_cases h19 : l.length < 19
  · split at hN <;> omega
  · rw [List.getElem?_append_left (by omega)] at h2 hN
    cases hx : l[13]?.getD false with
    | true => rw [hx] at h hN; simp only [if_true] at hN; simp at h; omega
    | false => rw [hx] at h; simp at h; omega

theorem tk_split {l : List Bool} {k : Nat} {q : List Bool} (h : tkL (l.take k) = (q, -1)) : tkL l = tkF (ruF false 0 (l.take k)).1 (ruF false 0 (l.take k)).2 (l.take k).length q (l.drop k) := by
  have := tkF_app (l.take k) false 0 0 [] (l.drop k) (by unfold tkL at h; rw [h])
  rw [List.take_append_drop] at this
  unfold tkL at h ⊢
  rw [this, h, Nat.zero_add]

theorem tk_more {l : List Bool} {k : Nat} {q : List Bool} (h : tkL (l.take k) = (q, -1)) : ∃ r, (tkL l).1 = q ++ r := by
  rw [tk_split h, tkF_out]; exact ⟨_, rfl⟩

theorem put_at {l : List Bool} {k : Nat} {q : List Bool} (h : tkL (l.take k) = (q, -1)) : putL q = if (ruF false 0 (l.take k)).2 = 5 then l.take k ++ [!(ruF false 0 (l.take k)).1] else l.take k := by
  have := putL_again (l := l.take k) (by rw [h])
  rw [h] at this
  exact this

/-- The body is there. -/
theorem bd_found {l : List Bool} {k : Nat} {q : List Bool} (hk : k ≤ l.length) (h : tkL (l.take k) = (q, -1)) (hm : (ruF false 0 (l.take k)).2 ≠ 5) (hc : cmpL q = true) : bdN l = k ∧ bdL l = q ∧ k ≠ 0 ∧ l.take k = putL q := by
  obtain ⟨r, hr⟩ := tk_more h
  unfold cmpL at hc
  simp only [Bool.and_eq_true, decide_eq_true_eq] at hc
  have e1 := hd_more (m := r) hc.1
  have e2 := hdK_more (m := r) hc.1
  have hb : bdK l = true := by
    unfold bdK; rw [hr, e2, e1]; simp [← hc.2]
  have hL : bdL l = q := by
    unfold bdL; rw [if_pos hb, hr, e1, ← hc.2, List.take_left]
  have hp := put_at h
  rw [if_neg hm] at hp
  have hN : bdN l = k := by
    unfold bdN; rw [if_pos hb, hL, hp, List.length_take]; omega
  refine ⟨hN, hL, fun h0 => ?_, hp.symm⟩
  subst h0
  have := bdN_pos.1 hN
  rw [hb] at this; cases this

/-- As long as the body is not over. -/
theorem InB.early {l : List Bool} {k : Nat} {s : Tk} (h : InB l k s) : bdN l = 0 ∨ k < bdN l := by
  by_cases h0 : bdN l = 0
  · exact .inl h0
  right
  have hb : bdK l = true := by
    cases e : bdK l with
    | true => rfl
    | false => exact absurd (bdN_pos.2 e) h0
  obtain ⟨r, hr⟩ := tk_more h.tk
  have hb' := hb
  unfold bdK at hb'
  simp only [Bool.and_eq_true, decide_eq_true_eq] at hb'
  have hp := put_at h.tk
  have hpk : k ≤ (putL s.l).length := by
    rw [hp]; split <;> simp <;> have := h.kl <;> omega
  have hL : bdL l = (s.l ++ r).take (hdN (s.l ++ r)) := by unfold bdL; rw [if_pos hb, hr]
  have hN : bdN l = (putL (bdL l)).length := by unfold bdN; rw [if_pos hb]
  rw [hr] at hb'
  by_cases hc : cmpL s.l = true
  · have h5 : s.m = 5 := Classical.byContradiction fun h5 => h.no ⟨hc, h5⟩
    unfold cmpL at hc
    simp only [Bool.and_eq_true, decide_eq_true_eq] at hc
    rw [hN, hL, hd_more hc.1, ← hc.2, List.take_left, hp, h.ru]
    simp only [h5, if_true, List.length_append, List.length_take, List.length_cons, List.length_nil]
    have := h.kl
    omega
  · have hlt : s.l.length < hdN (s.l ++ r) := by
      cases hk : hdK s.l with
      | true =>
        rw [hd_more hk]
        have h1 := h.le hk
        have h2 : s.l.length ≠ hdN s.l := fun e => hc (by unfold cmpL; simp [hk, ← e])
        omega
      | false => exact hdK_short hk hb'.1
    obtain ⟨d, hd⟩ : ∃ d, hdN (s.l ++ r) = s.l.length + d := ⟨hdN (s.l ++ r) - s.l.length, by omega⟩
    rw [hd] at hL hb'
    have e : (s.l ++ r).take (s.l.length + d) = s.l ++ r.take d := by rw [List.take_append, List.take_of_length_le (by omega)]; simp
    rw [e] at hL
    have hrd : d ≤ r.length := by simp at hb'; omega
    have := putF_more s.l false 0 (r.take d) (by omega)
    rw [hN, hL]
    unfold putL at hpk ⊢
    rw [List.length_take] at this
    omega

theorem inb_next {l : List Bool} {k : Nat} {x : Bool} {q : List Bool} {b : Bool} {m : Nat} {fi : Bool} (hx : l[k]? = some x) (htk : tkL (l.take (k + 1)) = (q, -1)) (hru : ruF false 0 (l.take (k + 1)) = (b, m)) (hfi : fi = fitL q)
    (hle : hdK q = true → q.length ≤ hdN q) (hri : rightA b m) :
    InB l (k + 1) ⟨b, m, q, if cmpL q && !decide (m = 5) then 1 else 0, fi⟩ ∨ BeB l (k + 1) ⟨b, m, q, if cmpL q && !decide (m = 5) then 1 else 0, fi⟩ := by
  have hkl : k + 1 ≤ l.length := by
    have := (List.getElem?_eq_some_iff.1 hx).1; omega
  by_cases hc : cmpL q = true ∧ m ≠ 5
  · right
    obtain ⟨h1, h2, h3, h4⟩ := bd_found hkl htk (by rw [hru]; exact hc.2) hc.1
    have e : (cmpL q && !decide (m = 5)) = true := by rw [hc.1, decide_eq_false hc.2]; rfl
    rw [e]
    refine ⟨by rw [h1]; exact h3, by omega, by omega, by simp [h1], by rw [h2], by rw [h2]; exact hfi, hc.2, hri, by simp, by rw [h1, h2]; exact h4, by rw [h2]; exact hc.1⟩
  · left
    have e : (cmpL q && !decide (m = 5)) = false := by
      cases h : cmpL q with
      | false => rfl
      | true => have : m = 5 := Classical.byContradiction fun h5 => hc ⟨h, h5⟩
                simp [this]
    rw [e]
    exact ⟨rfl, htk, hru, hfi, hle, hc, hkl, hri⟩

theorem InB.step {l : List Bool} {k : Nat} {s : Tk} {x : Bool} (h : InB l k s) (hx : l[k]? = some x) :
    (nxT s x).2 = rdS (bdN l) (tkL l).2 (fitL (bdL l)) k x ∧ ((nxT s x).2 = 0 ∨ (nxT s x).2 = 4 → InB l (k + 1) (nxT s x).1 ∨ BeB l (k + 1) (nxT s x).1) := by
  have hkl : k < l.length := (List.getElem?_eq_some_iff.1 hx).1
  have hR : rdS (bdN l) (tkL l).2 (fitL (bdL l)) k x = if (k : Int) = (tkL l).2 then 1 else 0 := by unfold rdS; rw [if_pos h.early]
  have hs := tk_split h.tk
  have hlk : (l.take k).length = k := by rw [List.length_take]; omega
  rw [h.ru, hlk, drop_of_get hx] at hs
  have hs1 : tkL (l.take (k + 1)) = tkF s.b s.m k s.l [x] := by
    have := tkF_app (l.take k) false 0 0 [] [x] (by have := h.tk; unfold tkL at this; rw [this])
    rw [← take_snoc hx] at this
    have e := h.tk
    unfold tkL at e ⊢
    rw [this, e, h.ru, Nat.zero_add, hlk]
  have hr1 := ruF_snoc hx
  rw [h.ru] at hr1
  simp only at hs hs1 hr1
  have hri := (nxt_right (x := x) h.ri).1
  rw [hR]
  unfold nxT
  rw [if_pos h.p]
  rw [tkF] at hs hs1
  by_cases h2 : (nxt s.b s.m x).2 = 2
  · rw [if_pos h2] at hs ⊢
    rw [hs]
    simp
  · rw [if_neg h2] at hs hs1 ⊢
    have hwr : ∀ b m out, (tkF b m (k + 1) out (l.drop (k + 1))).2 ≠ (k : Int) := fun b m out e => by
      rcases tkF_ge (l.drop (k + 1)) b m (k + 1) out with h' | h' <;> omega
    by_cases h1 : (nxt s.b s.m x).2 = 1
    · rw [if_pos h1] at hs hs1 ⊢
      rw [hs]
      refine ⟨(if_neg (fun e => hwr _ _ _ e.symm)).symm, fun _ => ?_⟩
      exact inb_next hx (by rw [hs1]; rfl) hr1 h.fi h.le hri
    · rw [if_neg h1] at hs hs1 ⊢
      rw [hs]
      refine ⟨(if_neg (fun e => hwr _ _ _ e.symm)).symm, fun _ => ?_⟩
      refine inb_next hx (by rw [hs1]; rfl) hr1 rfl (fun hk => ?_) hri
      cases hk0 : hdK s.l with
      | true =>
        rw [hd_more hk0]
        have h3 := h.le hk0
        have h5 : s.m ≠ 5 := fun h5 => by
          unfold nxt at h1 h2
          rw [if_pos h5] at h1 h2
          split at h2
          · simp at h2
          · rename_i hn; rw [if_neg hn] at h1; simp at h1
        have h4 : s.l.length ≠ hdN s.l := fun e => h.no ⟨by unfold cmpL; simp [hk0, ← e], h5⟩
        simp only [List.length_append, List.length_cons, List.length_nil]
        omega
      | false =>
        have := hdK_short hk0 hk
        simp only [List.length_append, List.length_cons, List.length_nil]
        omega

theorem BeB.step {l : List Bool} {k : Nat} {s : Tk} {x : Bool} (h : BeB l k s) (hx : l[k]? = some x) :
    (nxT s x).2 = rdS (bdN l) (tkL l).2 (fitL (bdL l)) k x ∧ ((nxT s x).2 = 0 ∨ (nxT s x).2 = 4 → BeB l (k + 1) (nxT s x).1) := by
  obtain ⟨n0, lo, hi, hp, hl, hfi, hm, hri, hok, hpu, hcm⟩ := h
  obtain ⟨d, rfl⟩ : ∃ d, k = bdN l + d := ⟨k - bdN l, by omega⟩
  have hd : bdN l + d - bdN l = d := by omega
  rw [hd] at hp
  have hnn : ¬ (bdN l = 0 ∨ bdN l + d < bdN l) := by omega
  unfold rdS
  rw [if_neg hnn, hd]
  unfold nxT
  rw [hp, ← hfi]
  rw [hp] at hok
  have hdd : bdN l + d + 1 - bdN l = d + 1 := by omega
  rw [if_neg (by omega)]
  by_cases h1 : d = 1
  · subst h1
    rw [if_pos rfl, if_pos rfl]
    exact ⟨rfl, fun _ => ⟨n0, by omega, by omega, by rw [hdd], hl, hfi, hm, hri, by simp, hpu, hcm⟩⟩
  rw [if_neg (by omega), if_neg h1]
  by_cases h9 : d = 9
  · subst h9
    rw [if_pos rfl, if_pos rfl]
    refine ⟨rfl, fun hh => ?_⟩
    cases x <;> simp at hh
  rw [if_neg (by omega), if_neg h9, if_neg (by omega)]
  cases x
  · rw [if_pos rfl, if_pos rfl]
    refine ⟨rfl, fun hh => ?_⟩
    simp at hh
  rw [if_neg (show ¬ (true = false) by simp), if_neg (show ¬ (true = false) by simp)]
  by_cases h2 : d = 2 ∧ s.fi = false
  · rw [if_pos ⟨by omega, h2.2⟩, if_pos h2]
    refine ⟨rfl, fun hh => ?_⟩
    simp at hh
  · rw [if_neg (fun hh => h2 ⟨by omega, hh.2⟩), if_neg h2]
    refine ⟨by by_cases h8 : d = 8 <;> simp [h8] <;> omega, fun _ => ⟨n0, by omega, by omega, by rw [hdd]; simp only; omega, hl, hfi, hm, hri, fun h4 => ?_, hpu, hcm⟩⟩
    simp only at h4 ⊢
    by_cases h3 : d = 2
    · cases e : s.fi with
      | true => rfl
      | false => exact absurd ⟨h3, e⟩ h2
    · exact hok (by omega)

/-- What the state is, as long as nothing has ended it. -/
def Reading (l : List Bool) (k : Nat) (s : Tk) : Prop := InB l k s ∨ BeB l k s

theorem Reading.start (l : List Bool) : Reading l 0 s0 := .inl (InB.start l)

theorem Reading.step {l : List Bool} {k : Nat} {s : Tk} {x : Bool} (h : Reading l k s) (hx : l[k]? = some x) :
    (nxT s x).2 = rdS (bdN l) (tkL l).2 (fitL (bdL l)) k x ∧ ((nxT s x).2 = 0 ∨ (nxT s x).2 = 4 → Reading l (k + 1) (nxT s x).1) := by
  rcases h with h | h
  · exact h.step hx
  · obtain ⟨h1, h2⟩ := h.step hx
    exact ⟨h1, fun e => .inr (h2 e)⟩

theorem Reading.ri {l : List Bool} {k : Nat} {s : Tk} (h : Reading l k s) : rightA s.b s.m := by
  rcases h with h | h
  · exact h.ri
  · exact h.ri
end Go.Proofs.Ythpgcgkgokfnpaa
