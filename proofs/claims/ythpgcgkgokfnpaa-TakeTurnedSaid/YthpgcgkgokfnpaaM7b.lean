/-
  Plain mathematics of layer 7, more: all that is said of bits, what it is read as, the wire of a right frame. Nothing of the program is spoken of here.
  Plain mathematics of layer 7: a wire of which one bit is turned about, and a wire whatever its acknowledgement is. Nothing of the program is spoken of here.
  Plain mathematics of layer 7: what the document says of all bits at once is what is said of them one by one. Nothing of the program is spoken of here.
-/
import Derived.Test.YthpgcgkgokfnpaaB7i
import Derived.Test.YthpgcgkgokfnpaaM4b
namespace Go.Proofs.Ythpgcgkgokfnpaa
set_option linter.unusedVariables false

/-- What the document says of bit i of bits. -/
def Sy (l : List Bool) (i : Nat) : Nat := rdS (bdN l) (tkL l).2 (fitL (bdL l)) i (l[i]?.getD false)

theorem Reading.said {l : List Bool} {k : Nat} {s : Tk} {x : Bool} (h : Reading l k s) (hx : l[k]? = some x) :
    (nxT s x).2 = Sy l k ∧ ((nxT s x).2 = 0 ∨ (nxT s x).2 = 4 → Reading l (k + 1) (nxT s x).1) := by
  unfold Sy; rw [hx]; exact h.step hx

/-- How reading ends. -/
structure Ends (l : List Bool) (k d : Nat) (R : Tk × List Nat) : Prop where
  at_ : ∀ i, i < R.2.length → R.2[i]? = some (Sy l (k + i))
  on : ∀ i, i + 1 < R.2.length → Sy l (k + i) = 0 ∨ Sy l (k + i) = 4
  le : R.2.length ≤ d
  fin : (R.2.length = d ∧ Reading l (k + d) R.1) ∨ (∃ i s' x, R.2.length = i + 1 ∧ Reading l (k + i) s' ∧ l[k + i]? = some x ∧ R.1 = (nxT s' x).1 ∧ ¬ (Sy l (k + i) = 0 ∨ Sy l (k + i) = 4))

theorem alT_read (l : List Bool) : ∀ (d k : Nat) (s : Tk), k + d = l.length → Reading l k s → Ends l k d (alT s (l.drop k)) := by
  intro d
  induction d with
  | zero =>
    intro k s hk h
    rw [List.drop_eq_nil_of_le (by omega), alT]
    exact ⟨by simp, by simp, by simp, .inl ⟨rfl, h⟩⟩
  | succ d ih =>
    intro k s hk h
    obtain ⟨x, hx⟩ : ∃ x, l[k]? = some x := ⟨l[k], by simp⟩
    obtain ⟨h1, h2⟩ := h.said hx
    rw [drop_of_get hx, alT]
    split
    · rename_i hc
      obtain ⟨a1, a2, a3, a4⟩ := ih (k + 1) _ (by omega) (h2 hc)
      refine ⟨fun i hi => ?_, fun i hi => ?_, by simp only [List.length_cons]; omega, ?_⟩
      · cases i with
        | zero => simp [h1]
        | succ i => simp only [List.length_cons] at hi; simp only [List.getElem?_cons_succ]; rw [a1 i (by omega)]; congr 2; omega
      · cases i with
        | zero => rw [Nat.add_zero, ← h1]; exact hc
        | succ i => simp only [List.length_cons] at hi; have := a2 i (by omega); rw [show k + (i + 1) = k + 1 + i by omega]; exact this
      · rcases a4 with ⟨b1, b2⟩ | ⟨i, s', y, b1, b2, b3, b4, b5⟩
        · left; exact ⟨by simp only [List.length_cons]; omega, by rw [show k + (d + 1) = k + 1 + d by omega]; exact b2⟩
        · right
          have e : k + (i + 1) = k + 1 + i := by omega
          exact ⟨i + 1, s', y, by simp only [List.length_cons]; omega, by rw [e]; exact b2, by rw [e]; exact b3, b4, by rw [e]; exact b5⟩
    · rename_i hc
      refine ⟨fun i hi => ?_, fun i hi => ?_, by simp, .inr ⟨0, s, x, rfl, h, hx, rfl, by rw [Nat.add_zero, ← h1]; exact hc⟩⟩
      · simp only [List.length_cons, List.length_nil] at hi
        obtain rfl : i = 0 := by omega
        simp [h1]
      · simp at hi

theorem alT_all (l : List Bool) : Ends l 0 l.length (alT s0 l) := by
  have := alT_read l l.length 0 s0 (by omega) (Reading.start l)
  rwa [List.drop_zero] at this

theorem Sy_four {l : List Bool} {i : Nat} (h : Sy l i = 4) : bdN l ≠ 0 ∧ i = bdN l + 8 := by
  unfold Sy rdS at h
  repeat' split at h
  all_goals first | (simp at h; done) | omega

theorem BeB.of {l : List Bool} {k : Nat} {s : Tk} (h : Reading l k s) (hn : bdN l ≠ 0) (hk : bdN l ≤ k) : BeB l k s := by
  rcases h with h | h
  · rcases h.early with e | e <;> omega
  · exact h

/-- What is taken is the body that was read, and it fits. -/
structure Got (l : List Bool) (T : Tk) : Prop where
  p0 : T.p ≠ 0
  li : T.l = bdL l
  fi : T.fi = true
  fit : fitL T.l = true
  m : T.m ≠ 5
  pu : l.take (bdN l) = putL (bdL l)

theorem BeB.got {l : List Bool} {k : Nat} {s : Tk} (h : BeB l k s) (h4 : 4 ≤ s.p) : Got l s :=
  ⟨by omega, h.li, h.ok h4, by rw [h.li, ← h.fi]; exact h.ok h4, h.m, h.pu⟩

/-- The last bits: the state behind, whatever is said. -/
theorem BeB.last {l : List Bool} {k : Nat} {s : Tk} (h : BeB l k s) (h4 : 4 ≤ s.p) (x : Bool) : Got l (nxT s x).1 := by
  have g := h.got h4
  have hp := h.p
  have hhi := h.hi
  have e : ∃ p, (nxT s x).1 = ⟨s.b, s.m, s.l, p, s.fi⟩ ∧ p ≠ 0 := by
    by_cases h10 : s.p = 10
    · rw [nx_ten h10]; exact ⟨11, rfl, by omega⟩
    · cases x
      · rw [nx_dom (by omega) (by omega) (by omega)]; exact ⟨11, rfl, by omega⟩
      · rw [nx_on (by omega) (by omega) (by omega) (fun _ => g.fi)]; exact ⟨s.p + 1, rfl, by omega⟩
  obtain ⟨p, e, hp⟩ := e
  rw [e]
  exact ⟨hp, g.li, g.fi, g.fit, g.m, g.pu⟩

theorem put_body {l : List Bool} (h : bdN l ≠ 0) : (putL (bdL l)).length = bdN l := by
  unfold bdN at h ⊢
  split at h
  · rename_i hb; rw [if_pos hb]
  · exact absurd rfl h

/-- Where something is taken, it is at the last bit but one behind the body. -/
theorem got_end {l : List Bool} {i : Nat} (h : (alT s0 l).2[i]? = some 4) : Got l (alT s0 l).1 ∧ i = (putL (alT s0 l).1.l).length + 8 := by
  obtain ⟨a1, a2, a3, a4⟩ := alT_all l
  have hi : i < (alT s0 l).2.length := (List.getElem?_eq_some_iff.1 h).1
  have hS : Sy l i = 4 := by have := a1 i hi; rw [h, Nat.zero_add] at this; simpa using this.symm
  obtain ⟨hn, hi8⟩ := Sy_four hS
  have key : Got l (alT s0 l).1 := by
    rcases a4 with ⟨b1, b2⟩ | ⟨j, s', x, b1, b2, b3, b4, b5⟩
    · rw [Nat.zero_add] at b2
      have hB := BeB.of b2 hn (by omega)
      exact hB.got (by rw [hB.p]; omega)
    · rw [Nat.zero_add] at b2 b3 b5
      have hj : i ≠ j := fun e => b5 (by rw [← e]; exact .inr hS)
      have hB := BeB.of b2 hn (by omega)
      rw [b4]
      exact hB.last (by rw [hB.p]; omega) x
  refine ⟨key, ?_⟩
  rw [key.li, put_body hn]
  exact hi8

theorem got_frame {l : List Bool} {T : Tk} (h : Got l T) : frN T.m T.p T.fi = false ∧ frK T.m T.l T.p T.fi = true := by
  have e : frN T.m T.p T.fi = false := by unfold frN; simp [h.p0, h.fi, h.m]
  exact ⟨e, by unfold frK; rw [e, h.fit]; rfl⟩

/-- The body of a right frame is found in its wire, whatever comes behind. -/
theorem wire_found {F : Fr} (hg : Good F) {l : List Bool} (hl : l.take (putL (boL F)).length = putL (boL F)) (hn : (putL (boL F)).length ≤ l.length) :
    bdN l = (putL (boL F)).length ∧ bdL l = boL F ∧ fitL (bdL l) = true := by
  obtain ⟨h1, h2, _, _, h5⟩ := bo_all F hg
  have htk : tkL (l.take (putL (boL F)).length) = (boL F, -1) := by rw [hl]; exact tkL_putL _
  have hm : (ruF false 0 (l.take (putL (boL F)).length)).2 ≠ 5 := fun e => by
    have := put_at htk
    rw [if_pos e, hl] at this
    have := congrArg List.length this
    simp at this
  have hc : cmpL (boL F) = true := by
    unfold cmpL; rw [(paK_parts h1).1]; simp [h5]
  obtain ⟨e1, e2, _, _⟩ := bd_found hn htk hm hc
  exact ⟨e1, e2, by rw [e2]; unfold fitL; rw [h1, h2]; rfl⟩

theorem wire_early {F : Fr} (hg : Good F) {l : List Bool} (hl : l.take (putL (boL F)).length = putL (boL F)) (hn : (putL (boL F)).length ≤ l.length) {i : Nat} (hi : i < (putL (boL F)).length) : Sy l i = 0 := by
  have htk : tkL (l.take (putL (boL F)).length) = (boL F, -1) := by rw [hl]; exact tkL_putL _
  obtain ⟨e1, _, _⟩ := wire_found hg hl hn
  unfold Sy rdS
  rw [if_pos (.inr (by omega)), if_neg]
  intro e
  have hlk : (l.take (putL (boL F)).length).length = (putL (boL F)).length := by rw [List.length_take]; omega
  have := tk_split htk
  rw [hlk] at this
  have hge := tkF_ge (l.drop (putL (boL F)).length) (ruF false 0 (l.take (putL (boL F)).length)).1 (ruF false 0 (l.take (putL (boL F)).length)).2 (putL (boL F)).length (boL F)
  rw [← this] at hge
  omega

/-- Behind the body. -/
theorem wire_late {F : Fr} (hg : Good F) {l : List Bool} (hl : l.take (putL (boL F)).length = putL (boL F)) (hn : (putL (boL F)).length ≤ l.length) {j : Nat} {x : Bool} (hx : l[(putL (boL F)).length + j]? = some x) :
    Sy l ((putL (boL F)).length + j) = if j = 1 then 0 else if j = 9 then (if x then 6 else 5) else if x = false then 2 else if j = 8 then 4 else 0 := by
  obtain ⟨e1, e2, e3⟩ := wire_found hg hl hn
  unfold Sy rdS
  have h0 : bdN l ≠ 0 := fun e => by
    have := (putL_len (boL F)).1
    rw [e] at e1
    have := boL_length F
    omega
  rw [e1] at h0 ⊢
  rw [if_neg (by omega), hx, e3, show (putL (boL F)).length + j - (putL (boL F)).length = j by omega]
  simp
end Go.Proofs.Ythpgcgkgokfnpaa

namespace Go.Proofs.Ythpgcgkgokfnpaa
set_option linter.unusedVariables false

/-- What is read of a wire of which bit k is turned about. -/
structure Tn (B : List Bool) (P k : Nat) (O : List Nat) (T : Tk) : Prop where
  lo : k < P → 4 ∈ O → T.l ≠ B
  ack : k = P + 1 → 4 ∈ O ∧ O.length = P + 10 ∧ O[P + 9]? = some 6
  late : k = P + 9 → 4 ∈ O ∧ O.length = P + 10 ∧ O[P + 9]? = some 5
  form : P ≤ k → k ≠ P + 1 → k ≠ P + 9 → 4 ∉ O ∧ O.length = k + 1 ∧ O[k]? = some 2
  pos : O ≠ []

theorem wi_at {F : Fr} {j : Nat} (hj : j < 10) : (wiL F)[(putL (boL F)).length + j]? = some true := by
  unfold wiL
  rw [List.getElem?_append_right (by omega), Nat.add_sub_cancel_left, List.getElem?_replicate]
  simp [hj]

theorem wi_take (F : Fr) : (wiL F).take (putL (boL F)).length = putL (boL F) := by unfold wiL; exact List.take_left

theorem turned_facts {F : Fr} (hg : Good F) {k : Nat} {x : Bool} (hx : (wiL F)[k]? = some x) :
    Tn (boL F) (putL (boL F)).length k (alT s0 ((wiL F).set k (!x))).2 (alT s0 ((wiL F).set k (!x))).1 := by
  have hkn : k < (putL (boL F)).length + 10 := by have := (List.getElem?_eq_some_iff.1 hx).1; rw [wiL_length] at this; exact this
  obtain ⟨L, hL⟩ : ∃ L, L = (wiL F).set k (!x) := ⟨_, rfl⟩
  have hlen : L.length = (putL (boL F)).length + 10 := by rw [hL, List.length_set, wiL_length]
  have hLk : L[k]? = some (!x) := by rw [hL, List.getElem?_set_self (by rw [wiL_length]; exact hkn)]
  have hLo : ∀ i, i ≠ k → L[i]? = (wiL F)[i]? := fun i hi => by rw [hL, List.getElem?_set_ne (Ne.symm hi)]
  have hWP := wi_take F
  rw [← hL]
  have hE := alT_all L
  have hgot := fun i => got_end (l := L) (i := i)
  have hpos : (alT s0 L).2 ≠ [] := fun e => by { have h0 : L ≠ [] := fun e0 => by { rw [e0] at hlen; simp at hlen }; cases hl : L with | nil => exact h0 hl | cons y t => rw [hl, alT] at e; split at e <;> simp at e }
  obtain ⟨O, hO⟩ : ∃ O, O = (alT s0 L).2 := ⟨_, rfl⟩
  obtain ⟨T, hT⟩ : ∃ T, T = (alT s0 L).1 := ⟨_, rfl⟩
  rw [← hO, ← hT]
  rw [← hO] at hpos
  simp only [← hO, ← hT] at hgot
  obtain ⟨a1, a2, a3, a4⟩ := hE
  rw [← hO] at a1 a2 a3 a4
  simp only [Nat.zero_add] at a1 a2 a4
  obtain ⟨P, hP⟩ : ∃ P, P = (putL (boL F)).length := ⟨_, rfl⟩
  have late := fun (hk : P ≤ k) (j : Nat) (y : Bool) (h1 : L.take P = putL (boL F)) (hy : L[P + j]? = some y) => wire_late hg (l := L) (j := j) (x := y) (by rw [← hP]; exact h1) (by rw [hlen]; omega) (by rw [← hP]; exact hy)
  have early := fun (h1 : L.take P = putL (boL F)) (i : Nat) (hi : i < P) => wire_early hg (l := L) (by rw [← hP]; exact h1) (by rw [hlen]; omega) (i := i) (by rw [← hP]; exact hi)
  have wat := fun (j : Nat) (hj : j < 10) => wi_at (F := F) hj
  rw [← hP] at hlen hkn hWP wat ⊢
  simp only [← hP] at late
  have htake : P ≤ k → L.take P = putL (boL F) := fun hk => by rw [hL, List.take_set_of_le hk, hWP]
  -- behind the body
  have hS : ∀ j, P ≤ k → j < 10 → Sy L (P + j) = if j = 1 then 0 else if j = 9 then (if P + j ≠ k then 6 else 5) else if P + j = k then 2 else if j = 8 then 4 else 0 := fun j hk hj => by
    by_cases hjk : P + j = k
    · have hxt : x = true := by have := wat j hj; rw [hjk, hx] at this; simpa using this
      have := late hk j (!x) (htake hk) (by rw [hjk]; exact hLk)
      rw [this, hxt]
      simp [hjk]
    · have := late hk j true (htake hk) (by rw [hLo _ hjk]; exact wat j hj)
      rw [this]
      simp [hjk]
  -- all of it is read
  have hall : P ≤ k → (k = P + 1 ∨ k = P + 9) → 4 ∈ O ∧ O.length = P + 10 ∧ O[P + 9]? = some (if k = P + 9 then 5 else 6) := fun hk hc => by
    have hon : ∀ i, i < P + 9 → Sy L i = 0 ∨ Sy L i = 4 := fun i hi => by
      by_cases hiP : i < P
      · exact .inl (early (htake hk) i hiP)
      · obtain ⟨j, rfl⟩ : ∃ j, i = P + j := ⟨i - P, by omega⟩
        rw [hS j hk (by omega)]
        by_cases h1 : j = 1
        · rw [if_pos h1]; exact .inl rfl
        · rw [if_neg h1, if_neg (by omega), if_neg (by omega)]
          split
          · exact .inr rfl
          · exact .inl rfl
    have hlenO : O.length = P + 10 := by
      rcases a4 with ⟨b1, _⟩ | ⟨i, s', y, b1, _, b3, _, b5⟩
      · omega
      · by_cases hi : i < P + 9
        · exact absurd (hon i hi) b5
        · have := (List.getElem?_eq_some_iff.1 b3).1; omega
    refine ⟨?_, hlenO, ?_⟩
    · have := a1 (P + 8) (by omega)
      rw [hS 8 hk (by omega), if_neg (by omega), if_neg (by omega), if_neg (by omega), if_pos rfl] at this
      exact List.mem_of_getElem? this
    · have := a1 (P + 9) (by omega)
      rw [hS 9 hk (by omega), if_neg (by omega), if_pos rfl] at this
      rw [this]
      by_cases h9 : k = P + 9
      · rw [if_pos h9, if_neg (by simp [h9])]
      · rw [if_neg h9, if_pos (by omega)]
  refine ⟨fun hk h4 hTl => ?_, fun hk => ?_, fun hk => ?_, fun hk h1 h9 => ?_, hpos⟩
  · obtain ⟨i, hi⟩ := List.getElem?_of_mem h4
    obtain ⟨g, _⟩ := hgot i hi
    have e1 : bdL L = boL F := by rw [← g.li]; exact hTl
    have e2 := g.pu
    have hn : bdN L = P := by
      have h0 : bdN L ≠ 0 := (Sy_four (l := L) (i := i) (by have := a1 i (List.getElem?_eq_some_iff.1 hi).1; rw [hi] at this; simpa using this.symm)).1
      rw [← put_body h0, e1, hP]
    rw [hn, e1, ← hWP] at e2
    have e3 : (L.take P)[k]? = ((wiL F).take P)[k]? := by rw [e2]
    rw [List.getElem?_take_of_lt hk, List.getElem?_take_of_lt hk, hLk, hx] at e3
    cases x <;> simp at e3
  · have := hall (by omega) (.inl hk)
    rw [if_neg (by omega)] at this
    exact this
  · have := hall (by omega) (.inr hk)
    rw [if_pos hk] at this
    exact this
  · have hk9 : k < P + 10 := hkn
    have hon : ∀ i, i < k → Sy L i = 0 ∨ (Sy L i = 4 ∧ False) ∨ (k = P + 9) := fun i hi => by
      by_cases hiP : i < P
      · exact .inl (early (htake hk) i hiP)
      · obtain ⟨j, rfl⟩ : ∃ j, i = P + j := ⟨i - P, by omega⟩
        rw [hS j hk (by omega)]
        by_cases h1 : j = 1
        · rw [if_pos h1]; exact .inl rfl
        · rw [if_neg h1, if_neg (by omega), if_neg (by omega)]
          split
          · exact .inr (.inr (by omega))
          · exact .inl rfl
    have hon' : ∀ i, i < k → Sy L i = 0 := fun i hi => by
      rcases hon i hi with h | ⟨_, h⟩ | h
      · exact h
      · exact h.elim
      · exact absurd h h9
    have hk2 : Sy L k = 2 := by
      obtain ⟨j, rfl⟩ : ∃ j, k = P + j := ⟨k - P, by omega⟩
      rw [hS j hk (by omega), if_neg (by omega), if_neg (by omega), if_pos rfl]
    have hlenO : O.length = k + 1 := by
      rcases a4 with ⟨b1, _⟩ | ⟨i, s', y, b1, _, b3, _, b5⟩
      · have := a2 k (by omega); omega
      · rcases Nat.lt_trichotomy i k with hi | hi | hi
        · exact absurd (.inl (hon' i hi)) b5
        · omega
        · have := a2 k (by omega); omega
    refine ⟨fun h4 => ?_, hlenO, ?_⟩
    · obtain ⟨i, hi⟩ := List.getElem?_of_mem h4
      have hil := (List.getElem?_eq_some_iff.1 hi).1
      have := a1 i hil
      rw [hi] at this
      have h4' : Sy L i = 4 := by simpa using this.symm
      by_cases hik : i < k
      · rw [hon' i hik] at h4'; cases h4'
      · obtain rfl : i = k := by omega
        omega
    · rw [a1 k (by omega), hk2]
end Go.Proofs.Ythpgcgkgokfnpaa

namespace Go.Proofs.Ythpgcgkgokfnpaa
set_option linter.unusedVariables false

/-- What the document says of bits, from bit i on. -/
def rdF (n : Nat) (wr : Int) (fi : Bool) : Nat → List Bool → List Nat
  | _, [] => []
  | i, x :: l => rdS n wr fi i x :: (if rdS n wr fi i x = 0 ∨ rdS n wr fi i x = 4 then rdF n wr fi (i + 1) l else [])

def rdL (l : List Bool) : List Nat := rdF (bdN l) (tkL l).2 (fitL (bdL l)) 0 l

theorem rdF_read (l : List Bool) : ∀ (d k : Nat) (s : Tk), k + d = l.length → Reading l k s → rdF (bdN l) (tkL l).2 (fitL (bdL l)) k (l.drop k) = (alT s (l.drop k)).2 := by
  intro d
  induction d with
  | zero =>
    intro k s hk h
    rw [List.drop_eq_nil_of_le (by omega)]; rfl
  | succ d ih =>
    intro k s hk h
    obtain ⟨x, hx⟩ : ∃ x, l[k]? = some x := ⟨l[k], by simp⟩
    obtain ⟨h1, h2⟩ := h.step hx
    rw [drop_of_get hx, rdF, alT, ← h1]
    split
    · rename_i hc; rw [ih (k + 1) _ (by omega) (h2 hc)]
    · rfl

theorem rdL_all (l : List Bool) : rdL l = (alT s0 l).2 := by
  have := rdF_read l l.length 0 s0 (by omega) (Reading.start l)
  rwa [List.drop_zero] at this

/-- The body that was read is found in what was read so far. -/
theorem Reading.pre {l : List Bool} {k : Nat} {s : Tk} (hk : k ≤ l.length) (h : Reading l k s) : Reading (l.take k) k s := by
  have hlk : (l.take k).length = k := by rw [List.length_take]; omega
  have htt : (l.take k).take k = l.take k := by rw [List.take_take, Nat.min_self]
  rcases h with h | h
  · left
    exact ⟨h.p, by rw [htt]; exact h.tk, by rw [htt]; exact h.ru, h.fi, h.le, h.no, by omega, h.ri⟩
  · right
    have ht2 : (l.take k).take (bdN l) = putL (bdL l) := by rw [List.take_take, Nat.min_eq_left h.lo, h.pu]
    have htk : tkL ((l.take k).take (bdN l)) = (bdL l, -1) := by rw [ht2]; exact tkL_putL _
    have hm : (ruF false 0 ((l.take k).take (bdN l))).2 ≠ 5 := fun e => by
      have := put_at htk
      rw [if_pos e, ht2] at this
      have := congrArg List.length this
      simp at this
    obtain ⟨e1, e2, _, e4⟩ := bd_found (by rw [hlk]; exact h.lo) htk hm h.cm
    exact ⟨by rw [e1]; exact h.n0, by rw [e1]; exact h.lo, by rw [e1]; exact h.hi, by rw [e1]; exact h.p, by rw [e2]; exact h.li, by rw [e2]; exact h.fi, h.m, h.ri, h.ok, by rw [e1, e2]; exact e4, by rw [e2]; exact h.cm⟩

/-- What the document drives, and reads. -/
def rdD (l : List Bool) : Bool := decide (bdN l = 0) || !decide (l.length = bdN l + 1) || !fitL (bdL l)
def rfN (l : List Bool) : Bool := decide (bdN l = 0) || decide (l.length < bdN l)
def rfF (l : List Bool) : Fr := if rfN l then zeroFr else paU (bdL l)
def rfK (l : List Bool) : Bool := !rfN l && fitL (bdL l)

theorem Reading.drive {l : List Bool} {s : Tk} (h : Reading l l.length s) : drT s.p s.fi = rdD l := by
  unfold drT rdD
  rcases h with h | h
  · rw [h.p]
    rcases h.early with e | e
    · simp [e]
    · rw [decide_eq_false (show ¬ l.length = bdN l + 1 by omega)]; simp
  · rw [h.p, h.fi, decide_eq_false h.n0]
    have hlo := h.lo
    by_cases h1 : l.length = bdN l + 1
    · rw [decide_eq_true h1, decide_eq_true (by omega)]; rfl
    · rw [decide_eq_false h1, decide_eq_false (by omega)]; rfl

theorem Reading.frame {l : List Bool} {s : Tk} (h : Reading l l.length s) : frF s.m s.l s.p s.fi = rfF l ∧ frK s.m s.l s.p s.fi = rfK l := by
  unfold frF frK rfF rfK
  rcases h with h | h
  · have e1 : frN s.m s.p s.fi = true := by unfold frN; rw [h.p]; rfl
    have e2 : rfN l = true := by
      unfold rfN
      rcases h.early with e | e
      · simp [e]
      · rw [decide_eq_true e]; simp
    rw [e1, e2]; exact ⟨rfl, rfl⟩
  · have e2 : rfN l = false := by
      unfold rfN; rw [decide_eq_false h.n0, decide_eq_false (by have := h.lo; omega)]; rfl
    have e1 : frN s.m s.p s.fi = !s.fi := by
      unfold frN
      rw [decide_eq_false (by have := h.p; omega), decide_eq_false h.m]; simp
    rw [e1, e2, h.li, h.fi]
    cases hf : fitL (bdL l)
    · refine ⟨?_, rfl⟩
      simp only [Bool.not_false, if_true, Bool.false_eq_true, if_false]
      unfold paU
      unfold fitL at hf
      rw [hf]; rfl
    · exact ⟨rfl, rfl⟩
end Go.Proofs.Ythpgcgkgokfnpaa
