/-
  Plain mathematics of layer 7: a wire of which one bit is turned about, and a wire whatever its acknowledgement is. Nothing of the program is spoken of here.
  Plain mathematics of layer 7: the wire of a right frame, whatever its acknowledgement is, bit by bit. Nothing of the program is spoken of here.
  Fault confinement: counters, and what the functions of layer 6 say of them as plain functions. Nothing here speaks of the program.
  More of what counters do, as plain functions: of controllers that are on.
  Plain mathematics of layer 8: a controller as a function of the bits that it samples, by the chapter's table. Nothing of the program is spoken of here.
-/
import Derived.Test.YtgpmhmdofefdcaaGreatM7b
import Derived.Test.YtgpmhmdofefdcaaGreatBase
namespace Go.Proofs.YtgpmhmdofefdcaaGreat
set_option linter.unusedVariables false

/-- What is read of a wire of which bit k is turned about. -/
structure Tn (B : List Bool) (P k : Nat) (O : List Nat) (T : Tk) : Prop where
  lo : k < P → 4 ∈ O → T.l ≠ B
  ack : k = P + 1 → 4 ∈ O ∧ O.length = P + 10 ∧ O[P + 9]? = some 6
  late : k = P + 9 → 4 ∈ O ∧ O.length = P + 10 ∧ O[P + 9]? = some 5
  form : P ≤ k → k ≠ P + 1 → k ≠ P + 9 → 4 ∉ O ∧ O.length = k + 1 ∧ O[k]? = some 2
  pos : O ≠ []

theorem wi_at {F : Fr} {j : Nat} (hj : j < 10) : (wiL F)[(putL (boL F)).length + j]? = some true := by
  unfold wiL
  rw [List.getElem?_append_right (by omega), Nat.add_sub_cancel_left, List.getElem?_replicate]
  simp [hj]

theorem wi_take (F : Fr) : (wiL F).take (putL (boL F)).length = putL (boL F) := by unfold wiL; exact List.take_left

theorem turned_facts {F : Fr} (hg : Good F) {k : Nat} {x : Bool} (hx : (wiL F)[k]? = some x) :
    Tn (boL F) (putL (boL F)).length k (alT s0 ((wiL F).set k (!x))).2 (alT s0 ((wiL F).set k (!x))).1 := by
  have hkn : k < (putL (boL F)).length + 10 := by have := (List.getElem?_eq_some_iff.1 hx).1; rw [wiL_length] at this; exact this
  obtain ⟨L, hL⟩ : ∃ L, L = (wiL F).set k (!x) := ⟨_, rfl⟩
  have hlen : L.length = (putL (boL F)).length + 10 := by rw [hL, List.length_set, wiL_length]
  have hLk : L[k]? = some (!x) := by rw [hL, List.getElem?_set_self (by rw [wiL_length]; exact hkn)]
  have hLo : ∀ i, i ≠ k → L[i]? = (wiL F)[i]? := fun i hi => by rw [hL, List.getElem?_set_ne (Ne.symm hi)]
  have hWP := wi_take F
  rw [← hL]
  have hE := alT_all L
  have hgot := fun i => got_end (l := L) (i := i)
  have hpos : (alT s0 L).2 ≠ [] := fun e => by { have h0 : L ≠ [] := fun e0 => by { rw [e0] at hlen; simp at hlen }; cases hl : L with | nil => exact h0 hl | cons y t => rw [hl, alT] at e; split at e <;> simp at e }
  obtain ⟨O, hO⟩ : ∃ O, O = (alT s0 L).2 := ⟨_, rfl⟩
  obtain ⟨T, hT⟩ : ∃ T, T = (alT s0 L).1 := ⟨_, rfl⟩
  rw [← hO, ← hT]
  rw [← hO] at hpos
  simp only [← hO, ← hT] at hgot
  obtain ⟨a1, a2, a3, a4⟩ := hE
  rw [← hO] at a1 a2 a3 a4
  simp only [Nat.zero_add] at a1 a2 a4
  obtain ⟨P, hP⟩ : ∃ P, P = (putL (boL F)).length := ⟨_, rfl⟩
  have late := fun (hk : P ≤ k) (j : Nat) (y : Bool) (h1 : L.take P = putL (boL F)) (hy : L[P + j]? = some y) => wire_late hg (l := L) (j := j) (x := y) (by rw [← hP]; exact h1) (by rw [hlen]; omega) (by rw [← hP]; exact hy)
  have early := fun (h1 : L.take P = putL (boL F)) (i : Nat) (hi : i < P) => wire_early hg (l := L) (by rw [← hP]; exact h1) (by rw [hlen]; omega) (i := i) (by rw [← hP]; exact hi)
  have wat := fun (j : Nat) (hj : j < 10) => wi_at (F := F) hj
  rw [← hP] at hlen hkn hWP wat ⊢
  simp only [← hP] at late
  have htake : P ≤ k → L.take P = putL (boL F) := fun hk => by rw [hL, List.take_set_of_le hk, hWP]
  -- behind the body
  have hS : ∀ j, P ≤ k → j < 10 → Sy L (P + j) = if j = 1 then 0 else if j = 9 then (if P + j ≠ k then 6 else 5) else if P + j = k then 2 else if j = 8 then 4 else 0 := fun j hk hj => by
    by_cases hjk : P + j = k
    · have hxt : x = true := by have := wat j hj; rw [hjk, hx] at this; simpa using this
      have := late hk j (!x) (htake hk) (by rw [hjk]; exact hLk)
      rw [this, hxt]
      simp [hjk]
    · have := late hk j true (htake hk) (by rw [hLo _ hjk]; exact wat j hj)
      rw [this]
      simp [hjk]
  -- all of it is read
  have hall : P ≤ k → (k = P + 1 ∨ k = P + 9) → 4 ∈ O ∧ O.length = P + 10 ∧ O[P + 9]? = some (if k = P + 9 then 5 else 6) := fun hk hc => by
    have hon : ∀ i, i < P + 9 → Sy L i = 0 ∨ Sy L i = 4 := fun i hi => by
      by_cases hiP : i < P
      · exact .inl (early (htake hk) i hiP)
      · obtain ⟨j, rfl⟩ : ∃ j, i = P + j := ⟨i - P, by omega⟩
        rw [hS j hk (by omega)]
        by_cases h1 : j = 1
        · rw [if_pos h1]; exact .inl rfl
        · rw [if_neg h1, if_neg (by omega), if_neg (by omega)]
          split
          · exact .inr rfl
          · exact .inl rfl
    have hlenO : O.length = P + 10 := by
      rcases a4 with ⟨b1, _⟩ | ⟨i, s', y, b1, _, b3, _, b5⟩
      · omega
      · by_cases hi : i < P + 9
        · exact absurd (hon i hi) b5
        · have := (List.getElem?_eq_some_iff.1 b3).1; omega
    refine ⟨?_, hlenO, ?_⟩
    · have := a1 (P + 8) (by omega)
      rw [hS 8 hk (by omega), if_neg (by omega), if_neg (by omega), if_neg (by omega), if_pos rfl] at this
      exact List.mem_of_getElem? this
    · have := a1 (P + 9) (by omega)
      rw [hS 9 hk (by omega), if_neg (by omega), if_pos rfl] at this
      rw [this]
      by_cases h9 : k = P + 9
      · rw [if_pos h9, if_neg (by simp [h9])]
      · rw [if_neg h9, if_pos (by omega)]
  refine ⟨fun hk h4 hTl => ?_, fun hk => ?_, fun hk => ?_, fun hk h1 h9 => ?_, hpos⟩
  · obtain ⟨i, hi⟩ := List.getElem?_of_mem h4
    obtain ⟨g, _⟩ := hgot i hi
    have e1 : bdL L = boL F := by rw [← g.li]; exact hTl
    have e2 := g.pu
    have hn : bdN L = P := by
      have h0 : bdN L ≠ 0 := (Sy_four (l := L) (i := i) (by have := a1 i (List.getElem?_eq_some_iff.1 hi).1; rw [hi] at this; simpa using this.symm)).1
      rw [← put_body h0, e1, hP]
    rw [hn, e1, ← hWP] at e2
    have e3 : (L.take P)[k]? = ((wiL F).take P)[k]? := by rw [e2]
    rw [List.getElem?_take_of_lt hk, List.getElem?_take_of_lt hk, hLk, hx] at e3
    cases x <;> simp at e3
  · have := hall (by omega) (.inl hk)
    rw [if_neg (by omega)] at this
    exact this
  · have := hall (by omega) (.inr hk)
    rw [if_pos hk] at this
    exact this
  · have hk9 : k < P + 10 := hkn
    have hon : ∀ i, i < k → Sy L i = 0 ∨ (Sy L i = 4 ∧ False) ∨ (k = P + 9) := fun i hi => by
      by_cases hiP : i < P
      · exact .inl (early (htake hk) i hiP)
      · obtain ⟨j, rfl⟩ : ∃ j, i = P + j := ⟨i - P, by omega⟩
        rw [hS j hk (by omega)]
        by_cases h1 : j = 1
        · rw [if_pos h1]; exact .inl rfl
        · rw [if_neg h1, if_neg (by omega), if_neg (by omega)]
          split
          · exact .inr (.inr (by omega))
          · exact .inl rfl
    have hon' : ∀ i, i < k → Sy L i = 0 := fun i hi => by
      rcases hon i hi with h | ⟨_, h⟩ | h
      · exact h
      · exact h.elim
      · exact absurd h h9
    have hk2 : Sy L k = 2 := by
      obtain ⟨j, rfl⟩ : ∃ j, k = P + j := ⟨k - P, by omega⟩
      rw [hS j hk (by omega), if_neg (by omega), if_neg (by omega), if_pos rfl]
    have hlenO : O.length = k + 1 := by
      rcases a4 with ⟨b1, _⟩ | ⟨i, s', y, b1, _, b3, _, b5⟩
      · have := a2 k (by omega); omega
      · rcases Nat.lt_trichotomy i k with hi | hi | hi
        · exact absurd (.inl (hon' i hi)) b5
        · omega
        · have := a2 k (by omega); omega
    refine ⟨fun h4 => ?_, hlenO, ?_⟩
    · obtain ⟨i, hi⟩ := List.getElem?_of_mem h4
      have hil := (List.getElem?_eq_some_iff.1 hi).1
      have := a1 i hil
      rw [hi] at this
      have h4' : Sy L i = 4 := by simpa using this.symm
      by_cases hik : i < k
      · rw [hon' i hik] at h4'; cases h4'
      · obtain rfl : i = k := by omega
        omega
    · rw [a1 k (by omega), hk2]
end Go.Proofs.YtgpmhmdofefdcaaGreat

namespace Go.Proofs.YtgpmhmdofefdcaaGreat
set_option linter.unusedVariables false

/-- What is read of a wire, bit by bit. -/
structure Rd (L : List Bool) (P k : Nat) (s : Tk) : Prop where
  on : k < P + 10 → Reading L k s
  fin : k = P + 10 → Got L s ∧ s.p = 11
  ri : rightA s.b s.m
  p : s.p ≤ 11
  len : s.l.length ≤ k

theorem Rd.start (L : List Bool) (P : Nat) : Rd L P 0 s0 := ⟨fun _ => Reading.start L, fun h => by omega, ⟨by simp [s0], fun _ => rfl⟩, by simp [s0], by simp [s0]⟩

theorem ack_take {F : Fr} (ack : Bool) : ((wiL F).set ((putL (boL F)).length + 1) ack).take (putL (boL F)).length = putL (boL F) := by
  rw [List.take_set_of_le (by omega), wi_take]

theorem whole_step {F : Fr} (hg : Good F) {ack x : Bool} {k : Nat} {s : Tk} (hk : k < (putL (boL F)).length + 10) (h : Rd ((wiL F).set ((putL (boL F)).length + 1) ack) (putL (boL F)).length k s)
    (hx : ((wiL F).set ((putL (boL F)).length + 1) ack)[k]? = some x) :
    (nxT s x).2 = (if k = (putL (boL F)).length + 8 then 4 else if k = (putL (boL F)).length + 9 then 6 else 0) ∧ Rd ((wiL F).set ((putL (boL F)).length + 1) ack) (putL (boL F)).length (k + 1) (nxT s x).1 ∧
    drT s.p s.fi = !decide (k = (putL (boL F)).length + 1) := by
  have ht := ack_take (F := F) ack
  have hlen : ((wiL F).set ((putL (boL F)).length + 1) ack).length = (putL (boL F)).length + 10 := by rw [List.length_set, wiL_length]
  have wat := fun (j : Nat) (hj : j < 10) => wi_at (F := F) hj
  have hne : ∀ i, i ≠ (putL (boL F)).length + 1 → ((wiL F).set ((putL (boL F)).length + 1) ack)[i]? = (wiL F)[i]? := fun i hi => by rw [List.getElem?_set_ne (Ne.symm hi)]
  obtain ⟨L, hL⟩ : ∃ L, L = (wiL F).set ((putL (boL F)).length + 1) ack := ⟨_, rfl⟩
  rw [← hL] at ht hlen hne hx h ⊢
  clear hL
  have hR := h.on hk
  obtain ⟨e1, e2⟩ := hR.said hx
  obtain ⟨f1, f2, f3⟩ := wire_found hg ht (by omega)
  obtain ⟨P, hP⟩ : ∃ P, P = (putL (boL F)).length := ⟨_, rfl⟩
  have early := fun (i : Nat) (hi : i < P) => wire_early hg (l := L) ht (by omega) (i := i) (by rw [← hP]; exact hi)
  have late := fun (j : Nat) (y : Bool) (hy : L[P + j]? = some y) => wire_late hg (l := L) ht (by omega) (j := j) (x := y) (by rw [← hP]; exact hy)
  simp only [← hP] at ht hlen hne hx h wat f1 hk late ⊢
  have hP34 : P ≠ 0 := fun e => by
    have h1 := (putL_len (boL F)).1
    have h2 := boL_length F
    omega
  have hS : Sy L k = if k = P + 8 then 4 else if k = P + 9 then 6 else 0 := by
    by_cases hkP : k < P
    · rw [early k hkP, if_neg (by omega), if_neg (by omega)]
    · obtain ⟨j, rfl⟩ : ∃ j, k = P + j := ⟨k - P, by omega⟩
      by_cases h1 : j = 1
      · rw [late j x hx, if_pos h1, if_neg (by omega), if_neg (by omega)]
      · have hxt : x = true := by
          have := hne (P + j) (by omega)
          rw [hx, wat j (by omega)] at this; simpa using this
        rw [late j x hx, if_neg h1, hxt]
        simp only [if_true, Bool.true_eq_false, if_false]
        by_cases h9 : j = 9
        · rw [if_pos h9, if_neg (by omega), if_pos (by omega)]
        · rw [if_neg h9]
          by_cases h8 : j = 8
          · rw [if_pos h8, if_pos (by omega)]
          · rw [if_neg h8, if_neg (by omega), if_neg (by omega)]
  refine ⟨e1.trans hS, ⟨fun hk1 => e2 ?_, fun hk1 => ?_, nxT_ri s x h.ri, nxT_p s x h.p, by have := nxT_len s x; have := h.len; omega⟩, ?_⟩
  · rw [e1, hS]
    split
    · exact .inr rfl
    · rw [if_neg (by omega)]; exact .inl rfl
  · have hB := BeB.of hR (by omega) (by omega)
    refine ⟨hB.last (by rw [hB.p]; omega) x, ?_⟩
    rw [nx_ten (by rw [hB.p]; omega)]
  · by_cases hkP : k < P
    · rcases hR with hI | hB
      · rw [hI.p, decide_eq_false (by omega)]; rfl
      · have := hB.lo; omega
    · have hB := BeB.of hR (by omega) (by omega)
      rw [hB.p, hB.fi, f3, f1]
      unfold drT
      by_cases h1 : k = P + 1
      · rw [decide_eq_true h1, decide_eq_true (by omega)]; rfl
      · rw [decide_eq_false h1, decide_eq_false (by omega)]; rfl

theorem pa_body {F : Fr} (hg : Good F) : paU (boL F) = F := by
  obtain ⟨h1, h2, h3, h4, _⟩ := bo_all F hg
  unfold paU
  rw [h1, h2, h3, h4]
  rfl

theorem whole_end {F : Fr} (hg : Good F) {ack : Bool} {s : Tk} (h : Rd ((wiL F).set ((putL (boL F)).length + 1) ack) (putL (boL F)).length ((putL (boL F)).length + 10) s) :
    frF s.m s.l s.p s.fi = F ∧ frK s.m s.l s.p s.fi = true := by
  obtain ⟨g, hp⟩ := h.fin rfl
  obtain ⟨e1, e2⟩ := got_frame g
  obtain ⟨_, f2, _⟩ := wire_found hg (ack_take ack) (by rw [List.length_set, wiL_length]; omega)
  refine ⟨?_, e2⟩
  unfold frF
  rw [e1, g.li, f2, pa_body hg]
  rfl
end Go.Proofs.YtgpmhmdofefdcaaGreat

namespace Go.Proofs.YtgpmhmdofefdcaaGreat
set_option linter.unusedVariables false

/-- Counters: TEC, REC, whether off, Run, Times. -/
structure Cf where
  t : Int
  r : Int
  o : Bool
  n : Int
  m : Int
  deriving DecidableEq

/-- Whether a number is from least to most. -/
def wi (n a b : Int) : Bool := decide (a ≤ n) && decide (n ≤ b)

/-- Which counters are right. -/
def riC (c : Cf) : Bool := wi c.r 0 255 && (if c.o then wi c.t 256 263 && wi c.n 0 10 && wi c.m 0 127 else wi c.t 0 255 && decide (c.n = 0) && decide (c.m = 0))

/-- How a controller stands. -/
def moC (c : Cf) : Nat := if c.o || !riC c then 2 else if c.t > 127 ∨ c.r > 127 then 1 else 0

/-- REC after an event. -/
def reA (r : Int) (k : Nat) : Int :=
  if k = 1 then min (r + 1) 255 else if 2 ≤ k ∧ k ≤ 4 then min (r + 8) 255 else if k = 9 then (if r > 127 then 119 else max (r - 1) 0) else r

/-- TEC after an event. -/
def teA (t : Int) (k : Nat) : Int := if 5 ≤ k ∧ k ≤ 7 then t + 8 else if k = 8 then max (t - 1) 0 else t

/-- The counters of a controller that is on after an event. -/
def evO (c : Cf) (k : Nat) : Cf := ⟨teA c.t k, reA c.r k, decide (teA c.t k > 255), c.n, c.m⟩

/-- The error of an event. -/
def evE (c : Cf) (k : Nat) : Int := if riC c = false ∨ k < 1 ∨ 9 < k then 60 else 0

/-- The counters after an event. -/
def evC (c : Cf) (k : Nat) : Cf := if riC c = false ∨ k < 1 ∨ 9 < k then c else if c.o then c else evO c k

/-- The counters of a controller that is off after a recessive bit. -/
def upC (c : Cf) : Cf := if c.n + 1 < 11 then { c with n := c.n + 1 } else if c.m + 1 = 128 then ⟨0, 0, false, 0, 0⟩ else { c with n := 0, m := c.m + 1 }

/-- The counters after a bit. -/
def biC (c : Cf) (x : Bool) : Cf := if riC c = false ∨ c.o = false then c else if x then upC c else { c with n := 0 }

/-- Counters of naught. -/
def zeC : Cf := ⟨0, 0, false, 0, 0⟩

theorem wi_iff {n a b : Int} : wi n a b = true ↔ a ≤ n ∧ n ≤ b := by simp [wi]

theorem ri_on {c : Cf} (h : riC c = true) (ho : c.o = false) : 0 ≤ c.r ∧ c.r ≤ 255 ∧ 0 ≤ c.t ∧ c.t ≤ 255 ∧ c.n = 0 ∧ c.m = 0 := by
  simp [riC, ho, wi] at h; omega
theorem ri_off {c : Cf} (h : riC c = true) (ho : c.o = true) : 0 ≤ c.r ∧ c.r ≤ 255 ∧ 256 ≤ c.t ∧ c.t ≤ 263 ∧ 0 ≤ c.n ∧ c.n ≤ 10 ∧ 0 ≤ c.m ∧ c.m ≤ 127 := by
  simp [riC, ho, wi] at h; omega
end Go.Proofs.YtgpmhmdofefdcaaGreat

namespace Go.Proofs.YtgpmhmdofefdcaaGreat
set_option linter.unusedVariables false

theorem ri_mk {t r : Int} (h0 : 0 ≤ t) (h1 : t ≤ 255) (h2 : 0 ≤ r) (h3 : r ≤ 255) : riC ⟨t, r, false, 0, 0⟩ = true := by
  simp [riC, wi]; omega

theorem ri_mkOff {t r n m : Int} (h0 : 256 ≤ t) (h1 : t ≤ 263) (h2 : 0 ≤ r) (h3 : r ≤ 255) (h4 : 0 ≤ n) (h5 : n ≤ 10) (h6 : 0 ≤ m) (h7 : m ≤ 127) : riC ⟨t, r, true, n, m⟩ = true := by
  simp [riC, wi]; omega

/-- An event of a controller that is on. -/
theorem ev_on {t r n m : Int} {k : Nat} (h : riC ⟨t, r, false, n, m⟩ = true) (hk : 1 ≤ k ∧ k ≤ 9) : evC ⟨t, r, false, n, m⟩ k = ⟨teA t k, reA r k, decide (teA t k > 255), n, m⟩ := by
  unfold evC
  rw [if_neg (by rw [h]; simp; omega)]
  rfl

theorem ee_ok {c : Cf} {k : Nat} (h : riC c = true) (hk : 1 ≤ k ∧ k ≤ 9) : evE c k = 0 := by
  unfold evE
  rw [if_neg (by rw [h]; simp; omega)]

theorem te_rec {t : Int} {k : Nat} (h : ¬ (5 ≤ k ∧ k ≤ 8)) : teA t k = t := by
  unfold teA; rw [if_neg (by omega), if_neg (by omega)]
theorem re_snd {r : Int} {k : Nat} (h : 5 ≤ k ∧ k ≤ 8) : reA r k = r := by
  unfold reA; rw [if_neg (by omega), if_neg (by omega), if_neg (by omega)]

theorem mo_active {t r : Int} (h0 : 0 ≤ t) (h1 : t ≤ 127) (h2 : 0 ≤ r) (h3 : r ≤ 127) : moC ⟨t, r, false, 0, 0⟩ = 0 := by
  have h := ri_mk h0 (by omega : t ≤ 255) h2 (by omega : r ≤ 255)
  unfold moC
  rw [if_neg (by simp [h]), if_neg (by dsimp only; omega)]

theorem mo_passive {t r : Int} (h0 : 0 ≤ t) (h1 : t ≤ 255) (h2 : 0 ≤ r) (h3 : r ≤ 255) (h : 127 < t ∨ 127 < r) : moC ⟨t, r, false, 0, 0⟩ = 1 := by
  have hr := ri_mk h0 h1 h2 h3
  unfold moC
  rw [if_neg (by simp [hr]), if_pos (by dsimp only; omega)]

theorem mo_of_right {c : Cf} (h : riC c = true) : (moC c = 2) ↔ c.o = true := by
  unfold moC
  rw [h]
  cases c.o
  · simp; split <;> simp
  · simp

/-- What a bit leaves is right. -/
theorem ri_bit {c : Cf} (h : riC c = true) (x : Bool) : riC (biC c x) = true := by
  obtain ⟨t, r, o, n, m⟩ := c
  cases o
  · rw [show biC ⟨t, r, false, n, m⟩ x = ⟨t, r, false, n, m⟩ by simp [biC]]; exact h
  · obtain ⟨r0, r1, t0, t1, n0, n1, m0, m1⟩ := ri_off h rfl
    dsimp only at r0 r1 t0 t1 n0 n1 m0 m1
    cases x
    · rw [show biC ⟨t, r, true, n, m⟩ false = ⟨t, r, true, 0, m⟩ by simp [biC, h]]
      exact ri_mkOff t0 t1 r0 r1 (by omega) (by omega) m0 m1
    · rw [show biC ⟨t, r, true, n, m⟩ true = upC ⟨t, r, true, n, m⟩ by simp [biC, h]]
      unfold upC
      dsimp only
      split
      · exact ri_mkOff t0 t1 r0 r1 (by omega) (by omega) m0 m1
      · split
        · decide
        · exact ri_mkOff t0 t1 r0 r1 (by omega) (by omega) (by omega) (by omega)

theorem ev_off {t r n m : Int} (k : Nat) : evC ⟨t, r, true, n, m⟩ k = ⟨t, r, true, n, m⟩ := by simp [evC]

theorem ev_none {c : Cf} {k : Nat} (hk : 9 < k) : evC c k = c := by unfold evC; rw [if_pos (by omega)]
theorem ee_none {c : Cf} {k : Nat} (hk : 9 < k) : evE c k = 60 := by unfold evE; rw [if_pos (by omega)]

theorem te_le {t : Int} {k : Nat} (h0 : 0 ≤ t) (h1 : t ≤ 255) : 0 ≤ teA t k ∧ teA t k ≤ 263 := by
  unfold teA; split <;> (try split) <;> omega
theorem re_le {r : Int} {k : Nat} (h0 : 0 ≤ r) (h1 : r ≤ 255) : 0 ≤ reA r k ∧ reA r k ≤ 255 := by
  unfold reA; split <;> (try split) <;> (try split) <;> (try split) <;> omega

/-- What an event leaves is right. -/
theorem ri_ev {c : Cf} (h : riC c = true) (k : Nat) : riC (evC c k) = true := by
  obtain ⟨t, r, o, n, m⟩ := c
  cases o
  · by_cases hk : 1 ≤ k ∧ k ≤ 9
    · obtain ⟨r0, r1, t0, t1, n0, m0⟩ := ri_on h rfl
      dsimp only at r0 r1 t0 t1 n0 m0
      subst n0 m0
      rw [ev_on h hk]
      obtain ⟨a0, a1⟩ := te_le (k := k) t0 t1
      obtain ⟨b0, b1⟩ := re_le (k := k) r0 r1
      by_cases ht : teA t k > 255
      · rw [decide_eq_true ht]; exact ri_mkOff (by omega) a1 b0 b1 (by omega) (by omega) (by omega) (by omega)
      · rw [decide_eq_false ht]; exact ri_mk a0 (by omega) b0 b1
    · rw [show evC ⟨t, r, false, n, m⟩ k = ⟨t, r, false, n, m⟩ by unfold evC; rw [if_pos (by omega)]]
      exact h
  · rw [ev_off]; exact h

/-- A controller goes off just by an error when it sends, from 248 on. -/
theorem ev_goes {t r n m : Int} {k : Nat} (h : riC ⟨t, r, false, n, m⟩ = true) (hk : 1 ≤ k) : (evC ⟨t, r, false, n, m⟩ k).o = (decide (5 ≤ k) && decide (k ≤ 7) && decide (247 < t)) := by
  obtain ⟨r0, r1, t0, t1, n0, m0⟩ := ri_on h rfl
  dsimp only at r0 r1 t0 t1 n0 m0
  by_cases h9 : k ≤ 9
  · rw [ev_on h ⟨hk, h9⟩, Bool.eq_iff_iff]
    simp [teA]
    split
    · omega
    · split <;> omega
  · rw [ev_none (by omega), Bool.eq_iff_iff]
    simp
    omega

/-- How a right controller stands, as one number. -/
theorem mo_num {c : Cf} (h : riC c = true) : ((moC c : Int) == 2) = c.o := by
  have := mo_of_right h
  cases ho : c.o
  · rw [ho] at this; simp at this ⊢; omega
  · rw [ho] at this; simp at this ⊢; omega
end Go.Proofs.YtgpmhmdofefdcaaGreat

namespace Go.Proofs.YtgpmhmdofefdcaaGreat
set_option linter.unusedVariables false

/-- A controller. -/
structure Ct where
  ph : Nat
  n : Nat
  cf : Cf
  has : Bool
  give : Fr
  sends : Bool
  sender : Bool
  wire : List Bool
  pos : Nat
  tk : Tk
  rl : Bool
  rm : Nat
  err : Bool
  owed : Bool

def c0 : Ct := ⟨0, 0, zeC, false, zeroFr, false, false, [], 0, s0, false, 0, false, false⟩

/-- A phase that begins. -/
def newC (c : Ct) (ph : Nat) : Ct := ⟨ph, 0, c.cf, c.has, c.give, false, c.sender, [], 0, s0, false, 0, c.err, false⟩

/-- What happens: its number, and the frame. -/
abbrev Hp := Nat × Fr
def noH : Hp := (0, zeroFr)

def offC (c : Ct) : Ct × Hp := ({ newC c 9 with sender := false }, (10, zeroFr))
/-- Behind an event; 0: none. -/
def cntC (c : Ct) (k : Nat) : Ct := if k = 0 then c else { c with cf := evC c.cf k }
/-- A flag of an error, behind an event. -/
def flagC (c : Ct) (what k : Nat) (owed : Bool) : Ct × Hp :=
  if moC (cntC c k).cf = 2 then offC (cntC c k) else ({ newC (cntC c k) (if moC c.cf = 1 then 3 else 2) with err := true, owed := owed }, (what, zeroFr))
def failC (c : Ct) (what : Nat) : Ct × Hp := flagC c what (if c.sender then 5 else 1) false
def overC (c : Ct) : Ct × Hp := ({ newC c 4 with err := false }, (9, zeroFr))
def begC (c : Ct) (s : Bool) : Ct := { newC c 1 with tk := (nxT s0 false).1, sends := s, sender := s, wire := if s then wiL c.give else [], pos := if s then 1 else 0 }

def idleC (c : Ct) (x : Bool) : Ct × Hp :=
  if x then (if c.has then failC { c with sender := true } 4 else (c, noH)) else (begC c c.has, noH)

/-- In a frame, of one that does not send. -/
def rcvC (c : Ct) (x : Bool) : Ct × Hp :=
  if (nxT c.tk x).2 = 0 then (if x && !drT c.tk.p c.tk.fi then failC { c with tk := (nxT c.tk x).1 } 4 else ({ c with tk := (nxT c.tk x).1 }, noH))
  else if (nxT c.tk x).2 = 1 then failC { c with tk := (nxT c.tk x).1 } 5
  else if (nxT c.tk x).2 = 2 then failC { c with tk := (nxT c.tk x).1 } 6
  else if (nxT c.tk x).2 = 3 then failC { c with tk := (nxT c.tk x).1 } 8
  else if (nxT c.tk x).2 = 4 then ({ c with tk := (nxT c.tk x).1, cf := evC c.cf 9 }, (2, paU (nxT c.tk x).1.l))
  else if (nxT c.tk x).2 = 5 then overC c
  else (newC c 7, noH)

/-- In a frame, of one that sends. -/
def sndC (c : Ct) (x : Bool) : Ct × Hp :=
  if c.pos + 9 = c.wire.length then
    (if x = false then ({ c with tk := (nxT c.tk x).1, pos := c.pos + 1 }, noH)
     else if moC c.cf = 1 then flagC c 7 0 true else failC c 7)
  else if c.wire[c.pos]?.getD false = x then
    (if c.pos + 1 < c.wire.length then ({ c with tk := (nxT c.tk x).1, pos := c.pos + 1 }, noH)
     else (newC { c with cf := evC c.cf 8, has := false, give := zeroFr } 7, (1, c.give)))
  else if x = true ∨ c.tk.l.length < 1 ∨ (if c.give.ext then 32 else 12) < c.tk.l.length then failC c 4
  else if c.tk.m = 5 then flagC c 5 0 false
  else ({ c with tk := (nxT c.tk x).1, sends := false, sender := false, wire := [], pos := 0 }, (3, zeroFr))

def sixC (c : Ct) (x : Bool) : Ct × Hp :=
  if x = true ∧ moC (evC c.cf (if c.sender then 6 else 3)) = 2 then offC { c with cf := evC c.cf (if c.sender then 6 else 3) }
  else
    let d := if x then { c with cf := evC c.cf (if c.sender then 6 else 3) } else c
    (if c.n + 1 = 6 then newC d 5 else { d with n := c.n + 1 }, (if x then 4 else 0, zeroFr))

def weakC (c : Ct) (x : Bool) : Ct × Hp :=
  if c.owed = true ∧ x = false ∧ moC (evC c.cf 5) = 2 then offC { c with owed := false, cf := evC c.cf 5 }
  else
    let d := if c.owed && !x then { c with owed := false, cf := evC c.cf 5 } else c
    let m := if 0 < c.n ∧ c.rl = x then c.n + 1 else 1
    (if m = 6 then newC d 5 else { d with n := m, rl := x }, noH)

/-- The event of a dominant bit behind a flag; 0: none. -/
def waitE (c : Ct) : Nat := if c.n + 1 = 1 ∧ c.err = true ∧ c.sender = false then 2 else if (c.n + 1) % 8 = 0 then (if c.sender then 7 else 4) else 0
def waitC (c : Ct) (x : Bool) : Ct × Hp :=
  if x then ({ newC c 6 with n := 1 }, noH)
  else if moC (cntC c (waitE c)).cf = 2 ∧ waitE c ≠ 0 then offC (cntC c (waitE c))
  else ({ cntC c (waitE c) with n := c.n + 1 }, noH)

def holdC (c : Ct) : Bool := c.sender && decide (moC c.cf = 1)

def delimC (c : Ct) (x : Bool) : Ct × Hp :=
  if x then (if c.n + 1 = 8 then newC c 7 else { c with n := c.n + 1 }, noH)
  else if c.n + 1 < 8 then failC c 6 else overC c
def interC (c : Ct) (x : Bool) : Ct × Hp :=
  if x then (if c.n + 1 = 3 then newC c (if holdC c then 8 else 0) else { c with n := c.n + 1 }, noH)
  else if c.n + 1 < 3 then overC c else (begC c (c.has && !holdC c), noH)
def hold8C (c : Ct) (x : Bool) : Ct × Hp :=
  if x then (if c.n + 1 = 8 then newC c 0 else { c with n := c.n + 1 }, noH) else (begC c false, noH)
def offsC (c : Ct) (x : Bool) : Ct × Hp :=
  if moC (biC c.cf x) = 2 then ({ c with cf := biC c.cf x }, noH) else (newC { c with cf := biC c.cf x } 0, (11, zeroFr))

/-- A controller behind a bit, and what happens. -/
def stC (c : Ct) (x : Bool) : Ct × Hp :=
  if c.ph = 0 then idleC c x
  else if c.ph = 1 then (if c.sends then sndC c x else rcvC c x)
  else if c.ph = 2 ∨ c.ph = 4 then sixC c x
  else if c.ph = 3 then weakC c x
  else if c.ph = 5 then waitC c x
  else if c.ph = 6 then delimC c x
  else if c.ph = 7 then interC c x
  else if c.ph = 8 then hold8C c x
  else offsC c x

/-- What a controller drives. -/
def dvC (c : Ct) : Bool :=
  if c.ph = 0 then !c.has else if c.ph = 1 then (if c.sends then c.wire[c.pos]?.getD false else drT c.tk.p c.tk.fi) else !decide (c.ph = 2 ∨ c.ph = 4)

/-- A controller that has a frame to send, and nothing else. -/
def giC (F : Fr) : Ct := { c0 with has := true, give := F }

/-- One that sends F alone, behind k bits of its wire. -/
def sndAt (F : Fr) (cf : Cf) (s : Tk) (k : Nat) : Ct := ⟨1, 0, cf, true, F, true, true, wiL F, k, s, false, 0, false, false⟩
/-- One that reads, and may have a frame. -/
def rcvH (hs : Bool) (gv : Fr) (cf : Cf) (s : Tk) : Ct := ⟨1, 0, cf, hs, gv, false, false, [], 0, s, false, 0, false, false⟩
/-- One that has nothing, and reads. -/
abbrev rcvAt (cf : Cf) (s : Tk) : Ct := rcvH false zeroFr cf s

/-- A frame's first bit. -/
theorem wi_first (F : Fr) : (wiL F)[0]? = some false := by
  have h : (boL F)[0]? = some false := by
    have := (he_13 F.id F.ext F.rem F.dlc (obL F.data ++ biV (suV (preL F)))).2
    rw [← boL_split] at this; exact this
  obtain ⟨t, ht⟩ : ∃ t, boL F = false :: t := by
    cases hb : boL F with
    | nil => rw [hb] at h; cases h
    | cons x t => rw [hb] at h; simp at h; subst h; exact ⟨t, rfl⟩
  unfold wiL putL
  rw [ht, putF]
  split <;> rfl

/-- The wire as a bus sees it that is acknowledged. -/
def ackL (F : Fr) : List Bool := (wiL F).set ((putL (boL F)).length + 1) false

theorem P_pos (F : Fr) : 34 ≤ (putL (boL F)).length := by
  have h1 := (putL_len (boL F)).1
  have h2 := boL_length F
  have h3 : 19 ≤ heN F.ext := by unfold heN; split <;> omega
  omega

theorem ack_first (F : Fr) : (ackL F)[0]? = some false := by
  unfold ackL
  rw [List.getElem?_set_ne (by omega)]
  exact wi_first F

/-- Both begin at the first bit. -/
theorem sends_begin (F : Fr) : stC (giC F) false = (sndAt F zeC (nxT s0 false).1 1, noH) ∧ stC c0 false = (rcvAt zeC (nxT s0 false).1, noH) := ⟨rfl, rfl⟩

theorem rd_one {F : Fr} (hg : Good F) : Rd (ackL F) (putL (boL F)).length 1 (nxT s0 false).1 := by
  have := (whole_step hg (ack := false) (x := false) (k := 0) (s := s0) (by omega) (Rd.start _ _) (ack_first F)).2.1
  exact this

/-- A bit of a frame, for the sender and for a receiver that listens. -/
theorem sends_step {F : Fr} (hg : Good F) {k : Nat} {s : Tk} (h1 : 1 ≤ k) (hk : k < (putL (boL F)).length + 10) (h : Rd (ackL F) (putL (boL F)).length k s) {x : Bool} (hx : (ackL F)[k]? = some x) (cf : Cf) (hs : Bool) (gv : Fr) :
    dvC (sndAt F cf s k) = ((wiL F)[k]?.getD false) ∧ dvC (rcvH hs gv cf s) = !decide (k = (putL (boL F)).length + 1) ∧ x = (((wiL F)[k]?.getD false) && !decide (k = (putL (boL F)).length + 1)) ∧
    stC (sndAt F cf s k) x = (if k + 1 < (putL (boL F)).length + 10 then (sndAt F cf (nxT s x).1 (k + 1), noH) else (newC { sndAt F (evC cf 8) s k with has := false, give := zeroFr } 7, (1, F))) ∧
    stC (rcvH hs gv cf s) x = (if k = (putL (boL F)).length + 8 then (rcvH hs gv (evC cf 9) (nxT s x).1, (2, F)) else if k = (putL (boL F)).length + 9 then (newC (rcvH hs gv cf s) 7, noH) else (rcvH hs gv cf (nxT s x).1, noH)) ∧
    Rd (ackL F) (putL (boL F)).length (k + 1) (nxT s x).1 := by
  obtain ⟨e1, e2, e3⟩ := whole_step hg hk h hx
  have hwl := wiL_length F
  have hxw : x = (((wiL F)[k]?.getD false) && !decide (k = (putL (boL F)).length + 1)) := by
    unfold ackL at hx
    by_cases hkk : k = (putL (boL F)).length + 1
    · rw [hkk, List.getElem?_set_self (by rw [hwl]; omega)] at hx
      simp at hx; rw [hx, decide_eq_true hkk]; simp
    · rw [List.getElem?_set_ne (Ne.symm hkk)] at hx
      rw [hx, decide_eq_false hkk]; simp
  have hP := P_pos F
  refine ⟨rfl, e3, hxw, ?_, ?_, e2⟩
  · show sndC (sndAt F cf s k) x = _
    unfold sndC
    by_cases h9 : k = (putL (boL F)).length + 1
    · have hx0 : x = false := by rw [hxw, decide_eq_true h9]; simp
      refine (if_pos (show k + 9 = (wiL F).length by rw [hwl]; omega)).trans ?_
      refine (if_pos hx0).trans ?_
      rw [if_pos (show k + 1 < (putL (boL F)).length + 10 by omega)]; rfl
    · have hxk : (wiL F)[k]?.getD false = x := by rw [hxw, decide_eq_false h9]; simp
      refine (if_neg (show ¬ k + 9 = (wiL F).length by rw [hwl]; omega)).trans ?_
      refine (if_pos hxk).trans ?_
      by_cases hl : k + 1 < (putL (boL F)).length + 10
      · refine (if_pos (show k + 1 < (wiL F).length by rw [hwl]; exact hl)).trans ?_
        rw [if_pos hl]; rfl
      · refine (if_neg (show ¬ k + 1 < (wiL F).length by rw [hwl]; exact hl)).trans ?_
        rw [if_neg hl]; rfl
  · show rcvC (rcvH hs gv cf s) x = _
    have hT : (rcvH hs gv cf s).tk = s := rfl
    unfold rcvC
    rw [hT, e1]
    by_cases h8 : k = (putL (boL F)).length + 8
    · obtain ⟨f1, f2, _⟩ := wire_found hg (ack_take (F := F) false) (by rw [List.length_set, hwl]; omega)
      have hB := BeB.of (e2.on (by omega)) (by rw [f1]; omega) (by rw [f1]; omega)
      rw [if_pos h8, if_pos h8, hB.li, f2, pa_body hg]
      rfl
    · rw [if_neg h8, if_neg h8]
      by_cases h9 : k = (putL (boL F)).length + 9
      · rw [if_pos h9, if_pos h9]; rfl
      · rw [if_neg h9, if_neg h9]
        have hno : (x && !drT s.p s.fi) = false := by
          rw [e3, hxw]; cases decide (k = (putL (boL F)).length + 1) <;> simp
        refine (if_pos rfl).trans ?_
        rw [hno]
        rfl

/-- Counters of naught stay so. -/
theorem ev_naught : evC zeC 8 = zeC ∧ evC zeC 9 = zeC := ⟨by decide, by decide⟩

/-- Three recessive bits between frames: idle. -/
theorem inter_three {c : Ct} (h : c.ph = 7) (hn : c.n = 0) (hh : holdC c = false) : (stC (stC (stC c true).1 true).1 true).1 = newC c 0 ∧ (stC c true).2 = noH ∧ (stC (stC c true).1 true).2 = noH ∧ (stC (stC (stC c true).1 true).1 true).2 = noH := by
  obtain ⟨ph, n, cf, has, give, sends, sender, wire, pos, tk, rl, rm, err, owed⟩ := c
  simp only at h hn
  subst h hn
  unfold holdC at hh
  simp only at hh
  simp [stC, interC, newC, holdC, hh]
end Go.Proofs.YtgpmhmdofefdcaaGreat
