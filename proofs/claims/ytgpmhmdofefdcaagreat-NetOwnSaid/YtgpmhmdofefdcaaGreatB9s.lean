/-
  Words for the walk of NetOff: what it has counted behind so many bits; one bit of all nodes.
-/
import Derived.Test.YtgpmhmdofefdcaaGreatB9q
import Derived.Test.YtgpmhmdofefdcaaGreatM9h
import Derived.Test.YtgpmhmdofefdcaaGreatM9e
namespace Go.Proofs.YtgpmhmdofefdcaaGreat
open Go.RowKit Go.Sort
set_option linter.unusedVariables false

def ofB (t : Nat) : Nat := if t ≤ 376 then min ((t + 22) / 23) 16 else 16 + min ((t - 345) / 32) 15
def ofO (t : Nat) : Nat := if 856 < t then 1 else 0
def ofN (t : Nat) : Nat := if 2276 < t then 1 else 0
def ofE (P t : Nat) : Nat := if P + 2286 < t then 1 else 0
def ofT (P M t : Nat) : Nat := if P + 2285 < t then M - 1 else 0

theorem ofW_iff {t : Nat} : ofW t = true ↔ (t < 376 ∧ t = 23 * min (t / 23) 15) ∨ (376 ≤ t ∧ t ≤ 856 ∧ (t - 376) % 32 = 0) := by unfold ofW; exact decide_eq_true_iff
theorem ofH_four {F : Fr} {t : Nat} : ofH F t = 4 ↔ t < 856 ∧ ofW t = true := by
  unfold ofH
  by_cases h : t < 856
  · rw [if_pos h]
    by_cases h2 : ofW t = true
    · rw [if_pos h2]; exact ⟨fun _ => ⟨h, h2⟩, fun _ => rfl⟩
    · rw [if_neg h2]; exact ⟨fun e => by omega, fun e => absurd e.2 h2⟩
  · rw [if_neg h]
    refine ⟨fun e => ?_, fun e => absurd e.1 h⟩
    split at e
    · omega
    · split at e
      · omega
      · split at e <;> omega
theorem ofH_cases (F : Fr) (t : Nat) : (ofH F t = 10 ↔ t = 856) ∧ (ofH F t = 11 ↔ t = 2276) ∧ (ofH F t = 1 ↔ t = (putL (boL F)).length + 2286) ∧ (ofH F t = 0 ∨ ofH F t = 1 ∨ ofH F t = 4 ∨ ofH F t = 10 ∨ ofH F t = 11) := by
  unfold ofH
  by_cases h : t < 856
  · rw [if_pos h]
    by_cases h2 : ofW t = true
    · rw [if_pos h2]; omega
    · rw [if_neg h2]; omega
  · rw [if_neg h]
    by_cases h1 : t = 856
    · rw [if_pos h1]; omega
    · rw [if_neg h1]
      by_cases h2 : t = 2276
      · rw [if_pos h2]; omega
      · rw [if_neg h2]
        by_cases h3 : t = (putL (boL F)).length + 2286
        · rw [if_pos h3]; omega
        · rw [if_neg h3]; omega
theorem of_cnt (F : Fr) (t : Nat) : ofB (t + 1) = (if ofH F t = 4 then ofB t + 1 else ofB t) ∧ ofO (t + 1) = (if ofH F t = 10 then ofO t + 1 else ofO t) ∧ ofN (t + 1) = (if ofH F t = 11 then ofN t + 1 else ofN t) ∧ ofE (putL (boL F)).length (t + 1) = (if ofH F t = 1 then ofE (putL (boL F)).length t + 1 else ofE (putL (boL F)).length t) := by
  obtain ⟨h1, h2, h3, _⟩ := ofH_cases F t
  refine ⟨?_, ?_, ?_, ?_⟩
  · have h4 := @ofH_four F t
    rw [ofW_iff] at h4
    unfold ofB
    by_cases e : ofH F t = 4
    · rw [if_pos e]
      have := h4.1 e
      split <;> split <;> omega
    · rw [if_neg e]
      have : ¬ (t < 856 ∧ ((t < 376 ∧ t = 23 * min (t / 23) 15) ∨ (376 ≤ t ∧ t ≤ 856 ∧ (t - 376) % 32 = 0))) := fun x => e (h4.2 x)
      split <;> split <;> omega
  · unfold ofO; repeat' split
    all_goals omega
  · unfold ofN; repeat' split
    all_goals omega
  · unfold ofE; repeat' split
    all_goals omega
theorem ofB_le (t : Nat) : ofB t ≤ 31 := by unfold ofB; split <;> omega
theorem ofO_le (t : Nat) : ofO t ≤ 1 := by unfold ofO; split <;> omega
theorem ofN_le (t : Nat) : ofN t ≤ 1 := by unfold ofN; split <;> omega
theorem ofE_le (P t : Nat) : ofE P t ≤ 1 := by unfold ofE; split <;> omega

/-- All nodes behind t bits. -/
structure OfA (F : Fr) (t : Nat) (cs : List Ct) : Prop where
  st : ∀ z y j, cs[0]? = some z → 1 ≤ j → cs[j]? = some y → OfS F t z y
  on : ∀ c ∈ cs, OnC c ∧ SmC t c
theorem ofA_begin {F : Fr} (hF : Good F) {M : Nat} (hM : 2 ≤ M) : OfA F 0 (gvL M [F]) := by
  have hat : ∀ j y, 1 ≤ j → (gvL M [F])[j]? = some y → y = c0 := fun j y hj h => by
    unfold gvL at h
    match j, hj with
    | j + 1, _ =>
      have e : ([F].map giC ++ List.replicate (M - [F].length) c0)[j + 1]? = (List.replicate (M - 1) c0)[j]? := by simp
      rw [e, List.getElem?_replicate] at h
      split at h
      · cases h; rfl
      · cases h
  refine ⟨fun z y j hz hj hy => ?_, fun c hc => ?_⟩
  · have e : (gvL M [F])[0]? = some (giC F) := rfl
    rw [e] at hz; cases hz
    exact of_begin (hat j y hj hy)
  · rcases List.mem_append.1 hc with h | h
    · rw [List.map_cons, List.map_nil, List.mem_singleton] at h
      subst h
      exact ⟨on_give OnC.start hF rfl, sm_give sm_start F⟩
    · rw [(List.mem_replicate.1 h).2]
      exact ⟨OnC.start, sm_start⟩
theorem OfA.ok {F : Fr} {t : Nat} {cs : List Ct} (h : OfA F t cs) (ht : t ≤ 1000000) : ∀ c ∈ cs, StepOK c := fun c hc => sm_ok (h.on c hc).1 (h.on c hc).2 (by omega)
theorem OfA.bus {F : Fr} (hF : Good F) {t : Nat} {cs : List Ct} (h : OfA F t cs) (h2 : 2 ≤ cs.length) : cs.all dvC = ofX F t := by
  have key : ∀ j (hj : j < cs.length), 1 ≤ j → (dvC cs[0] && dvC cs[j]) = ofX F t := fun j hj h1 => (of_step hF (h.st _ _ j (List.getElem?_eq_getElem (by omega)) h1 (List.getElem?_eq_getElem hj))).1
  exact bus_of h2 (W := dvC cs[0]) (fun _ => rfl) (fun j hj h0 => (key j hj (by omega)).symm)
/-- One bit. -/
theorem OfA.step {F : Fr} (hF : Good F) {t : Nat} {cs ds : List Ct} (h : OfA F t cs) (h2 : 2 ≤ cs.length) (hl : ds.length = cs.length) {fl : List Int} (hf : fl = if ofW t = true then [0] else [])
    (hd : ∀ j c, cs[j]? = some c → ds[j]? = some (stC c (biN (ofX F t) fl j)).1) : OfA F (t + 1) ds := by
  have hb : ∀ j, biN (ofX F t) fl j = if j = 0 then (if ofW t then !ofX F t else ofX F t) else ofX F t := fun j => by
    rw [hf]
    by_cases hw : ofW t = true
    · rw [if_pos hw, if_pos hw]
      exact bi_one (q := 0)
    · rw [if_neg hw, if_neg hw, bi_nil]; split <;> rfl
  refine ⟨fun z y j hz hj hy => ?_, fun c hc => ?_⟩
  · have h0 : cs[0]? = some (cs[0]'(by omega)) := List.getElem?_eq_getElem (by omega)
    have hjl : j < cs.length := by have := (List.getElem?_eq_some_iff.1 hy).1; omega
    have h1 : cs[j]? = some (cs[j]'hjl) := List.getElem?_eq_getElem hjl
    have e0 := hd 0 _ h0
    have e1 := hd j _ h1
    rw [hz, hb, if_pos rfl] at e0
    rw [hy, hb, if_neg (by omega)] at e1
    cases e0; cases e1
    exact (of_step hF (h.st _ _ j h0 hj h1)).2.2.1
  · obtain ⟨j, hj⟩ := List.getElem?_of_mem hc
    have hjl : j < cs.length := by have := (List.getElem?_eq_some_iff.1 hj).1; omega
    have h1 : cs[j]? = some (cs[j]'hjl) := List.getElem?_eq_getElem hjl
    have e1 := hd j _ h1
    rw [hj] at e1
    cases e1
    obtain ⟨a, b⟩ := h.on _ (List.mem_of_getElem? h1)
    exact ⟨(on_step a _).on, sm_step a b _⟩
/-- What happens in it. -/
theorem OfA.hap {F : Fr} (hF : Good F) {t : Nat} {cs : List Ct} (h : OfA F t cs) (h2 : 2 ≤ cs.length) {fl : List Int} (hf : fl = if ofW t = true then [0] else []) {j : Nat} {c : Ct} (hc : cs[j]? = some c) :
    (j = 0 → (stC c (biN (ofX F t) fl j)).2.1 = ofH F t) ∧ (1 ≤ j → (stC c (biN (ofX F t) fl j)).2.1 ≠ 10 ∧ ((stC c (biN (ofX F t) fl j)).2.1 = 2 ↔ t = (putL (boL F)).length + 2285) ∧ ((stC c (biN (ofX F t) fl j)).2.1 = 2 → (stC c (biN (ofX F t) fl j)).2.2 = F)) := by
  have hb : ∀ j, biN (ofX F t) fl j = if j = 0 then (if ofW t then !ofX F t else ofX F t) else ofX F t := fun j => by
    rw [hf]
    by_cases hw : ofW t = true
    · rw [if_pos hw, if_pos hw]
      exact bi_one (q := 0)
    · rw [if_neg hw, if_neg hw, bi_nil]; split <;> rfl
  rw [hb]
  refine ⟨fun e => ?_, fun e => ?_⟩
  · subst e
    rw [if_pos rfl]
    exact (of_step hF (h.st _ _ 1 hc (by omega) (List.getElem?_eq_getElem (by omega)))).2.2.2.1
  · rw [if_neg (by omega)]
    exact (of_step hF (h.st _ _ j (List.getElem?_eq_getElem (by omega)) e hc)).2.2.2.2
/-- When the first node is idle with its frame. -/
theorem OfA.idle {F : Fr} (hF : Good F) {t : Nat} {cs : List Ct} (h : OfA F t cs) (h2 : 2 ≤ cs.length) (ht : t ≤ 856) {c : Ct} (hc : cs[0]? = some c) : (c.ph = 0 ↔ ofW t = true) ∧ c.has = true :=
  (of_step hF (h.st _ _ 1 hc (by omega) (List.getElem?_eq_getElem (by omega)))).2.1 ht
theorem OfA.last {F : Fr} {t : Nat} {cs : List Ct} (h : OfA F t cs) (h2 : 2 ≤ cs.length) (ht : (putL (boL F)).length + 2290 < t) {c : Ct} (hc : cs[0]? = some c) : c.cf = zeC := by
  rcases h.st _ _ 1 hc (by omega) (List.getElem?_eq_getElem (by omega)) with ⟨k, o, hk, ho, e, _⟩ | ⟨k, o, _, _, _, e, _⟩ | ⟨o, _, e, _⟩ | ⟨i, hi, e, _⟩ | ⟨_, z', y', e, e', rfl, _, ⟨A, rfl, a1, _⟩, _⟩
  · have : cyN k ≤ 32 := by unfold cyN; split <;> (try split) <;> omega
    omega
  · omega
  · omega
  · omega
  · exact a1
end Go.Proofs.YtgpmhmdofefdcaaGreat
