/-
  Plain facts of keys: the key of a frame is a number whose bits are those that arbitration sees; the lesser one wins.
  Plain mathematics of layer 9 (NetOrder): of several nodes, each with a frame or none, the frame with the least key is sent first, is taken by all others in one step, and three bits behind all are idle; so with what is left.
  Plain mathematics of layer 9 (NetOrder): frames apart; what nodes are given at first; what is left.
-/
import Derived.Test.YtgpmhmdofefdcaaGreatM7b
import Derived.Test.YtgpmhmdofefdcaaGreatM9c
import Derived.Test.YtgpmhmdofefdcaaGreatB9m
namespace Go.Proofs.YtgpmhmdofefdcaaGreat
open Go.RowKit Go.Sort
set_option linter.unusedVariables false
set_option linter.unusedSimpArgs false

/-- The bits of a key (one more ahead, dominant), and the key. -/
def keL (id : Nat) (ext rem : Bool) : List Bool := conL id ext rem ++ (if ext then [] else List.replicate 19 false)
def keyF (id : Nat) (ext rem : Bool) : Nat := numL (keL id ext rem)

theorem bfL_numL : ∀ (l m : List Bool), l.length = m.length → bfL l m = decide (numL l < numL m) := by
  intro l
  induction l with
  | nil => intro m h; cases m with
    | nil => rfl
    | cons => simp at h
  | cons x l ih =>
    intro m h
    cases m with
    | nil => simp at h
    | cons y m =>
      have hl : l.length = m.length := by simpa using h
      have h1 := numL_lt l
      have h2 := numL_lt m
      rw [hl] at h1
      rw [numL_cons, numL_cons, hl]
      simp only [bfL]
      by_cases e : x = y
      · subst e
        rw [if_pos rfl, ih m hl, decide_eq_decide]; omega
      · rw [if_neg e]
        cases x <;> cases y <;> simp_all <;> omega

theorem conL_split (id : Nat) (rem : Bool) : conL id true rem = ([false] ++ ofL (id / 262144) 11 ++ [true, true]) ++ (ofL id 18 ++ [rem]) := by rw [conL_true]; simp
theorem ofL_len (n m : Nat) : (ofL n m).length = m := by
  induction m with
  | zero => rfl
  | succ m ih => simp [ofL, ih]

theorem keL_length (id : Nat) (ext rem : Bool) : (keL id ext rem).length = 33 := by
  unfold keL conL
  cases ext <;> simp [ofL_len]

theorem ends_ne (p q : List Bool) (x : Bool) (h : p.length = q.length) : p ++ [x, false] ≠ q ++ [true, true] := by
  intro e
  have := (List.append_inj e h).2
  simp at this

theorem keL_bf (id : Nat) (ext rem : Bool) (id2 : Nat) (ext2 rem2 : Bool) : bfL (conL id ext rem) (conL id2 ext2 rem2) = bfL (keL id ext rem) (keL id2 ext2 rem2) := by
  unfold keL
  cases ext <;> cases ext2 <;> simp only [if_true, if_false, List.append_nil, Bool.false_eq_true]
  · by_cases e : conL id false rem = conL id2 false rem2
    · rw [e, bfL_self, bfL_self]
    · rw [bfL_len _ _ _ (by simp [conL, ofL_len]) e]
  · rw [conL_split]
    have hne : conL id false rem ≠ [false] ++ ofL (id2 / 262144) 11 ++ [true, true] := ends_ne _ _ _ (by simp [ofL_len])
    have hl : (conL id false rem).length = ([false] ++ ofL (id2 / 262144) 11 ++ [true, true]).length := by simp [conL, ofL_len]
    have := bfL_len _ _ [] hl hne (ofL id2 18 ++ [rem2])
    rw [List.append_nil] at this
    rw [this, bfL_len _ _ _ hl hne]
  · rw [conL_split]
    have hne : [false] ++ ofL (id / 262144) 11 ++ [true, true] ≠ conL id2 false rem2 := fun e => ends_ne _ _ _ (by simp [ofL_len]) e.symm
    have hl : ([false] ++ ofL (id / 262144) 11 ++ [true, true]).length = (conL id2 false rem2).length := by simp [conL, ofL_len]
    have := bfL_len _ _ (ofL id 18 ++ [rem]) hl hne []
    rw [List.append_nil] at this
    rw [this, bfL_len _ _ _ hl hne]

/-- Of two frames that one goes on whose key is the lesser one. -/
theorem key_before (id : Nat) (ext rem : Bool) (id2 : Nat) (ext2 rem2 : Bool) : bfL (conL id ext rem) (conL id2 ext2 rem2) = decide (keyF id ext rem < keyF id2 ext2 rem2) := by
  rw [keL_bf, bfL_numL _ _ (by rw [keL_length, keL_length])]; rfl

theorem zeros_num (n : Nat) : numL (List.replicate n false) = 0 := by
  induction n with
  | zero => rfl
  | succ n ih => rw [List.replicate_succ, numL_cons, ih]; simp

/-- A key, reckoned. -/
theorem key_base (id : Nat) (rem : Bool) : keyF id false rem = (id % 2048 * 2 + rem.toNat) * 1048576 := by
  unfold keyF keL conL
  simp only [if_false, Bool.false_eq_true]
  rw [numL_append, zeros_num, List.length_replicate, numL_append, numL_append, numL_ofL]
  cases rem <;> simp [numL, ofL_len] <;> omega
theorem key_ext (id : Nat) (rem : Bool) : keyF id true rem = ((id / 262144 % 2048 * 4 + 3) * 262144 + id % 262144) * 2 + rem.toNat := by
  unfold keyF keL conL
  simp only [if_true, List.append_nil]
  rw [numL_append, numL_append, numL_append, numL_append, numL_ofL, numL_ofL, ofL_len, ofL_len]
  cases rem <;> simp [numL] <;> omega
theorem key_lt (id : Nat) (ext rem : Bool) : keyF id ext rem < 4294967296 := by
  cases ext
  · rw [key_base]; have := Nat.mod_lt id (show 0 < 2048 by omega); cases rem <;> simp <;> omega
  · rw [key_ext]; have := Nat.mod_lt id (show 0 < 262144 by omega); have := Nat.mod_lt (id / 262144) (show 0 < 2048 by omega); cases rem <;> simp <;> omega
end Go.Proofs.YtgpmhmdofefdcaaGreat

namespace Go.Proofs.YtgpmhmdofefdcaaGreat
open Go.RowKit Go.Sort
set_option linter.unusedVariables false
set_option linter.unusedSimpArgs false

abbrev kyO (F : Fr) : Nat := keyF F.id F.ext F.rem
/-- All are idle; each has what gs says. -/
structure NO (gs : List (Option Fr)) (l : List Ct) : Prop where
  len : l.length = gs.length
  idl : ∀ (j : Nat) (c : Ct) (g : Option Fr), l[j]? = some c → gs[j]? = some g → Idl zeC g c
/-- Behind i bits of B's frame, which node jw sends. -/
structure NdR (B : Fr) (jw i : Nat) (gs : List (Option Fr)) (l : List Ct) : Prop where
  len : l.length = gs.length
  ro : ∀ (j : Nat) (c : Ct) (g : Option Fr), l[j]? = some c → gs[j]? = some g → RoN B zeC i g (decide (j = jw)) c
/-- All differ in their keys; all are right. -/
structure GsU (gs : List (Option Fr)) : Prop where
  ky : gs.Pairwise (fun a b => ∀ F ∈ a, ∀ G ∈ b, kyO F ≠ kyO G)
  gd : ∀ F, some F ∈ gs → Good F

theorem GsU.ne {gs : List (Option Fr)} (h : GsU gs) {i j : Nat} {F G : Fr} (hij : i ≠ j) (hi : gs[i]? = some (some F)) (hj : gs[j]? = some (some G)) : kyO F ≠ kyO G := by
  obtain ⟨hi1, hi2⟩ := List.getElem?_eq_some_iff.1 hi
  obtain ⟨hj1, hj2⟩ := List.getElem?_eq_some_iff.1 hj
  have hp := List.pairwise_iff_getElem.1 h.ky
  rcases Nat.lt_or_gt_of_ne hij with k | k
  · exact hp i j hi1 hj1 k F (by rw [hi2]; rfl) G (by rw [hj2]; rfl)
  · exact fun e => hp j i hj1 hi1 k G (by rw [hj2]; rfl) F (by rw [hi2]; rfl) e.symm

/-- Who has the least key wins. -/
theorem no_ok {gs : List (Option Fr)} (h : GsU gs) {jw : Nat} {B : Fr} (hw : gs[jw]? = some (some B)) (hle : ∀ G, some G ∈ gs → kyO B ≤ kyO G) : ∀ (j : Nat) (g : Option Fr), gs[j]? = some g → NodeOK B g (decide (j = jw)) := fun j g hj => by
  refine ⟨fun k => ?_, fun k G hG => ?_⟩
  · have : j = jw := by simpa using k
    subst this
    rw [hw] at hj; exact (Option.some.inj hj).symm
  · have hne : j ≠ jw := by simpa using k
    subst hG
    have hm := List.mem_of_getElem? hj
    have h1 := hle G hm
    have h2 := h.ne (fun k => hne k.symm) hw hj
    refine ⟨h.gd G hm, Pair.mk' (h.gd B (List.mem_of_getElem? hw)) (h.gd G hm) ?_⟩
    rw [key_before]
    exact decide_eq_true (Nat.lt_of_le_of_ne h1 h2)

section
variable {B : Fr} {jw i : Nat} {gs : List (Option Fr)} {l : List Ct}
theorem NO.begin (h : NO gs l) : NdR B jw 0 gs l := ⟨h.len, fun j c g hc hg => .inl ⟨rfl, h.idl j c g hc hg⟩⟩
/-- The bit on the bus. -/
theorem NdR.bus (h : NdR B jw i gs l) (hB : Good B) (ho : ∀ (j : Nat) (g : Option Fr), gs[j]? = some g → NodeOK B g (decide (j = jw))) (hw : jw < gs.length) (h2 : 2 ≤ gs.length) (hi : i < (putL (boL B)).length + 13) : l.all dvC = xB B i :=
  ro_bus hB (cf := fun _ => zeC) (fun _ => cfA_zero) h.len (by rw [h.len]; exact hw) (by rw [h.len]; exact h2) hi (fun j hj => ho j _ (List.getElem?_eq_getElem hj))
    (fun j hj => h.ro j _ _ (List.getElem?_eq_getElem hj) (List.getElem?_eq_getElem (by rw [← h.len]; exact hj)))
/-- A bit. -/
theorem NdR.step (h : NdR B jw i gs l) (hB : Good B) (ho : ∀ (j : Nat) (g : Option Fr), gs[j]? = some g → NodeOK B g (decide (j = jw))) (hi : i < (putL (boL B)).length + 13) {l' : List Ct} (hl : l'.length = l.length)
    (he : ∀ (j : Nat) (c : Ct), l[j]? = some c → l'[j]? = some (stC c (xB B i)).1) : NdR B jw (i + 1) gs l' := by
  refine ⟨by rw [hl, h.len], fun j c g hc hg => ?_⟩
  have hj : j < l.length := by rw [← hl]; exact (List.getElem?_eq_some_iff.1 hc).1
  have hc0 := List.getElem?_eq_getElem hj
  have := he j _ hc0
  rw [hc] at this
  cases this
  exact (ro_step hB cfA_zero (ho j g hg) hi (h.ro j _ g hc0 hg)).1
/-- What happens at it. -/
theorem NdR.hap (h : NdR B jw i gs l) (hB : Good B) (ho : ∀ (j : Nat) (g : Option Fr), gs[j]? = some g → NodeOK B g (decide (j = jw))) (hi : i < (putL (boL B)).length + 13) {j : Nat} {c : Ct} (hc : l[j]? = some c) :
    (stC c (xB B i)).2 = (if j = jw then (if i = (putL (boL B)).length + 9 then (1, B) else noH) else if i = (putL (boL B)).length + 8 then (2, B) else noH)
      ∨ (j ≠ jw ∧ i < (putL (boL B)).length ∧ (stC c (xB B i)).2 = (3, zeroFr)) := by
  have hj : j < gs.length := by rw [← h.len]; exact (List.getElem?_eq_some_iff.1 hc).1
  have hg := List.getElem?_eq_getElem hj
  rcases (ro_step hB cfA_zero (ho j _ hg) hi (h.ro j c _ hc hg)).2.1 with e | ⟨e1, e2, e3⟩
  · left
    rw [e]
    by_cases hjw : j = jw
    · rw [if_pos hjw, if_pos (decide_eq_true hjw)]
    · rw [if_neg hjw, if_neg (by simp [hjw])]
  · exact .inr ⟨by simpa using e1, e2, e3⟩
/-- All of it. -/
theorem NdR.done (h : NdR B jw ((putL (boL B)).length + 13) gs l) (hw : gs[jw]? = some (some B)) : NO (gs.set jw none) l := by
  have hz8 : evC zeC 8 = zeC := by decide
  have hz9 : evC zeC 9 = zeC := by decide
  refine ⟨by rw [h.len, List.length_set], fun j c g hc hg => ?_⟩
  have hj : j < gs.length := by rw [← h.len]; exact (List.getElem?_eq_some_iff.1 hc).1
  have hg0 := List.getElem?_eq_getElem hj
  have := ro_end (h.ro j c _ hc hg0)
  rw [hz8, hz9] at this
  by_cases hjw : j = jw
  · subst hjw
    rw [List.getElem?_set_self hj] at hg
    cases hg
    rw [decide_eq_true rfl] at this
    exact this
  · rw [List.getElem?_set_ne (fun k => hjw k.symm), hg0] at hg
    cases hg
    rw [decide_eq_false hjw] at this
    exact this
end

/-- What is left is less. -/
theorem GsU.set {gs : List (Option Fr)} (h : GsU gs) (jw : Nat) : GsU (gs.set jw none) := by
  refine ⟨?_, fun F hF => ?_⟩
  · rw [List.pairwise_iff_getElem]
    intro i j hi hj hij F hF G hG
    rw [List.length_set] at hi hj
    rw [List.getElem_set] at hF hG
    split at hF
    · cases hF
    · split at hG
      · cases hG
      · exact (List.pairwise_iff_getElem.1 h.ky) i j hi hj hij F hF G hG
  · rcases List.mem_or_eq_of_mem_set hF with k | k
    · exact h.gd F k
    · cases k
/-- The frames that are left, in their nodes' order: one of them, and its node. -/
theorem left_at : ∀ (gs : List (Option Fr)) (b : Nat) (B : Fr), (gs.filterMap id)[b]? = some B → ∃ jw, gs[jw]? = some (some B) ∧ (gs.set jw none).filterMap id = (gs.filterMap id).eraseIdx b := by
  intro gs
  induction gs with
  | nil => intro b B h; simp at h
  | cons g gs ih =>
    intro b B h
    cases g with
    | none =>
      rw [List.filterMap_cons_none (by rfl)] at h ⊢
      obtain ⟨jw, h1, h2⟩ := ih b B h
      exact ⟨jw + 1, by simpa using h1, by rw [List.set_cons_succ, List.filterMap_cons_none (by rfl), h2]⟩
    | some F =>
      rw [List.filterMap_cons_some (b := F) (by rfl)] at h ⊢
      cases b with
      | zero =>
        simp at h; subst h
        exact ⟨0, by simp, by rw [List.set_cons_zero, List.filterMap_cons_none (by rfl), List.eraseIdx_cons_zero]⟩
      | succ b =>
        obtain ⟨jw, h1, h2⟩ := ih b B (by simpa using h)
        exact ⟨jw + 1, by simpa using h1, by rw [List.set_cons_succ, List.filterMap_cons_some (b := F) (by rfl), h2, List.eraseIdx_cons_succ]⟩
theorem left_mem {gs : List (Option Fr)} {G : Fr} : some G ∈ gs ↔ G ∈ gs.filterMap id := by
  rw [List.mem_filterMap]
  constructor
  · intro h; exact ⟨_, h, rfl⟩
  · rintro ⟨a, h1, h2⟩
    have : a = some G := h2
    rw [← this]; exact h1
end Go.Proofs.YtgpmhmdofefdcaaGreat

namespace Go.Proofs.YtgpmhmdofefdcaaGreat
open Go.RowKit Go.Sort
set_option linter.unusedVariables false
set_option linter.unusedSimpArgs false

/-- Right frames of a row, none of the key of another. -/
structure ApI (fs gs : List Ff) : Prop where
  sub : ∀ p ∈ gs, p ∈ fs
  good : ∀ p ∈ gs, Good p.1
  pw : gs.Pairwise (fun p q => kyO p.1 ≠ kyO q.1)
theorem ApI.nil (fs : List Ff) : ApI fs [] := ⟨fun p h => (by cases h), fun p h => (by cases h), List.Pairwise.nil⟩
theorem ApI.put {fs gs : List Ff} (h : ApI fs gs) {p : Ff} (hp : p ∈ fs) (hg : Good p.1) (hk : ∀ q ∈ gs, kyO p.1 ≠ kyO q.1) : ApI fs (gs ++ [p]) := by
  refine ⟨fun q hq => ?_, fun q hq => ?_, ?_⟩
  · rcases List.mem_append.1 hq with hq | hq
    · exact h.sub q hq
    · rw [List.mem_singleton] at hq; subst hq; exact hp
  · rcases List.mem_append.1 hq with hq | hq
    · exact h.good q hq
    · rw [List.mem_singleton] at hq; subst hq; exact hg
  · rw [List.pairwise_append]
    exact ⟨h.pw, List.pairwise_singleton _ _, fun q hq r hr => by rw [List.mem_singleton] at hr; subst hr; exact fun e => hk q hq e.symm⟩

/-- What n nodes have, of which the first ones were given frames. -/
def gsO (n : Nat) (L : List Fr) : List (Option Fr) := L.map some ++ List.replicate (n - L.length) none
theorem gsO_len {n : Nat} {L : List Fr} (h : L.length ≤ n) : (gsO n L).length = n := by unfold gsO; simp; omega
theorem gsO_left (n : Nat) (L : List Fr) : (gsO n L).filterMap id = L := by
  unfold gsO
  rw [List.filterMap_append]
  have h1 : (L.map some).filterMap id = L := by
    induction L with
    | nil => rfl
    | cons a l ih => rw [List.map_cons, List.filterMap_cons_some (b := a) (by rfl), ih]
  have h2 : ∀ m : Nat, (List.replicate m (none : Option Fr)).filterMap id = [] := fun m => by
    induction m with
    | zero => rfl
    | succ m ih => rw [List.replicate_succ, List.filterMap_cons_none (by rfl), ih]
  rw [h1, h2, List.append_nil]
theorem gsO_no {n : Nat} {L : List Fr} (h : L.length ≤ n) : NO (gsO n L) (gvL n L) := by
  refine ⟨by rw [gsO_len h, gvL_len h], fun j c g hc hg => ?_⟩
  unfold gvL at hc
  unfold gsO at hg
  by_cases hj : j < L.length
  · rw [List.getElem?_append_left (by simpa using hj), List.getElem?_map, List.getElem?_eq_getElem hj] at hc hg
    cases hc; cases hg
    exact ⟨giC L[j], rfl, rfl, rfl, rfl⟩
  · rw [List.getElem?_append_right (by simpa using hj), List.getElem?_replicate] at hc hg
    split at hc
    · split at hg
      · cases hc; cases hg
        exact ⟨c0, rfl, rfl, rfl, rfl⟩
      · cases hg
    · cases hc
theorem gsO_U {n : Nat} {fs gs : List Ff} (h : ApI fs gs) : GsU (gsO n (gs.map Prod.fst)) := by
  refine ⟨?_, fun F hF => ?_⟩
  · unfold gsO
    rw [List.pairwise_append]
    refine ⟨?_, ?_, fun a ha b hb F hF G hG => ?_⟩
    · rw [List.map_map, List.pairwise_map]
      refine h.pw.imp fun {p q} e F hF G hG => ?_
      cases hF; cases hG
      exact e
    · refine List.pairwise_iff_getElem.2 fun i j hi hj _ F hF => ?_
      rw [List.getElem_replicate] at hF
      cases hF
    · rw [(List.mem_replicate.1 hb).2] at hG
      cases hG
  · unfold gsO at hF
    rcases List.mem_append.1 hF with k | k
    · rw [List.map_map] at k
      obtain ⟨p, hp, e⟩ := List.mem_map.1 k
      cases e
      exact h.good p hp
    · have := (List.mem_replicate.1 k).2
      cases this

/-- The first of the least key, of the first k. -/
structure BestI (L : List Ff) (k b : Nat) : Prop where
  lt : b < L.length
  le : ∀ (i : Nat) (p q : Ff), i < k → L[i]? = some p → L[b]? = some q → kyO q.1 ≤ kyO p.1
theorem BestI.zero {L : List Ff} (h : 0 < L.length) : BestI L 0 0 := ⟨h, fun i p q hi => by omega⟩
theorem BestI.keep {L : List Ff} {k b : Nat} (h : BestI L k b) {p q : Ff} (hp : L[k]? = some p) (hq : L[b]? = some q) (hn : ¬ kyO p.1 < kyO q.1) : BestI L (k + 1) b := ⟨h.lt, fun i p' q' hi hp' hq' => by
  by_cases hik : i = k
  · subst hik
    rw [hp] at hp'; rw [hq] at hq'; cases hp'; cases hq'
    omega
  · exact h.le i p' q' (by omega) hp' hq'⟩
theorem BestI.take {L : List Ff} {k b : Nat} (h : BestI L k b) {p q : Ff} (hp : L[k]? = some p) (hq : L[b]? = some q) (hn : kyO p.1 < kyO q.1) : BestI L (k + 1) k := ⟨(List.getElem?_eq_some_iff.1 hp).1, fun i p' q' hi hp' hq' => by
  rw [hp] at hq'; cases hq'
  by_cases hik : i = k
  · subst hik
    rw [hp] at hp'; cases hp'
    exact Nat.le_refl _
  · have := h.le i p' q (by omega) hp' hq
    omega⟩
theorem BestI.all {L : List Ff} {b : Nat} (h : BestI L L.length b) {q : Ff} (hq : L[b]? = some q) {gs : List (Option Fr)} (hl : gs.filterMap id = L.map Prod.fst) : ∀ G, some G ∈ gs → kyO q.1 ≤ kyO G := fun G hG => by
  rw [left_mem, hl] at hG
  obtain ⟨p, hp, rfl⟩ := List.mem_map.1 hG
  obtain ⟨i, hi⟩ := List.getElem?_of_mem hp
  exact h.le i p q (List.getElem?_eq_some_iff.1 hi).1 hi hq

/-- What is told at bit i of a frame of P bits: how many of the first k nodes sent it, how many took it. -/
def seO (P i jw k : Nat) : Nat := if i = P + 9 ∧ jw < k then 1 else 0
def toO (P i jw k : Nat) : Nat := if i = P + 8 then (if jw < k then k - 1 else k) else 0
/-- When all are idle. -/
theorem NO.quiet {gs : List (Option Fr)} {l : List Ct} (h : NO gs l) (hn : gs.filterMap id = []) : ∀ (j : Nat) (c : Ct), l[j]? = some c → c.ph = 0 ∧ c.cf = zeC ∧ c.has = false := fun j c hc => by
  have hj : j < gs.length := by rw [← h.len]; exact (List.getElem?_eq_some_iff.1 hc).1
  have hg := List.getElem?_eq_getElem hj
  have hno : gs[j] = none := by
    cases e : gs[j] with
    | none => rfl
    | some F =>
      have : F ∈ gs.filterMap id := left_mem.1 (by rw [← e]; exact List.getElem_mem hj)
      rw [hn] at this; cases this
  obtain ⟨A, rfl, h1, h2, _⟩ := h.idl j c _ hc hg
  rw [hno] at h2
  exact ⟨rfl, h1, h2⟩
end Go.Proofs.YtgpmhmdofefdcaaGreat
