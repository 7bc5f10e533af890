/-
  Texts of this place, put together: M14i, Mu, B14p, B14q, B14r, M14n, Open11f. What stands here is used by the statement; conditions: none of their own.
-/
import Derived.Test.YtajdbimdiodalaaGreatZc8
import Derived.Deep.SlicePairs
import Derived.Lib.SmallJoins
namespace Go.Proofs.YtajdbimdiodalaaGreat
open Go.RowKit Go.Sort
set_option linter.unusedVariables false
set_option linter.unusedSimpArgs false

/-- Between frames, behind j bits, with what there is to send. -/
def InN (j : Nat) (g : Option Fr) (c : Ct) : Prop := ∃ A : Ct, c = btC A j ∧ A.cf = zeC ∧ A.has = g.isSome ∧ A.give = g.getD zeroFr
/-- What its controller has. -/
def gvD (d : Dv) : Option Fr := if d.c.has then some d.c.give else none

theorem ev_z8 : evC zeC 8 = zeC := by decide
theorem ev_z9 : evC zeC 9 = zeC := by decide
theorem ro_in {B : Fr} {g : Option Fr} {w : Bool} {c : Ct} (h : RoN B zeC ((putL (boL B)).length + 10) g w c) : InN 0 (if w then none else g) c := by
  rcases h with ⟨h0, _⟩ | ⟨_, h0, _⟩ | ⟨_, _, A, rfl, a1, a2, a3⟩
  · omega
  · omega
  · refine ⟨A, by rw [Nat.sub_self], ?_, ?_, ?_⟩
    · rw [a1, ev_z8, ev_z9]; split <;> rfl
    · rw [a2]; cases w <;> simp
    · rw [a3]; cases w <;> simp
theorem in_step {j : Nat} {g : Option Fr} {c : Ct} (h : InN j g c) (hj : j < 3) : (stC c true).2 = noH ∧ InN (j + 1) g (stC c true).1 ∧ dvC c = true := by
  obtain ⟨A, rfl, a1, a2, a3⟩ := h
  rw [bt_step3 (by rw [a1]; decide) hj]
  refine ⟨rfl, ⟨A, rfl, a1, a2, a3⟩, ?_⟩
  unfold btC; rw [if_pos hj]; rfl
theorem in_idl {B : Fr} {g : Option Fr} {w : Bool} {c : Ct} (h : InN 3 g c) : RoN B zeC 0 g w c := by
  obtain ⟨A, rfl, a1, a2, a3⟩ := h
  exact .inl ⟨rfl, A, rfl, a1, a2, a3⟩
theorem in_give {j : Nat} {c : Ct} (F : Fr) (h : InN j none c) : InN j (some F) { c with has := true, give := F } := by
  obtain ⟨A, rfl, a1, a2, a3⟩ := h
  refine ⟨{ A with has := true, give := F }, ?_, a1, rfl, rfl⟩
  unfold btC; split <;> rfl
theorem in_gv {j : Nat} {g : Option Fr} {d : Dv} (h : InN j g d.c) : gvD d = g := by
  obtain ⟨A, e, a1, a2, a3⟩ := h
  have h1 : d.c.has = A.has := by rw [e]; unfold btC; split <;> rfl
  have h2 : d.c.give = A.give := by rw [e]; unfold btC; split <;> rfl
  unfold gvD
  rw [h1, h2, a2, a3]
  cases g <;> rfl
/-- Nothing to send, and nothing comes. -/
theorem in_rest {c : Ct} (h : InN 3 none c) : stC c true = (c, noH) ∧ dvC c = true := by
  obtain ⟨A, rfl, a1, a2, a3⟩ := h
  have e : btC A 3 = phC A 0 0 false := rfl
  have hs : stC (phC A 0 0 false) true = (if A.has then failC { phC A 0 0 false with sender := true } 4 else (phC A 0 0 false, noH)) := rfl
  have hd : dvC (phC A 0 0 false) = !A.has := rfl
  rw [e, hs, hd, a2]
  exact ⟨rfl, rfl⟩

/-- What a driver has read, behind a frame. -/
def rxU (d : Dv) (B : Fr) (t : Int) : List (Fr × Int) × Bool := if d.pass B = true then (if d.rx.length < d.keep then (d.rx ++ [(B, t)], d.ov) else (d.rx, true)) else (d.rx, d.ov)

/-- A bit of a frame, of a driver whose own was not sent by it. -/
theorem dr_step {B : Fr} (hB : Good B) {d : Dv} (h : DvI d) (b : DvB d) {g : Option Fr} {w : Bool} (ho : NodeOK B g w) {i : Nat} (hi : i < (putL (boL B)).length + 13) (hr : RoN B zeC i g w d.c) (hn : ¬ (w = true ∧ i = (putL (boL B)).length + 9)) :
    ∃ rx ov, (stD d (xB B i)).1 = { d with c := (stC d.c (xB B i)).1, rx := rx, ov := ov, now := d.now + 1 } ∧ RoN B zeC (i + 1) g w (stC d.c (xB B i)).1 ∧ DvI (stD d (xB B i)).1 ∧ DvB (stD d (xB B i)).1 ∧ (stD d (xB B i)).2.1 ≠ 1
      ∧ (rx, ov) = (if w = false ∧ i = (putL (boL B)).length + 8 then rxU d B d.now else (d.rx, d.ov)) := by
  obtain ⟨s1, s2, s3, s4⟩ := ro_step hB cfA_zero ho hi hr
  have h1 : (stC d.c (xB B i)).2.1 ≠ 1 := by
    rcases s2 with e | ⟨_, _, e⟩
    · rw [e]
      cases w with
      | true =>
        rw [if_pos rfl, if_neg (fun k => hn ⟨rfl, k⟩)]
        decide
      | false =>
        rw [if_neg Bool.false_ne_true]
        split
        · show (2 : Nat) ≠ 1; omega
        · decide
    · rw [e]; show (3 : Nat) ≠ 1; omega
  obtain ⟨rx, ov, e1, e2, e3, e4⟩ := stD_calm h b (xB B i) h1
  refine ⟨rx, ov, e1, s1, (stD_I h _).1, e2, e3, ?_⟩
  rw [e4]
  by_cases h8 : w = false ∧ i = (putL (boL B)).length + 8
  · rw [if_pos h8]
    have e : (stC d.c (xB B i)).2 = (2, B) := by
      rcases s2 with e | ⟨_, hl, _⟩
      · rw [e, h8.1, if_neg Bool.false_ne_true, if_pos h8.2]
      · omega
    rw [e]
    unfold rxU
    by_cases hp : d.pass B = true
    · rw [if_pos ⟨rfl, hp⟩, if_pos hp]
    · rw [if_neg (fun k => hp k.2), if_neg hp]
  · rw [if_neg h8]
    have e : (stC d.c (xB B i)).2.1 ≠ 2 := by
      rcases s2 with e | ⟨_, _, e⟩
      · rw [e]
        cases w with
        | true =>
          rw [if_pos rfl, if_neg (fun k => hn ⟨rfl, k⟩)]
          decide
        | false =>
          rw [if_neg Bool.false_ne_true, if_neg (fun k => h8 ⟨rfl, k⟩)]
          decide
      · rw [e]; show (3 : Nat) ≠ 2; omega
    rw [if_neg (fun k => e k.1)]

/-- The bit at which its own is sent: the next best one is with the controller. -/
theorem dr_sent {B : Fr} (hB : Good B) {d : Dv} (h : DvI d) {g : Option Fr} (ho : NodeOK B g true) (hr : RoN B zeC ((putL (boL B)).length + 9) g true d.c) :
    ∃ q, (stD d (xB B ((putL (boL B)).length + 9))).1.q = q ∧ q.ws = rmQ d.q.wire d.q.ws ∧ q.room = d.q.room ∧ q.puts = d.q.puts ∧ (stD d (xB B ((putL (boL B)).length + 9))).1.rx = d.rx ∧ (stD d (xB B ((putL (boL B)).length + 9))).1.ov = d.ov ∧ (stD d (xB B ((putL (boL B)).length + 9))).1.keep = d.keep ∧ (stD d (xB B ((putL (boL B)).length + 9))).1.pass = d.pass ∧ (stD d (xB B ((putL (boL B)).length + 9))).1.now = d.now + 1
      ∧ DvI (stD d (xB B ((putL (boL B)).length + 9))).1 ∧ DvB (stD d (xB B ((putL (boL B)).length + 9))).1 ∧ InN 0 (gvD (stD d (xB B ((putL (boL B)).length + 9))).1) (stD d (xB B ((putL (boL B)).length + 9))).1.c
      ∧ (stD d (xB B ((putL (boL B)).length + 9))).2 = (1, d.q.wire, B) ∧ d.c.give = B := by
  generalize hi : (putL (boL B)).length + 9 = i at *
  obtain ⟨s1, s2, s3, s4⟩ := ro_step hB cfA_zero ho (by omega) hr
  have e : (stC d.c (xB B i)).2 = (1, B) := by
    rcases s2 with e | ⟨k, _⟩
    · rw [e, if_pos rfl, if_pos hi.symm]
    · cases k
  have h1 : (stC d.c (xB B i)).2.1 = 1 := by rw [e]
  have hg : d.c.give = B := by
    have := ((on_step h.on (xB B i)).sent h1).2.1
    rw [e] at this; exact this.symm
  have hin : InN 0 none (stC d.c (xB B i)).1 := by
    have : i + 1 = (putL (boL B)).length + 10 := by omega
    rw [this] at s1
    exact ro_in s1
  have hI := (stD_I h (xB B i)).1
  have hB' := stD_sent_B h (xB B i) h1
  have hs := stD_sent h (xB B i) h1
  refine ⟨_, rfl, ?_⟩
  rw [hs] at hI hB' ⊢
  cases hb : beQ { d.q with ws := rmQ d.q.wire d.q.ws, wire := 0, ab := false } with
  | none =>
    rw [hb] at hI hB'
    dsimp only at hI hB' ⊢
    refine ⟨rfl, rfl, rfl, rfl, rfl, rfl, rfl, rfl, hI, hB', ?_, by rw [hg], hg⟩
    rw [in_gv (d := { d with c := (stC d.c (xB B i)).1, q := { d.q with ws := rmQ d.q.wire d.q.ws, wire := 0, ab := false }, now := d.now + 1 }) hin]
    exact hin
  | some p =>
    rw [hb] at hI hB'
    dsimp only at hI hB' ⊢
    refine ⟨rfl, rfl, rfl, rfl, rfl, rfl, rfl, rfl, hI, hB', ?_, by rw [hg], hg⟩
    exact in_give p.1 hin

/-- A bit between frames. -/
theorem dr_in {d : Dv} (h : DvI d) (b : DvB d) {g : Option Fr} {j : Nat} (hj : j < 3) (hr : InN j g d.c) :
    (stD d true).1 = { d with c := (stC d.c true).1, now := d.now + 1 } ∧ InN (j + 1) g (stC d.c true).1 ∧ DvI (stD d true).1 ∧ DvB (stD d true).1 ∧ (stD d true).2.1 ≠ 1 := by
  obtain ⟨s1, s2, s3⟩ := in_step hr hj
  obtain ⟨rx, ov, e1, e2, e3, e4⟩ := stD_calm h b true (by rw [s1]; decide)
  rw [if_neg (by rw [s1]; intro k; exact absurd k.1 (by decide))] at e4
  have e5 := congrArg Prod.fst e4
  have e6 := congrArg Prod.snd e4
  dsimp only at e5 e6
  rw [e5, e6] at e1
  exact ⟨e1, s2, (stD_I h _).1, e2, e3⟩
/-- A bit at which nothing is to be sent by anybody. -/
theorem dr_rest {d : Dv} (h : DvI d) (b : DvB d) (hr : InN 3 none d.c) :
    (stD d true).1 = { d with now := d.now + 1 } ∧ DvI (stD d true).1 ∧ DvB (stD d true).1 ∧ (stD d true).2.1 ≠ 1 := by
  obtain ⟨s1, s2⟩ := in_rest hr
  obtain ⟨rx, ov, e1, e2, e3, e4⟩ := stD_calm h b true (by rw [s1]; show (0 : Nat) ≠ 1; omega)
  rw [if_neg (by rw [s1]; intro k; exact absurd k.1 (by show ¬ ((0 : Nat) = 2); omega))] at e4
  have e5 := congrArg Prod.fst e4
  have e6 := congrArg Prod.snd e4
  dsimp only at e5 e6
  rw [e5, e6, s1] at e1
  exact ⟨e1, (stD_I h _).1, e2, e3⟩
end Go.Proofs.YtajdbimdiodalaaGreat

namespace Go.Proofs.YtajdbimdiodalaaGreat
open Go.RowKit Go.Sort
set_option linter.unusedVariables false
set_option linter.unusedSimpArgs false

theorem tl_keep : ∀ (l : List (Dv × No)) (z : No), (∀ r ∈ l, r.2.1 ≠ 1) → l.foldl (fun z r => if r.2.1 = 1 then r.2 else z) z = z := by
  intro l
  induction l with
  | nil => intro z _; rfl
  | cons x l ih =>
    intro z h
    rw [List.foldl_cons, if_neg (h x (by simp))]
    exact ih z (fun r hr => h r (by simp [hr]))
theorem tl_none {l : List (Dv × No)} (h : ∀ r ∈ l, r.2.1 ≠ 1) : (tlD l).1 ≠ 1 := by
  unfold tlD; rw [tl_keep l noN h]; decide
theorem tl_one {t : No} (ht : t.1 = 1) : ∀ (l : List (Dv × No)) (z : No), (∀ r ∈ l, r.2.1 = 1 → r.2 = t) → (z = t ∨ ∃ r ∈ l, r.2 = t) → l.foldl (fun z r => if r.2.1 = 1 then r.2 else z) z = t := by
  intro l
  induction l with
  | nil =>
    intro z _ h
    rcases h with h | ⟨r, hr, _⟩
    · exact h
    · cases hr
  | cons x l ih =>
    intro z hu h
    rw [List.foldl_cons]
    refine ih _ (fun r hr => hu r (by simp [hr])) ?_
    by_cases hx : x.2.1 = 1
    · rw [if_pos hx]; exact .inl (hu x (by simp) hx)
    · rw [if_neg hx]
      rcases h with h | ⟨r, hr, e⟩
      · exact .inl h
      · rcases List.mem_cons.1 hr with rfl | hr
        · exact absurd (by rw [e]; exact ht) hx
        · exact .inr ⟨r, hr, e⟩

theorem ru_skip {n : Nat} {l : List Dv} (h : (tlD (alD l)).1 ≠ 1) : ruD (n + 1) l = ruD n ((alD l).map Prod.fst) := by
  show (if (tlD (alD l)).1 = 1 then _ else _) = _
  rw [if_neg h]
theorem ru_stop {n : Nat} {l : List Dv} (h : (tlD (alD l)).1 = 1) : ruD (n + 1) l = ((alD l).map Prod.fst, tlD (alD l), true) := by
  show (if (tlD (alD l)).1 = 1 then _ else _) = _
  rw [if_pos h]

theorem al_at {l : List Dv} {j : Nat} {r : Dv × No} (h : (alD l)[j]? = some r) : ∃ d, l[j]? = some d ∧ r = stD d (buD l) := by
  unfold alD at h
  rw [List.getElem?_map] at h
  cases hd : l[j]? with
  | none => rw [hd] at h; cases h
  | some d => rw [hd] at h; exact ⟨d, rfl, (Option.some.inj h).symm⟩
theorem al_fst {l : List Dv} {j : Nat} {d : Dv} (h : ((alD l).map Prod.fst)[j]? = some d) : ∃ d1, l[j]? = some d1 ∧ d = (stD d1 (buD l)).1 := by
  rw [List.getElem?_map] at h
  cases hr : (alD l)[j]? with
  | none => rw [hr] at h; cases h
  | some r =>
    rw [hr] at h
    obtain ⟨d1, h1, rfl⟩ := al_at hr
    exact ⟨d1, h1, (Option.some.inj h).symm⟩
theorem al_len (l : List Dv) : ((alD l).map Prod.fst).length = l.length := by unfold alD; rw [List.length_map, List.length_map]

/-- Drivers behind i bits of B's frame, whose sender is number jw; l0: as they were ahead of it. -/
structure Bus (l0 : List Dv) (B : Fr) (jw i : Nat) (l : List Dv) : Prop where
  len : l.length = l0.length
  di : ∀ (j : Nat) (d : Dv), l[j]? = some d → DvI d ∧ DvB d
  ro : ∀ (j : Nat) (d d0 : Dv), l[j]? = some d → l0[j]? = some d0 → RoN B zeC i (gvD d0) (decide (j = jw)) d.c
  q : ∀ (j : Nat) (d d0 : Dv), l[j]? = some d → l0[j]? = some d0 → d.q = d0.q ∧ d.keep = d0.keep ∧ d.pass = d0.pass ∧ d.now = d0.now + i
  rx : ∀ (j : Nat) (d d0 : Dv), l[j]? = some d → l0[j]? = some d0 → (d.rx, d.ov) = if j ≠ jw ∧ (putL (boL B)).length + 9 ≤ i then rxU d0 B (d0.now + (((putL (boL B)).length + 8 : Nat) : Int)) else (d0.rx, d0.ov)

section
variable {l0 : List Dv} {B : Fr} {jw : Nat}
theorem bus_bit {l : List Dv} (hB : Good B) (hw : jw < l0.length) (h2 : 2 ≤ l0.length) (ho : ∀ (j : Nat) (d0 : Dv), l0[j]? = some d0 → NodeOK B (gvD d0) (decide (j = jw))) {i : Nat} (hi : i < (putL (boL B)).length + 13) (h : Bus l0 B jw i l) : buD l = xB B i := by
  have := ro_bus hB (cf := fun _ => zeC) (fun _ => cfA_zero) (l := l.map (fun d => d.c)) (gs := l0.map gvD) (jw := jw) (by rw [List.length_map, List.length_map, h.len]) (by rw [List.length_map, h.len]; exact hw) (by rw [List.length_map, h.len]; exact h2) hi
    (fun j hj => by
      rw [List.length_map] at hj
      rw [List.getElem_map]
      exact ho j _ (List.getElem?_eq_getElem hj))
    (fun j hj => by
      rw [List.length_map] at hj
      rw [List.getElem_map, List.getElem_map]
      exact h.ro j _ _ (List.getElem?_eq_getElem hj) (List.getElem?_eq_getElem (by rw [← h.len]; exact hj)))
  rw [← this, List.all_map]
  rfl

/-- A bit at which nothing is sent. -/
theorem bus_step {l : List Dv} (hB : Good B) (hw : jw < l0.length) (h2 : 2 ≤ l0.length) (ho : ∀ (j : Nat) (d0 : Dv), l0[j]? = some d0 → NodeOK B (gvD d0) (decide (j = jw))) {i : Nat} (hi : i < (putL (boL B)).length + 9) (h : Bus l0 B jw i l) :
    (tlD (alD l)).1 ≠ 1 ∧ Bus l0 B jw (i + 1) ((alD l).map Prod.fst) := by
  have hb := bus_bit hB hw h2 ho (by omega) h
  have key : ∀ (j : Nat) (d d0 : Dv), l[j]? = some d → l0[j]? = some d0 → _ := fun j d d0 hd hd0 => dr_step hB (h.di j d hd).1 (h.di j d hd).2 (ho j d0 hd0) (i := i) (by omega) (h.ro j d d0 hd hd0) (fun k => by omega)
  have h0 : ∀ (j : Nat) (d : Dv), l[j]? = some d → ∃ d0, l0[j]? = some d0 := fun j d hd => by
    have hj : j < l0.length := by rw [← h.len]; exact (List.getElem?_eq_some_iff.1 hd).1
    exact ⟨_, List.getElem?_eq_getElem hj⟩
  refine ⟨tl_none (fun r hr => ?_), ⟨by rw [al_len, h.len], fun j d hd => ?_, fun j d d0 hd hd0 => ?_, fun j d d0 hd hd0 => ?_, fun j d d0 hd hd0 => ?_⟩⟩
  · obtain ⟨j, hj⟩ := List.getElem?_of_mem hr
    obtain ⟨d, hd, rfl⟩ := al_at hj
    obtain ⟨d0, hd0⟩ := h0 j d hd
    obtain ⟨rx, ov, _, _, _, _, k, _⟩ := key j d d0 hd hd0
    rw [hb]; exact k
  · obtain ⟨d1, hd1, rfl⟩ := al_fst hd
    obtain ⟨d0, hd0⟩ := h0 j d1 hd1
    obtain ⟨rx, ov, _, _, k1, k2, _, _⟩ := key j d1 d0 hd1 hd0
    rw [hb]; exact ⟨k1, k2⟩
  · obtain ⟨d1, hd1, rfl⟩ := al_fst hd
    obtain ⟨rx, ov, e, k, _⟩ := key j d1 d0 hd1 hd0
    rw [hb, e]; exact k
  · obtain ⟨d1, hd1, rfl⟩ := al_fst hd
    obtain ⟨rx, ov, e, _⟩ := key j d1 d0 hd1 hd0
    obtain ⟨q1, q2, q3, q4⟩ := h.q j d1 d0 hd1 hd0
    rw [hb, e]
    exact ⟨q1, q2, q3, by show d1.now + 1 = _; rw [q4]; omega⟩
  · obtain ⟨d1, hd1, rfl⟩ := al_fst hd
    obtain ⟨rx, ov, e, _, _, _, _, k⟩ := key j d1 d0 hd1 hd0
    obtain ⟨q1, q2, q3, q4⟩ := h.q j d1 d0 hd1 hd0
    have hx := h.rx j d1 d0 hd1 hd0
    rw [hb, e]
    show (rx, ov) = _
    rw [k]
    rw [if_neg (show ¬ (j ≠ jw ∧ (putL (boL B)).length + 9 ≤ i) by omega)] at hx
    have e1 : d1.rx = d0.rx := congrArg Prod.fst hx
    have e2 : d1.ov = d0.ov := congrArg Prod.snd hx
    by_cases h8 : i = (putL (boL B)).length + 8
    · by_cases hj : j = jw
      · rw [if_neg (fun k => by have := k.1; simp [hj] at this), if_neg (fun k => k.1 hj)]
        exact hx
      · rw [if_pos ⟨decide_eq_false hj, h8⟩, if_pos ⟨hj, by omega⟩]
        unfold rxU
        rw [e1, e2, q2, q3, q4, h8]
    · rw [if_neg (fun k => h8 k.2), if_neg (show ¬ (j ≠ jw ∧ (putL (boL B)).length + 9 ≤ i + 1) by omega)]
      exact hx

/-- So many bits. -/
theorem bus_go (hB : Good B) (hw : jw < l0.length) (h2 : 2 ≤ l0.length) (ho : ∀ (j : Nat) (d0 : Dv), l0[j]? = some d0 → NodeOK B (gvD d0) (decide (j = jw))) (n : Nat) :
    ∀ (m i : Nat) (l : List Dv), i + m = (putL (boL B)).length + 9 → Bus l0 B jw i l → ∃ l', Bus l0 B jw ((putL (boL B)).length + 9) l' ∧ ruD (m + n) l = ruD n l' := by
  intro m
  induction m with
  | zero => intro i l hi h; exact ⟨l, by rw [← hi]; exact h, by rw [Nat.zero_add]⟩
  | succ m ih =>
    intro i l hi h
    obtain ⟨s1, s2⟩ := bus_step hB hw h2 ho (i := i) (by omega) h
    obtain ⟨l', b1, b2⟩ := ih (i + 1) _ (by omega) s2
    refine ⟨l', b1, ?_⟩
    rw [show m + 1 + n = (m + n) + 1 by omega, ru_skip s1]
    exact b2

/-- Behind a round: B is sent by jw, whose next is with its controller; all others have read it. -/
structure Rnd (l0 : List Dv) (B : Fr) (jw : Nat) (l : List Dv) : Prop where
  len : l.length = l0.length
  di : ∀ (j : Nat) (d : Dv), l[j]? = some d → DvI d ∧ DvB d ∧ InN 0 (gvD d) d.c
  win : ∀ (d d0 : Dv), l[jw]? = some d → l0[jw]? = some d0 → d.q.ws = rmQ d0.q.wire d0.q.ws ∧ d.q.room = d0.q.room ∧ d.q.puts = d0.q.puts ∧ d.rx = d0.rx ∧ d.ov = d0.ov
  los : ∀ (j : Nat) (d d0 : Dv), j ≠ jw → l[j]? = some d → l0[j]? = some d0 → d.q = d0.q ∧ (d.rx, d.ov) = rxU d0 B (d0.now + (((putL (boL B)).length + 8 : Nat) : Int))
  all : ∀ (j : Nat) (d d0 : Dv), l[j]? = some d → l0[j]? = some d0 → d.keep = d0.keep ∧ d.pass = d0.pass ∧ d.now = d0.now + (((putL (boL B)).length + 10 : Nat) : Int)

theorem bus_last {l : List Dv} (hB : Good B) (hw : jw < l0.length) (h2 : 2 ≤ l0.length) (ho : ∀ (j : Nat) (d0 : Dv), l0[j]? = some d0 → NodeOK B (gvD d0) (decide (j = jw))) (h : Bus l0 B jw ((putL (boL B)).length + 9) l) :
    ∀ (d0 : Dv), l0[jw]? = some d0 → tlD (alD l) = (1, d0.q.wire, B) ∧ Rnd l0 B jw ((alD l).map Prod.fst) := by
  intro dw0 hdw0
  have hb := bus_bit hB hw h2 ho (i := (putL (boL B)).length + 9) (by omega) h
  have key : ∀ (j : Nat) (d d0 : Dv), j ≠ jw → l[j]? = some d → l0[j]? = some d0 → _ := fun j d d0 hj hd hd0 => dr_step hB (h.di j d hd).1 (h.di j d hd).2 (ho j d0 hd0) (i := (putL (boL B)).length + 9) (by omega) (h.ro j d d0 hd hd0) (fun k => hj (by simpa using k.1))
  have hjw : jw < l.length := by rw [h.len]; exact hw
  have hdw := List.getElem?_eq_getElem hjw
  generalize l[jw] = dw at hdw
  have how := ho jw dw0 hdw0
  have hrw := h.ro jw dw dw0 hdw hdw0
  rw [decide_eq_true rfl] at how hrw
  obtain ⟨q, sq, s1, s2, s3, s4, s5, s6, s7, s8, s9, s10, s11, s12, s13⟩ := dr_sent hB (h.di jw dw hdw).1 how hrw
  obtain ⟨q1, q2, q3, q4⟩ := h.q jw dw dw0 hdw hdw0
  have hxw := h.rx jw dw dw0 hdw hdw0
  rw [if_neg (fun k => k.1 rfl)] at hxw
  have xw1 : dw.rx = dw0.rx := congrArg Prod.fst hxw
  have xw2 : dw.ov = dw0.ov := congrArg Prod.snd hxw
  have h0 : ∀ (j : Nat) (d : Dv), l[j]? = some d → ∃ d0, l0[j]? = some d0 := fun j d hd => by
    have hj : j < l0.length := by rw [← h.len]; exact (List.getElem?_eq_some_iff.1 hd).1
    exact ⟨_, List.getElem?_eq_getElem hj⟩
  refine ⟨?_, ⟨by rw [al_len, h.len], fun j d hd => ?_, fun d d0 hd hd0 => ?_, fun j d d0 hj hd hd0 => ?_, fun j d d0 hd hd0 => ?_⟩⟩
  · refine tl_one (t := (1, dw0.q.wire, B)) rfl (alD l) noN (fun r hr hr1 => ?_) (.inr ⟨stD dw (buD l), ?_, by rw [hb, s12, q1]⟩)
    · obtain ⟨j, hj⟩ := List.getElem?_of_mem hr
      obtain ⟨d, hd, rfl⟩ := al_at hj
      by_cases hjj : j = jw
      · subst hjj
        rw [hdw] at hd
        cases hd
        rw [hb, s12, q1]
      · obtain ⟨d0, hd0⟩ := h0 j d hd
        obtain ⟨rx, ov, _, _, _, _, k, _⟩ := key j d d0 hjj hd hd0
        rw [hb] at hr1
        exact absurd hr1 k
    · unfold alD
      exact List.mem_map_of_mem (List.mem_of_getElem? hdw)
  · obtain ⟨d1, hd1, rfl⟩ := al_fst hd
    rw [hb]
    by_cases hjj : j = jw
    · subst hjj
      rw [hdw] at hd1
      cases hd1
      exact ⟨s9, s10, s11⟩
    · obtain ⟨d0, hd0⟩ := h0 j d1 hd1
      obtain ⟨rx, ov, e, k, k1, k2, _, _⟩ := key j d1 d0 hjj hd1 hd0
      refine ⟨k1, k2, ?_⟩
      have hin := ro_in (show RoN B zeC ((putL (boL B)).length + 10) (gvD d0) (decide (j = jw)) _ from k)
      rw [decide_eq_false hjj, if_neg Bool.false_ne_true] at hin
      have hin' : InN 0 (gvD d0) (stD d1 (xB B ((putL (boL B)).length + 9))).1.c := by rw [e]; exact hin
      rw [in_gv hin']
      exact hin'
  · obtain ⟨d1, hd1, rfl⟩ := al_fst hd
    rw [hdw] at hd1
    cases hd1
    rw [hdw0] at hd0
    cases hd0
    rw [hb, sq]
    exact ⟨by rw [s1, q1], by rw [s2, q1], by rw [s3, q1], by rw [s4, xw1], by rw [s5, xw2]⟩
  · obtain ⟨d1, hd1, rfl⟩ := al_fst hd
    obtain ⟨rx, ov, e, _, _, _, _, k⟩ := key j d1 d0 hj hd1 hd0
    obtain ⟨p1, p2, p3, p4⟩ := h.q j d1 d0 hd1 hd0
    have hx := h.rx j d1 d0 hd1 hd0
    rw [if_pos ⟨hj, Nat.le_refl _⟩] at hx
    rw [hb, e]
    refine ⟨p1, ?_⟩
    show (rx, ov) = _
    rw [k, if_neg (fun k => by have := k.2; omega), hx]
  · obtain ⟨d1, hd1, rfl⟩ := al_fst hd
    rw [hb]
    by_cases hjj : j = jw
    · subst hjj
      rw [hdw] at hd1
      cases hd1
      rw [hdw0] at hd0
      cases hd0
      exact ⟨by rw [s6, q2], by rw [s7, q3], by rw [s8, q4]; omega⟩
    · obtain ⟨rx, ov, e, _⟩ := key j d1 d0 hjj hd1 hd0
      obtain ⟨p1, p2, p3, p4⟩ := h.q j d1 d0 hd1 hd0
      rw [e]
      exact ⟨p2, p3, by show d1.now + 1 = _; rw [p4]; omega⟩

/-- A round, from idle controllers on. -/
theorem round_idle (hB : Good B) (hw : jw < l0.length) (h2 : 2 ≤ l0.length) (ho : ∀ (j : Nat) (d0 : Dv), l0[j]? = some d0 → NodeOK B (gvD d0) (decide (j = jw)))
    (hd : ∀ (j : Nat) (d : Dv), l0[j]? = some d → DvI d ∧ DvB d ∧ InN 3 (gvD d) d.c) (n : Nat) :
    ∃ l, (∀ (d0 : Dv), l0[jw]? = some d0 → ruD ((putL (boL B)).length + 10 + n) l0 = (l, (1, d0.q.wire, B), true)) ∧ Rnd l0 B jw l := by
  have hP := P_pos B
  have b0 : Bus l0 B jw 0 l0 := ⟨rfl, fun j d h => ⟨(hd j d h).1, (hd j d h).2.1⟩, fun j d d0 h h0 => by
      rw [h] at h0; cases h0
      exact in_idl (hd j d h).2.2, fun j d d0 h h0 => by
      rw [h] at h0; cases h0
      exact ⟨rfl, rfl, rfl, by simp⟩, fun j d d0 h h0 => by
      rw [h] at h0; cases h0
      rw [if_neg (fun k => by have := k.2; omega)]⟩
  obtain ⟨l', b1, b2⟩ := bus_go hB hw h2 ho (n + 1) ((putL (boL B)).length + 9) 0 l0 (by omega) b0
  refine ⟨(alD l').map Prod.fst, fun d0 h0 => ?_, ?_⟩
  · obtain ⟨t1, t2⟩ := bus_last hB hw h2 ho b1 d0 h0
    rw [show (putL (boL B)).length + 10 + n = (putL (boL B)).length + 9 + (n + 1) by omega, b2, ru_stop (by rw [t1]), t1]
  · exact (bus_last hB hw h2 ho b1 _ (List.getElem?_eq_getElem hw)).2
end
end Go.Proofs.YtajdbimdiodalaaGreat

namespace Go.Proofs.YtajdbimdiodalaaGreat
open Go.RowKit Go.Sort
set_option linter.unusedVariables false
set_option linter.unusedSimpArgs false

theorem miQ_le : ∀ (l : List Qw) (b : Qw), kyQ (miQ l b) ≤ kyQ b ∧ ∀ q ∈ l, kyQ (miQ l b) ≤ kyQ q := by
  intro l
  induction l with
  | nil => intro b; exact ⟨Nat.le_refl _, fun q hq => (by cases hq)⟩
  | cons x l ih =>
    intro b
    unfold miQ
    split
    · rename_i h
      obtain ⟨h1, h2⟩ := ih x
      refine ⟨by omega, fun q hq => ?_⟩
      rcases List.mem_cons.1 hq with rfl | hq
      · exact h1
      · exact h2 q hq
    · rename_i h
      obtain ⟨h1, h2⟩ := ih b
      refine ⟨h1, fun q hq => ?_⟩
      rcases List.mem_cons.1 hq with rfl | hq
      · omega
      · exact h2 q hq
theorem beQ_le {q : Dq} {p : Qw} (hw : q.wire = 0) (h : beQ q = some p) : ∀ x ∈ q.ws, kyQ p ≤ kyQ x := by
  unfold beQ at h
  split at h
  · cases h
  · rename_i y l hl
    rw [if_pos hw] at h
    have h := Option.some.inj h
    subst h
    obtain ⟨h1, h2⟩ := miQ_le l y
    intro x hx
    rw [hl] at hx
    rcases List.mem_cons.1 hx with rfl | hx
    · exact h1
    · exact h2 x hx
/-- The key of a frame. -/
def kyG (F : Fr) : Nat := keyF F.id F.ext F.rem
/-- What its controller has is the best that waits with it. -/
theorem gv_best {d : Dv} (h : DvI d) (b : DvB d) : (gvD d = none ∧ d.q.ws = []) ∨ ∃ F, gvD d = some F ∧ Good F ∧ (F, d.q.wire) ∈ d.q.ws ∧ ∀ x ∈ d.q.ws, kyG F ≤ kyQ x := by
  unfold gvD
  by_cases hh : d.c.has = true
  · rw [if_pos hh]
    obtain ⟨h1, h2⟩ := h.hw hh
    exact .inr ⟨_, rfl, (h.no _ h2).2.2, h2, beQ_le (q := { d.q with wire := 0 }) rfl (b.be hh)⟩
  · rw [if_neg hh]
    exact .inl ⟨rfl, h.fed (by simpa using hh)⟩

/-- No key waits with two. -/
def Unlike (l : List Dv) : Prop := ∀ (i j : Nat) (d e : Dv) (p x : Qw), i ≠ j → l[i]? = some d → l[j]? = some e → p ∈ d.q.ws → x ∈ e.q.ws → kyQ p ≠ kyQ x

/-- The least of a list of what controllers may have. -/
theorem least_of : ∀ (gs : List (Option Fr)), (∀ g ∈ gs, g = none) ∨ ∃ (jw : Nat) (B : Fr), gs[jw]? = some (some B) ∧ ∀ (j : Nat) (G : Fr), gs[j]? = some (some G) → kyG B ≤ kyG G := by
  intro gs
  induction gs with
  | nil => exact .inl (fun g hg => (by cases hg))
  | cons x gs ih =>
    cases x with
    | none =>
      rcases ih with ih | ⟨jw, B, h1, h2⟩
      · refine .inl (fun g hg => ?_)
        rcases List.mem_cons.1 hg with rfl | hg
        · rfl
        · exact ih g hg
      · refine .inr ⟨jw + 1, B, by simpa using h1, fun j G hj => ?_⟩
        cases j with
        | zero => simp at hj
        | succ j => exact h2 j G (by simpa using hj)
    | some F =>
      rcases ih with ih | ⟨jw, B, h1, h2⟩
      · refine .inr ⟨0, F, by simp, fun j G hj => ?_⟩
        cases j with
        | zero => simp at hj; subst hj; exact Nat.le_refl _
        | succ j =>
          have := ih _ (List.mem_of_getElem? (by simpa using hj))
          cases this
      · by_cases hk : kyG F ≤ kyG B
        · refine .inr ⟨0, F, by simp, fun j G hj => ?_⟩
          cases j with
          | zero => simp at hj; subst hj; exact Nat.le_refl _
          | succ j => exact Nat.le_trans hk (h2 j G (by simpa using hj))
        · refine .inr ⟨jw + 1, B, by simpa using h1, fun j G hj => ?_⟩
          cases j with
          | zero => simp at hj; subst hj; omega
          | succ j => exact h2 j G (by simpa using hj)

/-- Who wins: of all that wait the one with the least key; all others may lose to it. -/
theorem winner {l : List Dv} (hd : ∀ (j : Nat) (d : Dv), l[j]? = some d → DvI d ∧ DvB d) (hu : Unlike l) (hs : ∃ d ∈ l, d.q.ws ≠ []) :
    ∃ (jw : Nat) (B : Fr) (dw : Dv), l[jw]? = some dw ∧ gvD dw = some B ∧ Good B ∧ (B, dw.q.wire) ∈ dw.q.ws ∧ (∀ (j : Nat) (d0 : Dv), l[j]? = some d0 → NodeOK B (gvD d0) (decide (j = jw))) ∧ ∀ d ∈ l, ∀ x ∈ d.q.ws, kyG B ≤ kyQ x := by
  rcases least_of (l.map gvD) with h | ⟨jw, B, h1, h2⟩
  · obtain ⟨d, hm, hne⟩ := hs
    obtain ⟨j, hj⟩ := List.getElem?_of_mem hm
    have := h (gvD d) (List.mem_map_of_mem hm)
    rcases gv_best (hd j d hj).1 (hd j d hj).2 with ⟨_, e⟩ | ⟨F, e, _⟩
    · exact absurd e hne
    · rw [e] at this; cases this
  · rw [List.getElem?_map] at h1
    cases hw : l[jw]? with
    | none => rw [hw] at h1; cases h1
    | some dw =>
      rw [hw] at h1
      have hg : gvD dw = some B := Option.some.inj h1
      have hB : Good B ∧ (B, dw.q.wire) ∈ dw.q.ws := by
        rcases gv_best (hd jw dw hw).1 (hd jw dw hw).2 with ⟨e, _⟩ | ⟨F, e, a, b, _⟩
        · rw [e] at hg; cases hg
        · rw [e] at hg; cases hg; exact ⟨a, b⟩
      refine ⟨jw, B, dw, hw, hg, hB.1, hB.2, fun j d0 hj => ?_, fun d hm x hx => ?_⟩
      · refine ⟨fun k => ?_, fun k G hG => ?_⟩
        · have : j = jw := by simpa using k
          subst this
          rw [hw] at hj; cases hj; exact hg
        · have hne : j ≠ jw := by simpa using k
          rcases gv_best (hd j d0 hj).1 (hd j d0 hj).2 with ⟨e, _⟩ | ⟨F, e, a, b, _⟩
          · rw [e] at hG; cases hG
          · rw [e] at hG
            cases hG
            have hle := h2 j G (by rw [List.getElem?_map, hj]; exact congrArg some e)
            have hnk : kyG B ≠ kyG G := hu jw j dw d0 (B, dw.q.wire) (G, d0.q.wire) (fun k => hne k.symm) hw hj hB.2 b
            refine ⟨a, Pair.mk' hB.1 a ?_⟩
            rw [key_before]
            exact decide_eq_true (by unfold kyG at hle hnk; omega)
      · obtain ⟨j, hj⟩ := List.getElem?_of_mem hm
        rcases gv_best (hd j d hj).1 (hd j d hj).2 with ⟨_, e⟩ | ⟨F, e, _, _, k⟩
        · rw [e] at hx; cases hx
        · exact Nat.le_trans (h2 j F (by rw [List.getElem?_map, hj]; exact congrArg some e)) (k x hx)

/-- Drivers that differ in their controllers and the time alone. -/
structure Pass (t : Nat) (l l' : List Dv) : Prop where
  len : l'.length = l.length
  eq : ∀ (j : Nat) (d d' : Dv), l[j]? = some d → l'[j]? = some d' → ∃ c, d' = { d with c := c, now := d.now + t }

theorem Pass.at {t : Nat} {l l' : List Dv} (h : Pass t l l') {j : Nat} {d' : Dv} (hd : l'[j]? = some d') : ∃ d, l[j]? = some d := by
  have hj : j < l.length := by rw [← h.len]; exact (List.getElem?_eq_some_iff.1 hd).1
  exact ⟨_, List.getElem?_eq_getElem hj⟩

/-- The bits between frames. -/
theorem inter {l0 : List Dv} : ∀ (m j : Nat) (l : List Dv), j + m = 3 → Pass j l0 l → (∀ (i : Nat) (d d0 : Dv), l[i]? = some d → l0[i]? = some d0 → DvI d ∧ DvB d ∧ InN j (gvD d0) d.c) →
    ∃ l', Pass 3 l0 l' ∧ (∀ (i : Nat) (d d0 : Dv), l'[i]? = some d → l0[i]? = some d0 → DvI d ∧ DvB d ∧ InN 3 (gvD d0) d.c) ∧ ∀ n, ruD (m + n) l = ruD n l' := by
  intro m
  induction m with
  | zero =>
    intro j l hj hp hd
    have : j = 3 := by omega
    subst this
    exact ⟨l, hp, hd, fun n => by rw [Nat.zero_add]⟩
  | succ m ih =>
    intro j l hj hp hd
    have hb : buD l = true := by
      unfold buD
      rw [List.all_eq_true]
      intro d hm
      obtain ⟨i, hi⟩ := List.getElem?_of_mem hm
      obtain ⟨d0, h0⟩ := hp.at hi
      exact (in_step (hd i d d0 hi h0).2.2 (by omega)).2.2
    have key : ∀ (i : Nat) (d d0 : Dv), l[i]? = some d → l0[i]? = some d0 → _ := fun i d d0 hi h0 => dr_in (hd i d d0 hi h0).1 (hd i d d0 hi h0).2.1 (j := j) (by omega) (hd i d d0 hi h0).2.2
    have ht : (tlD (alD l)).1 ≠ 1 := tl_none (fun r hr => by
      obtain ⟨i, hi⟩ := List.getElem?_of_mem hr
      obtain ⟨d, hdd, rfl⟩ := al_at hi
      obtain ⟨d0, h0⟩ := hp.at hdd
      rw [hb]; exact (key i d d0 hdd h0).2.2.2.2)
    obtain ⟨l', p1, p2, p3⟩ := ih (j + 1) ((alD l).map Prod.fst) (by omega) ⟨by rw [al_len, hp.len], fun i d d' hi hi' => by
        obtain ⟨d1, h1, rfl⟩ := al_fst hi'
        obtain ⟨c, rfl⟩ := hp.eq i d d1 hi h1
        rw [hb, (key i _ d h1 hi).1]
        exact ⟨_, by dsimp only; rw [show d.now + ((j + 1 : Nat) : Int) = d.now + (j : Int) + 1 by omega]⟩⟩ (fun i d d0 hi h0 => by
        obtain ⟨d1, h1, rfl⟩ := al_fst hi
        obtain ⟨k1, k2, k3, k4, _⟩ := key i d1 d0 h1 h0
        rw [hb]
        exact ⟨k3, k4, by rw [k1]; exact k2⟩)
    exact ⟨l', p1, p2, fun n => by rw [show m + 1 + n = (m + n) + 1 by omega, ru_skip ht]; exact p3 n⟩
end Go.Proofs.YtajdbimdiodalaaGreat

namespace Go.Proofs.YtajdbimdiodalaaGreat
open Go.RowKit Go.Sort
set_option linter.unusedVariables false
set_option linter.unusedSimpArgs false

/-- A driver that is idle, or between frames. -/
structure DvF (j : Nat) (d : Dv) : Prop where
  i : DvI d
  b : DvB d
  n : InN j (gvD d) d.c

/-- Behind a round, T bits after l0. -/
structure RndT (T : Nat) (l0 : List Dv) (B : Fr) (jw : Nat) (l : List Dv) : Prop where
  len : l.length = l0.length
  di : ∀ (j : Nat) (d : Dv), l[j]? = some d → DvF 0 d
  win : ∀ (d d0 : Dv), l[jw]? = some d → l0[jw]? = some d0 → d.q.ws = rmQ d0.q.wire d0.q.ws ∧ d.q.room = d0.q.room ∧ d.q.puts = d0.q.puts ∧ d.rx = d0.rx ∧ d.ov = d0.ov
  los : ∀ (j : Nat) (d d0 : Dv), j ≠ jw → l[j]? = some d → l0[j]? = some d0 → d.q = d0.q ∧ ∃ t, (d.rx, d.ov) = rxU d0 B t
  all : ∀ (j : Nat) (d d0 : Dv), l[j]? = some d → l0[j]? = some d0 → d.keep = d0.keep ∧ d.pass = d0.pass

theorem Rnd.le {l0 l : List Dv} {B : Fr} {jw : Nat} (h : Rnd l0 B jw l) : RndT 0 l0 B jw l :=
  ⟨h.len, fun j d hd => ⟨(h.di j d hd).1, (h.di j d hd).2.1, (h.di j d hd).2.2⟩, h.win, fun j d d0 hj hd h0 => ⟨(h.los j d d0 hj hd h0).1, _, (h.los j d d0 hj hd h0).2⟩, fun j d d0 hd h0 => ⟨(h.all j d d0 hd h0).1, (h.all j d d0 hd h0).2.1⟩⟩

/-- A round of idle drivers. -/
theorem round_a {l0 : List Dv} (h2 : 2 ≤ l0.length) (hd : ∀ (j : Nat) (d : Dv), l0[j]? = some d → DvF 3 d) (hu : Unlike l0) (hs : ∃ d ∈ l0, d.q.ws ≠ []) (n : Nat) (hn : 160 ≤ n) :
    ∃ (jw : Nat) (B : Fr) (dw : Dv) (l : List Dv), l0[jw]? = some dw ∧ Good B ∧ (B, dw.q.wire) ∈ dw.q.ws ∧ ruD n l0 = (l, (1, dw.q.wire, B), true) ∧ RndT 0 l0 B jw l ∧ ∀ d ∈ l0, ∀ x ∈ d.q.ws, kyG B ≤ kyQ x := by
  obtain ⟨jw, B, dw, w1, w2, w3, w4, w5, w6⟩ := winner (fun j d h => ⟨(hd j d h).i, (hd j d h).b⟩) hu hs
  have hjw : jw < l0.length := (List.getElem?_eq_some_iff.1 w1).1
  have hP := P_top w3
  obtain ⟨l, r1, r2⟩ := round_idle w3 hjw h2 w5 (fun j d h => ⟨(hd j d h).i, (hd j d h).b, (hd j d h).n⟩) (n - ((putL (boL B)).length + 10))
  have := r1 dw w1
  rw [show (putL (boL B)).length + 10 + (n - ((putL (boL B)).length + 10)) = n by omega] at this
  exact ⟨jw, B, dw, l, w1, w3, w4, this, r2.le, w6⟩

theorem pass_f {l0 l : List Dv} (hp : Pass 3 l0 l) (hi : ∀ (i : Nat) (d d0 : Dv), l[i]? = some d → l0[i]? = some d0 → DvI d ∧ DvB d ∧ InN 3 (gvD d0) d.c) : ∀ (j : Nat) (d : Dv), l[j]? = some d → DvF 3 d := fun j d h => by
  obtain ⟨d0, h0⟩ := hp.at h
  obtain ⟨a, b, c⟩ := hi j d d0 h h0
  exact ⟨a, b, by rw [in_gv c]; exact c⟩

/-- A round from between frames on. -/
theorem round_b {l0 : List Dv} (h2 : 2 ≤ l0.length) (hd : ∀ (j : Nat) (d : Dv), l0[j]? = some d → DvF 0 d) (hu : Unlike l0) (hs : ∃ d ∈ l0, d.q.ws ≠ []) (n : Nat) (hn : 163 ≤ n) :
    ∃ (jw : Nat) (B : Fr) (dw : Dv) (l : List Dv), l0[jw]? = some dw ∧ Good B ∧ (B, dw.q.wire) ∈ dw.q.ws ∧ ruD n l0 = (l, (1, dw.q.wire, B), true) ∧ RndT 3 l0 B jw l ∧ ∀ d ∈ l0, ∀ x ∈ d.q.ws, kyG B ≤ kyQ x := by
  obtain ⟨l1, p1, p2, p3⟩ := inter (l0 := l0) 3 0 l0 rfl ⟨rfl, fun j d d' h h' => by rw [h] at h'; cases h'; exact ⟨d.c, by simp⟩⟩ (fun i d d0 h h0 => by
    rw [h] at h0; cases h0
    exact ⟨(hd i d h).i, (hd i d h).b, (hd i d h).n⟩)
  have hf := pass_f p1 p2
  have hq : ∀ (j : Nat) (d d' : Dv), l0[j]? = some d → l1[j]? = some d' → d'.q = d.q ∧ d'.rx = d.rx ∧ d'.ov = d.ov ∧ d'.keep = d.keep ∧ d'.pass = d.pass := fun j d d' h h' => by
    obtain ⟨c, rfl⟩ := p1.eq j d d' h h'
    exact ⟨rfl, rfl, rfl, rfl, rfl⟩
  have to1 : ∀ (j : Nat) (d : Dv), l0[j]? = some d → ∃ d', l1[j]? = some d' := fun j d h => by
    have hj : j < l1.length := by rw [p1.len]; exact (List.getElem?_eq_some_iff.1 h).1
    exact ⟨_, List.getElem?_eq_getElem hj⟩
  obtain ⟨jw, B, dw, l, a1, a2, a3, a4, a5, a6⟩ := round_a (l0 := l1) (by rw [p1.len]; exact h2) hf (fun i j d e p x hij hi hj hp hx => by
      obtain ⟨d0, h0⟩ := p1.at hi
      obtain ⟨e0, k0⟩ := p1.at hj
      rw [(hq i d0 d h0 hi).1] at hp
      rw [(hq j e0 e k0 hj).1] at hx
      exact hu i j d0 e0 p x hij h0 k0 hp hx) (by
      obtain ⟨d, hm, hne⟩ := hs
      obtain ⟨j, hj⟩ := List.getElem?_of_mem hm
      obtain ⟨d', hj'⟩ := to1 j d hj
      exact ⟨d', List.mem_of_getElem? hj', by rw [(hq j d d' hj hj').1]; exact hne⟩) (n - 3) (by omega)
  obtain ⟨d0, h0⟩ := p1.at a1
  obtain ⟨q1, q2, q3, q4, q5⟩ := hq jw d0 dw h0 a1
  have hrun : ruD n l0 = ruD (n - 3) l1 := by
    have := p3 (n - 3)
    rw [show 3 + (n - 3) = n by omega] at this
    exact this
  refine ⟨jw, B, d0, l, h0, a2, by rw [← q1]; exact a3, by rw [hrun, a4, q1], ⟨by rw [a5.len, p1.len], a5.di, fun d e hd he => ?_, fun j d e hj hd he => ?_, fun j d e hd he => ?_⟩, fun d hm x hx => ?_⟩
  · obtain ⟨d', hd'⟩ := to1 jw e he
    obtain ⟨b1, b2, b3, b4, b5⟩ := a5.win d d' hd hd'
    obtain ⟨r1, r2, r3, r4, r5⟩ := hq jw e d' he hd'
    exact ⟨by rw [b1, r1], by rw [b2, r1], by rw [b3, r1], by rw [b4, r2], by rw [b5, r3]⟩
  · obtain ⟨d', hd'⟩ := to1 j e he
    obtain ⟨b1, t, b2⟩ := a5.los j d d' hj hd hd'
    obtain ⟨r1, r2, r3, r4, r5⟩ := hq j e d' he hd'
    refine ⟨by rw [b1, r1], t, ?_⟩
    rw [b2]
    unfold rxU
    rw [r2, r3, r4, r5]
  · obtain ⟨d', hd'⟩ := to1 j e he
    obtain ⟨b1, b2⟩ := a5.all j d d' hd hd'
    obtain ⟨r1, r2, r3, r4, r5⟩ := hq j e d' he hd'
    exact ⟨by rw [b1, r4], by rw [b2, r5]⟩
  · obtain ⟨j, hj⟩ := List.getElem?_of_mem hm
    obtain ⟨d', hj'⟩ := to1 j d hj
    exact a6 d' (List.mem_of_getElem? hj') x (by rw [(hq j d d' hj hj').1]; exact hx)

/-- Nothing waits anywhere: nothing more is sent. -/
theorem rest_a : ∀ (n : Nat) (l : List Dv), (∀ (j : Nat) (d : Dv), l[j]? = some d → DvI d ∧ DvB d ∧ InN 3 none d.c) → ∃ l', ruD n l = (l', noN, false) ∧ Pass n l l' := by
  intro n
  induction n with
  | zero => intro l _; exact ⟨l, rfl, rfl, fun j d d' h h' => by rw [h] at h'; cases h'; exact ⟨d.c, by simp⟩⟩
  | succ n ih =>
    intro l hd
    have hb : buD l = true := by
      unfold buD
      rw [List.all_eq_true]
      intro d hm
      obtain ⟨i, hi⟩ := List.getElem?_of_mem hm
      exact (in_rest (hd i d hi).2.2).2
    have key : ∀ (i : Nat) (d : Dv), l[i]? = some d → _ := fun i d hi => dr_rest (hd i d hi).1 (hd i d hi).2.1 (hd i d hi).2.2
    have ht : (tlD (alD l)).1 ≠ 1 := tl_none (fun r hr => by
      obtain ⟨i, hi⟩ := List.getElem?_of_mem hr
      obtain ⟨d, hdd, rfl⟩ := al_at hi
      rw [hb]; exact (key i d hdd).2.2.2)
    obtain ⟨l', r1, r2⟩ := ih ((alD l).map Prod.fst) (fun i d hi => by
      obtain ⟨d1, h1, rfl⟩ := al_fst hi
      obtain ⟨k1, k2, k3, _⟩ := key i d1 h1
      rw [hb]
      exact ⟨k2, k3, by rw [k1]; exact (hd i d1 h1).2.2⟩)
    refine ⟨l', by rw [ru_skip ht]; exact r1, by rw [r2.len, al_len], fun j d d' h h' => ?_⟩
    have hj : ((alD l).map Prod.fst)[j]? = some (stD d (buD l)).1 := by
      unfold alD
      rw [List.getElem?_map, List.getElem?_map, h]; rfl
    obtain ⟨c, rfl⟩ := r2.eq j _ d' hj h'
    rw [hb, (key j d h).1]
    exact ⟨c, by dsimp only; rw [show d.now + 1 + (n : Int) = d.now + ((n + 1 : Nat) : Int) by omega]⟩

/-- A driver of New's. -/
theorem newD_F (pass : Fr → Bool) (mails keep : Nat) : DvF 3 (newD pass mails keep) :=
  ⟨newD_I pass mails keep, ⟨rfl, fun e => (by cases e)⟩, ⟨c0, rfl, rfl, rfl, rfl⟩⟩

/-- Fed while it sends nothing, it has the best. -/
theorem feD_B {d : Dv} (h : DvJ d) (hs : d.c.sends = false) (ha : d.q.ab = false) {j : Nat} {g : Option Fr} (hn : InN j g d.c) : DvF j (feD d) := by
  have hI := (feD_I h).1
  have hba : (baD d).c.has = false ∧ (baD d).q = { d.q with wire := 0 } ∧ InN j none (baD d).c := by
    unfold baD
    by_cases hh : d.c.has = true
    · rw [if_pos (by rw [hh, hs]; simp)]
      refine ⟨rfl, ?_, ?_⟩
      · show loQ d.q = _
        unfold loQ
        rw [if_neg (by rw [ha]; simp)]
        simp [ha]
      · obtain ⟨A, e, a1, a2, a3⟩ := hn
        refine ⟨{ A with has := false, give := zeroFr }, ?_, a1, rfl, rfl⟩
        show ({ d.c with has := false, give := zeroFr } : Ct) = _
        rw [e]
        unfold btC; split <;> rfl
    · have hh : d.c.has = false := by simpa using hh
      rw [if_neg (by rw [hh]; simp)]
      refine ⟨hh, ?_, ?_⟩
      · have := (h.h0 hh).1
        rw [← this]
      · have hg := in_gv hn
        unfold gvD at hg
        rw [if_neg (by rw [hh]; simp)] at hg
        rw [hg]; exact hn
  obtain ⟨b1, b2, b3⟩ := hba
  have hfe : feD d = giD (baD d) := rfl
  have hgi : giD (baD d) = (match beQ (baD d).q with
    | none => baD d
    | some p => { baD d with c := { (baD d).c with has := true, give := p.1 }, q := { (baD d).q with wire := p.2 } }) := by
    unfold giD
    rw [if_neg (by rw [b1]; simp)]
    cases beQ (baD d).q <;> rfl
  rw [hfe] at hI ⊢
  rw [hgi] at hI ⊢
  cases hb : beQ (baD d).q with
  | none =>
    rw [hb] at hI
    exact ⟨hI, ⟨by show (baD d).q.ab = false; rw [b2]; exact ha, fun e => by have e : (baD d).c.has = true := e; rw [b1] at e; cases e⟩, by
      show InN j (gvD (baD d)) (baD d).c
      rw [in_gv b3]; exact b3⟩
  | some p =>
    rw [hb] at hI
    refine ⟨hI, ⟨by show (baD d).q.ab = false; rw [b2]; exact ha, fun _ => ?_⟩, in_give p.1 b3⟩
    show beQ { (baD d).q with wire := 0 } = some (p.1, p.2)
    rw [← hb, b2]

/-- A right frame is sent to a driver that is idle, or between frames. -/
theorem snD_F {d : Dv} {j : Nat} (h : DvF j d) {F : Fr} (hF : Good F) (hr : d.q.ws.length < d.q.room) : DvF j (snD d F) ∧ (snD d F).q.ws = d.q.ws ++ [(F, d.q.puts + 1)] := by
  obtain ⟨h, hb, hn⟩ := h
  have e : snD d F = feD { d with q := { d.q with ws := d.q.ws ++ [(F, d.q.puts + 1)], puts := d.q.puts + 1 } } := if_neg (by omega)
  have hs : d.c.sends = false := by
    obtain ⟨A, e, _⟩ := hn
    rw [e]
    unfold btC; split <;> rfl
  have hJ : DvJ { d with q := { d.q with ws := d.q.ws ++ [(F, d.q.puts + 1)], puts := d.q.puts + 1 } } := by
    refine ⟨h.on, fun hh => ?_, h.h0, fun p hp => ?_, ?_, ?_, h.kp⟩
    · obtain ⟨a, b⟩ := h.hw hh
      exact ⟨a, List.mem_append_left _ b⟩
    · rcases List.mem_append.1 hp with hp | hp
      · obtain ⟨a, b, c⟩ := h.no p hp
        exact ⟨a, by show p.2 ≤ d.q.puts + 1; omega, c⟩
      · rw [List.mem_singleton] at hp; subst hp
        exact ⟨by show 1 ≤ d.q.puts + 1; omega, Nat.le_refl _, hF⟩
    · show (d.q.ws ++ [(F, d.q.puts + 1)]).Pairwise _
      rw [List.pairwise_append]
      refine ⟨h.up, List.pairwise_singleton _ _, fun p hp x hx => ?_⟩
      rw [List.mem_singleton] at hx; subst hx
      have := (h.no p hp).2.1
      show p.2 < d.q.puts + 1
      omega
    · show (d.q.ws ++ [(F, d.q.puts + 1)]).length ≤ d.q.room
      rw [List.length_append, List.length_singleton]; omega
  rw [e]
  refine ⟨feD_B hJ hs hb.ab hn, ?_⟩
  have hab : ({ d with q := { d.q with ws := d.q.ws ++ [(F, d.q.puts + 1)], puts := d.q.puts + 1 } } : Dv).q.ab = false := hb.ab
  unfold feD
  rw [(giD_I (baD_J hJ).1).2.2]
  unfold baD
  split
  · show (loQ _).ws = _
    rw [loQ_ws, if_neg (by rw [hab]; simp)]
  · rfl
end Go.Proofs.YtajdbimdiodalaaGreat

namespace Go.Proofs.YtajdbimdiodalaaGreat
open Go.RowKit Go.Sort
set_option linter.unusedVariables false
set_option linter.unusedSimpArgs false

theorem rmQ_fst {B : Fr} {w : Nat} : ∀ (l : List Qw), l.Pairwise (fun p q => p.2 < q.2) → (l.map Prod.fst).Nodup → (B, w) ∈ l → (rmQ w l).map Prod.fst = (l.map Prod.fst).filter (fun F => !decide (F = B)) := by
  intro l
  induction l with
  | nil => intro _ _ h; cases h
  | cons x l ih =>
    intro hp hn hm
    rw [List.pairwise_cons] at hp
    rw [List.map_cons, List.nodup_cons] at hn
    by_cases hx : x.2 = w
    · have hxB : x = (B, w) := by
        rcases List.mem_cons.1 hm with h | h
        · exact h.symm
        · have := hp.1 _ h
          omega
      have hno : ∀ F ∈ l.map Prod.fst, (!decide (F = B)) = true := fun F hF => by
        have : F ≠ B := fun e => hn.1 (by rw [hxB]; rw [e] at hF; exact hF)
        simp [this]
      unfold rmQ
      rw [List.eraseP_cons_of_pos (by simpa using hx), List.map_cons, List.filter_cons_of_neg (by rw [hxB]; simp), List.filter_eq_self.2 hno]
    · have hml : (B, w) ∈ l := by
        rcases List.mem_cons.1 hm with h | h
        · exact absurd (by rw [← h]) hx
        · exact h
      have hxB : x.1 ≠ B := fun e => hn.1 (by rw [e]; exact List.mem_map_of_mem hml)
      have e : rmQ w (x :: l) = x :: rmQ w l := by
        unfold rmQ
        rw [List.eraseP_cons_of_neg (by simpa using hx)]
      rw [e, List.map_cons, List.map_cons, List.filter_cons_of_pos (by simp [hxB]), ih hp.2 hn.2 hml]

/-- How many wait. -/
def cnD (l : List Dv) : Nat := (l.map (fun d => d.q.ws.length)).sum
theorem sum_one : ∀ (a b : List Nat) (k : Nat), a.length = b.length → (∀ j, j ≠ k → a[j]? = b[j]?) → (∃ n, a[k]? = some n ∧ b[k]? = some (n + 1)) → a.sum + 1 = b.sum := by
  intro a
  induction a with
  | nil =>
    intro b k _ _ h
    obtain ⟨n, h, _⟩ := h
    simp at h
  | cons x a ih =>
    intro b k hl he hk
    cases b with
    | nil => simp at hl
    | cons y b =>
      cases k with
      | zero =>
        obtain ⟨n, h1, h2⟩ := hk
        simp at h1 h2
        have : a = b := List.ext_getElem? (fun j => by have := he (j + 1) (by omega); simpa using this)
        rw [this, List.sum_cons, List.sum_cons]; omega
      | succ k =>
        have h0 : x = y := by have := he 0 (by omega); simpa using this
        have := ih b k (by simpa using hl) (fun j hj => by have := he (j + 1) (by omega); simpa using this) (by
          obtain ⟨n, h1, h2⟩ := hk
          exact ⟨n, by simpa using h1, by simpa using h2⟩)
        rw [List.sum_cons, List.sum_cons]; omega

theorem sum_zero : ∀ (l : List Nat), (∀ x ∈ l, x = 0) → l.sum = 0 := by
  intro l
  induction l with
  | nil => intro _; rfl
  | cons x l ih =>
    intro h
    rw [List.sum_cons, h x (by simp), ih (fun y hy => h y (by simp [hy]))]

theorem mem_sum : ∀ (l : List Nat) (n : Nat), n ∈ l → n ≤ l.sum := by
  intro l
  induction l with
  | nil => intro n h; cases h
  | cons x l ih =>
    intro n h
    rw [List.sum_cons]
    rcases List.mem_cons.1 h with rfl | h
    · omega
    · have := ih n h; omega

/-- Frames of several: unlike in their keys. -/
structure KeyU (of : List (List Fr)) : Prop where
  nd : ∀ (j : Nat) (L : List Fr), of[j]? = some L → L.Nodup
  kn : ∀ (j : Nat) (L : List Fr) (F G : Fr), of[j]? = some L → F ∈ L → G ∈ L → F ≠ G → kyG F ≠ kyG G
  un : ∀ (i j : Nat) (L M : List Fr) (F G : Fr), i ≠ j → of[i]? = some L → of[j]? = some M → F ∈ L → G ∈ M → kyG F ≠ kyG G

/-- Drivers when some of their frames were sent. -/
structure OrdD (of : List (List Fr)) (sent : List Fr) (keep all t : Nat) (l : List Dv) : Prop where
  len : l.length = of.length
  f : ∀ (j : Nat) (d : Dv), l[j]? = some d → DvF t d ∧ d.keep = keep
  ws : ∀ (j : Nat) (d : Dv) (L : List Fr), l[j]? = some d → of[j]? = some L → d.q.ws.map Prod.fst = L.filter (fun F => !decide (F ∈ sent))
  rx : ∀ (j : Nat) (d : Dv) (L : List Fr), l[j]? = some d → of[j]? = some L → d.rx.map Prod.fst = sent.filter (fun F => !decide (F ∈ L) && d.pass F) ∧ d.ov = false
  cn : cnD l + sent.length = all
  lt : ∀ F, sent.getLast? = some F → ∀ d ∈ l, ∀ x ∈ d.q.ws, kyG F < kyQ x

section
variable {of : List (List Fr)} {sent : List Fr} {keep all t : Nat} {l : List Dv}
theorem OrdD.of_at (h : OrdD of sent keep all t l) {j : Nat} {d : Dv} (hd : l[j]? = some d) : ∃ L, of[j]? = some L := by
  have hj : j < of.length := by rw [← h.len]; exact (List.getElem?_eq_some_iff.1 hd).1
  exact ⟨_, List.getElem?_eq_getElem hj⟩
theorem OrdD.mem (h : OrdD of sent keep all t l) {j : Nat} {d : Dv} {L : List Fr} (hd : l[j]? = some d) (hL : of[j]? = some L) {p : Qw} (hp : p ∈ d.q.ws) : p.1 ∈ L ∧ p.1 ∉ sent := by
  have := List.mem_map_of_mem (f := Prod.fst) hp
  rw [h.ws j d L hd hL, List.mem_filter] at this
  exact ⟨this.1, by simpa using this.2⟩
theorem OrdD.unlike (h : OrdD of sent keep all t l) (hu : KeyU of) : Unlike l := fun i j d e p x hij hd he hp hx => by
  obtain ⟨L, hL⟩ := h.of_at hd
  obtain ⟨M, hM⟩ := h.of_at he
  exact hu.un i j L M p.1 x.1 hij hL hM (h.mem hd hL hp).1 (h.mem he hM hx).1
theorem OrdD.some_ws (h : OrdD of sent keep all t l) (hn : sent.length < all) : ∃ d ∈ l, d.q.ws ≠ [] := by
  apply Classical.byContradiction
  intro hc
  have hz : cnD l = 0 := by
    unfold cnD
    refine sum_zero _ (fun x hx => ?_)
    obtain ⟨d, hd, rfl⟩ := List.mem_map.1 hx
    have : d.q.ws = [] := Classical.byContradiction (fun k => hc ⟨d, hd, k⟩)
    rw [this]; rfl
  have := h.cn
  omega

/-- One more is sent. -/
theorem OrdD.next (h : OrdD of sent keep all t l) (hu : KeyU of) {T jw : Nat} {B : Fr} {dw : Dv} {l' : List Dv} (hw : l[jw]? = some dw) (hm : (B, dw.q.wire) ∈ dw.q.ws) (hr : RndT T l B jw l') (hle : ∀ d ∈ l, ∀ x ∈ d.q.ws, kyG B ≤ kyQ x) (hk : sent.length < keep) :
    OrdD of (sent ++ [B]) keep all 0 l' ∧ ∀ F, sent.getLast? = some F → kyG F < kyG B := by
  obtain ⟨Lw, hLw⟩ := h.of_at hw
  have hBL := h.mem hw hLw hm
  have hfe : ∀ L : List Fr, L.filter (fun F => !decide (F ∈ sent ++ [B])) = (L.filter (fun F => !decide (F ∈ sent))).filter (fun F => !decide (F = B)) := fun L => by
    rw [List.filter_filter]
    refine List.filter_congr (fun F _ => ?_)
    by_cases h1 : F ∈ sent <;> by_cases h2 : F = B <;> simp [h1, h2]
  have back : ∀ (j : Nat) (d : Dv), l'[j]? = some d → ∃ d0, l[j]? = some d0 := fun j d hd => by
    have hj : j < l.length := by rw [← hr.len]; exact (List.getElem?_eq_some_iff.1 hd).1
    exact ⟨_, List.getElem?_eq_getElem hj⟩
  have hBn : ∀ (j : Nat) (L : List Fr), j ≠ jw → of[j]? = some L → B ∉ L := fun j L hj hL hB => hu.un j jw L Lw B B hj hL hLw hB hBL.1 rfl
  have wsw : ∀ (d : Dv), l'[jw]? = some d → d.q.ws.map Prod.fst = Lw.filter (fun F => !decide (F ∈ sent ++ [B])) := fun d hd => by
    obtain ⟨b1, _⟩ := hr.win d dw hd hw
    rw [b1, rmQ_fst _ (h.f jw dw hw).1.i.up (by rw [h.ws jw dw Lw hw hLw]; exact (hu.nd jw Lw hLw).filter _) hm, h.ws jw dw Lw hw hLw, hfe]
  have wsj : ∀ (j : Nat) (d : Dv) (L : List Fr), l'[j]? = some d → of[j]? = some L → d.q.ws.map Prod.fst = L.filter (fun F => !decide (F ∈ sent ++ [B])) := fun j d L hd hL => by
    by_cases hj : j = jw
    · subst hj
      rw [hLw] at hL; cases hL
      exact wsw d hd
    · obtain ⟨d0, h0⟩ := back j d hd
      rw [(hr.los j d d0 hj hd h0).1, h.ws j d0 L h0 hL, hfe, List.filter_filter]
      refine List.filter_congr (fun F hF => ?_)
      have : F ≠ B := fun e => hBn j L hj hL (by rw [← e]; exact hF)
      simp [this]
  refine ⟨⟨by rw [hr.len, h.len], fun j d hd => ?_, wsj, fun j d L hd hL => ?_, ?_, fun F hF d hd x hx => ?_⟩, fun F hF => h.lt F hF dw (List.mem_of_getElem? hw) _ hm⟩
  · obtain ⟨d0, h0⟩ := back j d hd
    exact ⟨hr.di j d hd, by rw [(hr.all j d d0 hd h0).1]; exact (h.f j d0 h0).2⟩
  · obtain ⟨d0, h0⟩ := back j d hd
    obtain ⟨r1, r2⟩ := h.rx j d0 L h0 hL
    obtain ⟨a1, a2⟩ := hr.all j d d0 hd h0
    rw [List.filter_append, a2]
    by_cases hj : j = jw
    · subst hj
      rw [hLw] at hL; cases hL
      rw [hw] at h0; cases h0
      obtain ⟨_, _, _, b4, b5⟩ := hr.win d dw hd hw
      rw [b4, b5, r1, List.filter_cons_of_neg (by simp [hBL.1]), List.filter_nil, List.append_nil]
      exact ⟨rfl, r2⟩
    · obtain ⟨_, t, b2⟩ := hr.los j d d0 hj hd h0
      have hB := hBn j L hj hL
      have hlen : d0.rx.length ≤ sent.length := by
        have := congrArg List.length r1
        rw [List.length_map] at this
        rw [this]; exact List.length_filter_le ..
      unfold rxU at b2
      by_cases hp : d0.pass B = true
      · rw [if_pos hp, if_pos (by rw [(h.f j d0 h0).2]; omega)] at b2
        have e1 : d.rx = d0.rx ++ [(B, t)] := congrArg Prod.fst b2
        have e2 : d.ov = d0.ov := congrArg Prod.snd b2
        rw [e1, e2, List.map_append, r1, List.filter_cons_of_pos (by simp [hB, hp])]
        exact ⟨rfl, r2⟩
      · rw [if_neg hp] at b2
        have e1 : d.rx = d0.rx := congrArg Prod.fst b2
        have e2 : d.ov = d0.ov := congrArg Prod.snd b2
        rw [e1, e2, r1, List.filter_cons_of_neg (by simp [hp]), List.filter_nil, List.append_nil]
        exact ⟨rfl, r2⟩
  · have hjw : jw < l'.length := by rw [hr.len]; exact (List.getElem?_eq_some_iff.1 hw).1
    have hd := List.getElem?_eq_getElem hjw
    have hlen : l'[jw].q.ws.length + 1 = dw.q.ws.length := by
      rw [(hr.win _ dw hd hw).1]
      unfold rmQ
      rw [List.length_eraseP_of_mem hm (by simp)]
      have := List.length_pos_of_mem hm
      omega
    have := sum_one (l'.map (fun d => d.q.ws.length)) (l.map (fun d => d.q.ws.length)) jw (by rw [List.length_map, List.length_map, hr.len]) (fun j hj => by
      rw [List.getElem?_map, List.getElem?_map]
      cases e : l'[j]? with
      | none =>
        have : l[j]? = none := by
          rw [List.getElem?_eq_none_iff] at e ⊢
          rw [hr.len] at e; exact e
        rw [this]
      | some d =>
        obtain ⟨d0, h0⟩ := back j d e
        rw [h0]
        show some d.q.ws.length = some d0.q.ws.length
        rw [(hr.los j d d0 hj e h0).1]) ⟨l'[jw].q.ws.length, by rw [List.getElem?_map, hd]; rfl, by rw [List.getElem?_map, hw]; exact congrArg some hlen.symm⟩
    have hc := h.cn
    unfold cnD at hc ⊢
    rw [List.length_append, List.length_singleton]; omega
  · rw [List.getLast?_append] at hF
    simp at hF
    subst hF
    obtain ⟨j, hj⟩ := List.getElem?_of_mem hd
    obtain ⟨d0, h0⟩ := back j d hj
    obtain ⟨L, hL⟩ := h.of_at h0
    have hxm : x.1 ∈ L ∧ x.1 ≠ B := by
      have := List.mem_map_of_mem (f := Prod.fst) hx
      rw [wsj j d L hj hL, List.mem_filter] at this
      refine ⟨this.1, fun e => ?_⟩
      have h2 := this.2
      rw [e] at h2
      simp at h2
    have hx0 : x ∈ d0.q.ws := by
      by_cases hjj : j = jw
      · subst hjj
        rw [hw] at h0; cases h0
        rw [(hr.win d dw hj hw).1] at hx
        exact (rmQ_sub _ _).mem hx
      · rw [(hr.los j d d0 hjj hj h0).1] at hx
        exact hx
    have h1 := hle d0 (List.mem_of_getElem? h0) x hx0
    have h2 : kyG B ≠ kyQ x := by
      by_cases hjj : j = jw
      · subst hjj
        have hLL : L = Lw := Option.some.inj (hL.symm.trans hLw)
        exact fun e => hu.kn j L x.1 B hL hxm.1 (by rw [hLL]; exact hBL.1) hxm.2 e.symm
      · exact hu.un jw j Lw L B x.1 (fun k => hjj k.symm) hLw hL hBL.1 hxm.1
    omega

/-- A run of 400 steps ends with the next one sent. -/
theorem OrdD.step (h : OrdD of sent keep all t l) (ht : t = 0 ∨ t = 3) (hu : KeyU of) (h2 : 2 ≤ of.length) (hn : sent.length < all) (hk : all ≤ keep) :
    ∃ (N : Nat) (B : Fr) (l' : List Dv), ruD 400 l = (l', (1, N, B), true) ∧ OrdD of (sent ++ [B]) keep all 0 l' ∧ (∀ F, sent.getLast? = some F → kyG F < kyG B) ∧ ∃ (j : Nat) (L : List Fr), of[j]? = some L ∧ B ∈ L := by
  have hl2 : 2 ≤ l.length := by rw [h.len]; exact h2
  rcases ht with rfl | rfl
  · obtain ⟨jw, B, dw, l', w1, w2, w3, w4, w5, w6⟩ := round_b hl2 (fun j d hd => (h.f j d hd).1) (h.unlike hu) (h.some_ws hn) 400 (by omega)
    obtain ⟨o1, o2⟩ := h.next hu w1 w3 w5 w6 (by omega)
    obtain ⟨Lw, hLw⟩ := h.of_at w1
    exact ⟨_, B, l', w4, o1, o2, jw, Lw, hLw, (h.mem w1 hLw w3).1⟩
  · obtain ⟨jw, B, dw, l', w1, w2, w3, w4, w5, w6⟩ := round_a hl2 (fun j d hd => (h.f j d hd).1) (h.unlike hu) (h.some_ws hn) 400 (by omega)
    obtain ⟨o1, o2⟩ := h.next hu w1 w3 w5 w6 (by omega)
    obtain ⟨Lw, hLw⟩ := h.of_at w1
    exact ⟨_, B, l', w4, o1, o2, jw, Lw, hLw, (h.mem w1 hLw w3).1⟩

/-- When all are sent, nothing more is. -/
theorem OrdD.rest (h : OrdD of sent keep all t l) (ht : t = 0 ∨ t = 3) (hn : sent.length = all) {n : Nat} (h3 : 3 ≤ n) : ∃ l' T, ruD n l = (l', noN, false) ∧ Pass T l l' := by
  have hz : ∀ (j : Nat) (d : Dv), l[j]? = some d → d.q.ws = [] ∧ gvD d = none := fun j d hd => by
    have hw : d.q.ws = [] := by
      have h0 : cnD l = 0 := by have := h.cn; omega
      have hm : d.q.ws.length ∈ l.map (fun d => d.q.ws.length) := List.mem_map_of_mem (List.mem_of_getElem? hd)
      have : d.q.ws.length ≤ cnD l := by
        unfold cnD
        exact mem_sum _ _ hm
      exact List.length_eq_zero_iff.1 (by omega)
    refine ⟨hw, ?_⟩
    rcases gv_best (h.f j d hd).1.i (h.f j d hd).1.b with ⟨e, _⟩ | ⟨F, _, _, e, _⟩
    · exact e
    · rw [hw] at e; cases e
  rcases ht with rfl | rfl
  · obtain ⟨l1, p1, p2, p3⟩ := inter (l0 := l) 3 0 l rfl ⟨rfl, fun j d d' h h' => by rw [h] at h'; cases h'; exact ⟨d.c, by simp⟩⟩ (fun i d d0 hi h0 => by
      rw [hi] at h0; cases h0
      exact ⟨(h.f i d hi).1.i, (h.f i d hi).1.b, (h.f i d hi).1.n⟩)
    obtain ⟨l2, r1, r2⟩ := rest_a (n - 3) l1 (fun j d hd => by
      obtain ⟨d0, h0⟩ := p1.at hd
      obtain ⟨a, b, c⟩ := p2 j d d0 hd h0
      rw [(hz j d0 h0).2] at c
      exact ⟨a, b, c⟩)
    have := p3 (n - 3)
    rw [show 3 + (n - 3) = n by omega] at this
    refine ⟨l2, 3 + (n - 3), by rw [this, r1], ⟨by rw [r2.len, p1.len], fun j d d' hd hd' => ?_⟩⟩
    obtain ⟨d1, h1⟩ := r2.at hd'
    obtain ⟨c1, rfl⟩ := p1.eq j d d1 hd h1
    obtain ⟨c2, rfl⟩ := r2.eq j _ d' h1 hd'
    exact ⟨c2, by dsimp only; rw [show d.now + ((3 : Nat) : Int) + ((n - 3 : Nat) : Int) = d.now + ((3 + (n - 3) : Nat) : Int) by omega]⟩
  · obtain ⟨l2, r1, r2⟩ := rest_a n l (fun j d hd => by
      have := (h.f j d hd).1.n
      rw [(hz j d hd).2] at this
      exact ⟨(h.f j d hd).1.i, (h.f j d hd).1.b, this⟩)
    exact ⟨l2, n, r1, r2⟩

/-- At the start. -/
theorem OrdD.start (hl : l.length = of.length) (hf : ∀ (j : Nat) (d : Dv), l[j]? = some d → DvF 3 d ∧ d.keep = keep ∧ d.rx = [] ∧ d.ov = false)
    (hw : ∀ (j : Nat) (d : Dv) (L : List Fr), l[j]? = some d → of[j]? = some L → d.q.ws.map Prod.fst = L) : OrdD of [] keep (cnD l) 3 l :=
  ⟨hl, fun j d hd => ⟨(hf j d hd).1, (hf j d hd).2.1⟩, fun j d L hd hL => by rw [hw j d L hd hL]; exact (List.filter_eq_self.2 (fun F _ => by simp)).symm,
    fun j d L hd hL => by rw [(hf j d hd).2.2.1]; exact ⟨rfl, (hf j d hd).2.2.2⟩, rfl, fun F hF => by cases hF⟩
end
end Go.Proofs.YtajdbimdiodalaaGreat

namespace Go.Proofs.YtajdbimdiodalaaGreat
open Go.RowKit Go.Sort
set_option linter.unusedVariables false
set_option linter.unusedSimpArgs false

/-- What is read, and the flag, are no part of what a driver stands for. -/
theorem DvF.fifo {d : Dv} {t : Nat} (h : DvF t d) {rx : List (Fr × Int)} (hl : rx.length ≤ d.keep) (ov : Bool) : DvF t { d with rx := rx, ov := ov } :=
  ⟨⟨⟨h.i.on, h.i.hw, h.i.h0, h.i.no, h.i.up, h.i.rm, hl⟩, h.i.fed⟩, ⟨h.b.ab, h.b.be⟩, h.n⟩
end Go.Proofs.YtajdbimdiodalaaGreat

namespace Go.Proofs.YtajdbimdiodalaaGreat
open Go.RowKit Go.Maps Go.Sort
set_option linter.unusedVariables false

theorem lawU : Keyed Tryz.prog 32 := int_keyed Tryz.underlying32
theorem wfU (x : Nat) (h : x < 4294967296) : (Lit.int .u32 (x : Int)).wf = true := by
  simp [Lit.wf, IntKind.min, IntKind.max, IntKind.signed, IntKind.bits]; omega
abbrev MU (w : World) (b n : Nat) (D : DataW Unit) : Prop := w.ownsMap Tryz.prog 32 (plainElem Tryz.prog 3) b n D
/-- The map reads 0 at just those keys that are not among ts. -/
def HitU (D : DataW Unit) (ts : List Nat) : Prop :=
  IsMap D ∧ ∀ t : Nat, ∃ c : Int, D.atKey (.int .u32 (t : Int)) (.lit (.int .i64 0)) = .lit (.int .i64 c) ∧ 0 ≤ c ∧ c ≤ ts.length ∧ (c = 0 ↔ t ∉ ts)
theorem hitU_made : HitU (.map []) [] := ⟨isMap_empty, fun t => ⟨0, rfl, by omega, by simp, by simp⟩⟩
theorem hitU_put {D : DataW Unit} {ts : List Nat} {t : Nat} {c : Int} (h : HitU D ts) (hc : D.atKey (.int .u32 (t : Int)) (.lit (.int .i64 0)) = .lit (.int .i64 c)) : HitU (D.put (.int .u32 (t : Int)) (.lit (.int .i64 (c + 1)))) (ts ++ [t]) := by
  refine ⟨h.1.put _ _, fun u => ?_⟩
  by_cases e : u = t
  · subst e
    obtain ⟨c', h1, h2, h3, h4⟩ := h.2 u
    rw [hc] at h1
    obtain rfl : c = c' := by simpa using h1
    refine ⟨c + 1, atKey_put_same h.1 (show WideAt.IsKeyLit (.int .u32 (u : Int)) by simp [WideAt.IsKeyLit]) _ _, by omega, by simp; omega, by simp; omega⟩
  · obtain ⟨c', h1, h2, h3, h4⟩ := h.2 u
    have hne : (Lit.int .u32 (u : Int)) ≠ (Lit.int .u32 (t : Int)) := fun e' => by
      injection e' with _ e2
      exact e (by omega)
    refine ⟨c', by rw [atKey_put_other hne]; exact h1, h2, by simp; omega, by rw [h4]; simp [e]⟩
section
variable {w w1 : World} {b n : Nat} {D : DataW Unit} {S : Nat → Prop}
theorem MU.at (h : MU w b n D) (k : w1.heap[b]? = w.heap[b]?) : MU w1 b n D := by
  obtain ⟨es, clock, hb, F, hs, hD⟩ := h
  exact ⟨es, clock, k.trans hb, F, hs, hD⟩
theorem MU.below (h : MU w b n D) (k : Below w.heap.size w w1) : MU w1 b n D := h.at (k.block b h.lt)
theorem mu_look (h : MU w b n D) {t : Nat} {c : Int} (hat : D.atKey (.int .u32 (t : Int)) (.lit (.int .i64 0)) = .lit (.int .i64 c)) (hwf : (Lit.int .u32 (t : Int)).wf = true) :
    (Instr.lookup 77 (.map (some b)) (.int .u32 (t : Int)) false).run Tryz.prog w = .ok (.int .i64 c) w := by
  obtain ⟨c', hrun, hat', _⟩ := World.ownsMap.lookup_int h lawU Tryz.underlying77 Tryz.underlying3 (zeroI _) (keyOf_int_mk Tryz.underlying32 hwf)
  rw [hat] at hat'
  obtain rfl : c = c' := by simpa using hat'
  exact hrun
end
end Go.Proofs.YtajdbimdiodalaaGreat

namespace Go.Proofs.YtajdbimdiodalaaGreat
open Go.RowKit Go.Sort Go.Maps
set_option linter.unusedVariables false

abbrev kyP (p : Ff) : Nat := kyG p.1

/-- What was taken, of the first k frames. -/
structure OthI (fs : List Ff) (k : Nat) (ks : List Nat) (Ls : List (List Ff)) : Prop where
  sub : ∀ L ∈ Ls, ∀ p ∈ L, p ∈ fs
  good : ∀ L ∈ Ls, ∀ p ∈ L, Good p.1
  key : ∀ L ∈ Ls, ∀ p ∈ L, kyP p ∈ ks
  nd : ∀ L ∈ Ls, (L.map kyP).Nodup
  un : ∀ (i j : Nat) (L M : List Ff), i ≠ j → Ls[i]? = some L → Ls[j]? = some M → ∀ p ∈ L, ∀ q ∈ M, kyP p ≠ kyP q
  sum : (Ls.map List.length).sum ≤ k

theorem OthI.new (fs : List Ff) (m : Nat) : OthI fs 0 [] (List.replicate m []) := by
  have h0 : ∀ L ∈ List.replicate m ([] : List Ff), L = [] := fun L hL => (List.mem_replicate.1 hL).2
  refine ⟨fun L hL p hp => ?_, fun L hL p hp => ?_, fun L hL p hp => ?_, fun L hL => ?_, fun i j L M _ hL _ p hp => ?_, ?_⟩
  · rw [h0 L hL] at hp; cases hp
  · rw [h0 L hL] at hp; cases hp
  · rw [h0 L hL] at hp; cases hp
  · rw [h0 L hL]; exact List.nodup_nil
  · rw [h0 L (List.mem_of_getElem? hL)] at hp; cases hp
  · rw [sum_zero _ (fun x hx => by
      obtain ⟨L, hL, rfl⟩ := List.mem_map.1 hx
      rw [h0 L hL]; rfl)]
    exact Nat.zero_le _
theorem OthI.skip {fs : List Ff} {k : Nat} {ks : List Nat} {Ls : List (List Ff)} (h : OthI fs k ks Ls) : OthI fs (k + 1) ks Ls := ⟨h.sub, h.good, h.key, h.nd, h.un, Nat.le_succ_of_le h.sum⟩
theorem OthI.put {fs : List Ff} {k : Nat} {ks : List Nat} {Ls : List (List Ff)} (h : OthI fs k ks Ls) {j : Nat} {L : List Ff} {p : Ff} (hj : Ls[j]? = some L) (hp : p ∈ fs) (hg : Good p.1) (hk : kyP p ∉ ks) : OthI fs (k + 1) (ks ++ [kyP p]) (Ls.set j (L ++ [p])) := by
  have hjl : j < Ls.length := (List.getElem?_eq_some_iff.1 hj).1
  have hLm := List.mem_of_getElem? hj
  have hmem : ∀ M ∈ Ls.set j (L ++ [p]), M ∈ Ls ∨ M = L ++ [p] := fun M hM => List.mem_or_eq_of_mem_set hM
  have hone : ∀ M ∈ Ls.set j (L ++ [p]), ∀ q ∈ M, (∃ M' ∈ Ls, q ∈ M') ∨ q = p := fun M hM q hq => by
    rcases hmem M hM with h1 | rfl
    · exact .inl ⟨M, h1, hq⟩
    · rcases List.mem_append.1 hq with h1 | h1
      · exact .inl ⟨L, hLm, h1⟩
      · exact .inr (List.mem_singleton.1 h1)
  refine ⟨fun M hM q hq => ?_, fun M hM q hq => ?_, fun M hM q hq => ?_, fun M hM => ?_, fun a b M N hab hM hN q hq r hr => ?_, ?_⟩
  · rcases hone M hM q hq with ⟨M', h1, h2⟩ | rfl
    · exact h.sub M' h1 q h2
    · exact hp
  · rcases hone M hM q hq with ⟨M', h1, h2⟩ | rfl
    · exact h.good M' h1 q h2
    · exact hg
  · rcases hone M hM q hq with ⟨M', h1, h2⟩ | rfl
    · exact List.mem_append_left _ (h.key M' h1 q h2)
    · simp
  · rcases hmem M hM with h1 | rfl
    · exact h.nd M h1
    · rw [List.map_append, List.nodup_append]
      exact ⟨h.nd L hLm, by simp, fun x hx y hy e => hk (by
        simp at hy; subst hy; subst e
        obtain ⟨q, hq, e⟩ := List.mem_map.1 hx
        rw [← e]; exact h.key L hLm q hq)⟩
  · have hnew : ∀ (c : Nat) (M : List Ff), c ≠ j → Ls[c]? = some M → ∀ q ∈ M, ∀ r ∈ L ++ [p], kyP q ≠ kyP r := fun c M hc hM0 q hq r hr => by
      rcases List.mem_append.1 hr with h1 | h1
      · exact h.un c j M L hc hM0 hj q hq r h1
      · rw [List.mem_singleton] at h1
        rw [h1]
        exact fun e => hk (by rw [← e]; exact h.key M (List.mem_of_getElem? hM0) q hq)
    rw [List.getElem?_set] at hM hN
    by_cases h1 : j = a
    · rw [if_pos h1, if_pos (by omega)] at hM
      rw [if_neg (by omega)] at hN
      cases hM
      exact fun e => hnew b N (by omega) hN r hr q hq e.symm
    · rw [if_neg h1] at hM
      by_cases h2 : j = b
      · rw [if_pos h2, if_pos (by omega)] at hN
        cases hN
        exact hnew a M (by omega) hM q hq r hr
      · rw [if_neg h2] at hN
        exact h.un a b M N hab hM hN q hq r hr
  · have := sum_one (Ls.map List.length) ((Ls.set j (L ++ [p])).map List.length) j (by simp) (fun i hi => by
      rw [List.getElem?_map, List.getElem?_map, List.getElem?_set, if_neg (fun e => hi e.symm)]) ⟨L.length, by rw [List.getElem?_map, hj]; rfl, by rw [List.getElem?_map, List.getElem?_set, if_pos rfl, if_pos hjl]; simp⟩
    have := h.sum
    omega

theorem inj_map {α β : Type} {f : α → β} {l : List α} (h : (l.map f).Nodup) {x y : α} (hx : x ∈ l) (hy : y ∈ l) (e : f x = f y) : x = y := by
  induction l with
  | nil => cases hx
  | cons z l ih =>
    rw [List.map_cons, List.nodup_cons] at h
    rcases List.mem_cons.1 hx with e1 | h1 <;> rcases List.mem_cons.1 hy with e2 | h2
    · rw [e1, e2]
    · exact absurd (List.mem_map.2 ⟨y, h2, by rw [← e, e1]⟩) h.1
    · exact absurd (List.mem_map.2 ⟨x, h1, by rw [e, e2]⟩) h.1
    · exact ih h.2 h1 h2
/-- The frames alone. -/
def frsL (Ls : List (List Ff)) : List (List Fr) := Ls.map (fun L => L.map Prod.fst)
theorem OthI.keyU {fs : List Ff} {k : Nat} {ks : List Nat} {Ls : List (List Ff)} (h : OthI fs k ks Ls) : KeyU (frsL Ls) := by
  have at' : ∀ (j : Nat) (M : List Fr), (frsL Ls)[j]? = some M → ∃ L, Ls[j]? = some L ∧ M = L.map Prod.fst := fun j M hM => by
    unfold frsL at hM
    rw [List.getElem?_map] at hM
    cases e : Ls[j]? with
    | none => rw [e] at hM; cases hM
    | some L => rw [e] at hM; cases hM; exact ⟨L, rfl, rfl⟩
  have hnd : ∀ L ∈ Ls, ((L.map Prod.fst).map kyG).Nodup := fun L hL => by rw [List.map_map]; exact h.nd L hL
  refine ⟨fun j M hM => ?_, fun j M F G hM hF hG hne e => ?_, fun i j M N F G hij hM hN hF hG => ?_⟩
  · obtain ⟨L, hL, rfl⟩ := at' j M hM
    exact (List.pairwise_map.1 (hnd L (List.mem_of_getElem? hL))).imp fun hne e => hne (congrArg kyG e)
  · obtain ⟨L, hL, rfl⟩ := at' j M hM
    exact hne (inj_map (hnd L (List.mem_of_getElem? hL)) hF hG e)
  · obtain ⟨L, hL, rfl⟩ := at' i M hM
    obtain ⟨L2, hL2, rfl⟩ := at' j N hN
    obtain ⟨p, hp, rfl⟩ := List.mem_map.1 hF
    obtain ⟨q, hq, rfl⟩ := List.mem_map.1 hG
    exact h.un i j L L2 hij hL hL2 p hp q hq
end Go.Proofs.YtajdbimdiodalaaGreat

namespace Go.Proofs.YtajdbimdiodalaaGreat
open Go.RowKit Go.Sort Go.Maps
set_option linter.unusedVariables false

theorem elG : ElT Tryz.prog 63 62 (.slice none 0 0) 24 := ⟨by kernel_rfl, by kernel_rfl, by kernel_rfl, by kernel_rfl, by kernel_rfl⟩
/-- A row of frames where it lies. -/
abbrev Qr := (Option Addr × Nat) × List Ff
abbrev slV (q : Qr) : Value := .slice q.1.1 q.2.length q.1.2
abbrev lsQ (qs : List Qr) : List (List Ff) := qs.map Prod.snd

/-- Rows of frames of the call's own, side by side. -/
structure OtW (w : World) (ob mb m : Nat) (qs : List Qr) : Prop where
  row : OL slV 62 ob w (some ⟨ob, 0, none⟩) m m qs
  q : ∀ q ∈ qs, OK enF 5 35 (mb + 1) w q.1.1 q.2.length q.1.2 q.2
  ap : ∀ (i j : Nat) (p q : Qr), i ≠ j → qs[i]? = some p → qs[j]? = some q → ∀ x y, p.1.1 = some x → q.1.1 = some y → x.block ≠ y.block

section
variable {w w1 : World} {ob mb m : Nat} {qs : List Qr}
theorem OtW.below (h : OtW w ob mb m qs) (g : Below w.heap.size w w1) : OtW w1 ob mb m qs := ⟨h.row.below g, fun q hq => (h.q q hq).below g, h.ap⟩
theorem OtW.lt (h : OtW w ob mb m qs) (hm : 0 < m) : ob < w.heap.size := (h.row.ltB rfl).1
theorem OtW.kept (h : OtW w ob mb m qs) (hob : w1.heap[ob]? = w.heap[ob]?) (hk : ∀ b, mb < b → b < w.heap.size → w1.heap[b]? = w.heap[b]?) : OtW w1 ob mb m qs :=
  ⟨h.row.kept fun g e => by cases e; exact hob, fun q hq => (h.q q hq).kept fun g e => hk g (by have := ((h.q q hq).ltB e).2; show mb < g; exact this) ((h.q q hq).ltB e).1, h.ap⟩
/-- One more frame, in one of them. -/
theorem OtW.app (h : OtW w ob mb m qs) (hom : ob < mb) {j : Nat} {q : Qr} (hj : qs[j]? = some q) {a7 : Option Addr} {c7 : Nat} {f : Ff} (o7 : OK enF 5 35 (mb + 1) w1 a7 (q.2.length + 1) c7 (q.2 ++ [f]))
    (k7 : ∀ b, b < w.heap.size → NB q.1.1 b → w1.heap[b]? = w.heap[b]? ∧ NB a7 b) (hlt : ob < w.heap.size) :
    OtW (w1.setCell ⟨ob, j, none⟩ (.slice a7 (q.2.length + 1) c7)) ob mb m (qs.set j ((a7, c7), q.2 ++ [f])) := by
  have hjl : j < qs.length := (List.getElem?_eq_some_iff.1 hj).1
  have hqm := List.mem_of_getElem? hj
  have hqb : NB q.1.1 ob := fun x hx => by have := ((h.q q hqm).ltB hx).2; omega
  have hrow : OL slV 62 ob w1 (some ⟨ob, 0, none⟩) m m qs := h.row.kept fun g e => by cases e; exact (k7 ob hlt hqb).1
  have e7 : slV ((a7, c7), q.2 ++ [f]) = .slice a7 (q.2.length + 1) c7 := by simp
  have old : ∀ (i : Nat) (p : Qr), i ≠ j → qs[i]? = some p → ∀ x, p.1.1 = some x → NB q.1.1 x.block ∧ x.block < w.heap.size ∧ mb < x.block := fun i p hi hp x hx =>
    ⟨fun y hy => fun e => h.ap i j p q hi hp hj x y hx hy e.symm, ((h.q p (List.mem_of_getElem? hp)).ltB hx).1, ((h.q p (List.mem_of_getElem? hp)).ltB hx).2⟩
  refine ⟨by rw [← e7]; exact hrow.set ((a7, c7), q.2 ++ [f]), fun p hp => ?_, fun a b p r hab hp hr x y hx hy => ?_⟩
  · have hold : ∀ p : Qr, OK enF 5 35 (mb + 1) w1 p.1.1 p.2.length p.1.2 p.2 → OK enF 5 35 (mb + 1) (w1.setCell ⟨ob, j, none⟩ (.slice a7 (q.2.length + 1) c7)) p.1.1 p.2.length p.1.2 p.2 := fun p h => h.kept fun g e => Below.heap_setCell _ _ _ _ (by have := (h.ltB e).2; show g ≠ ob; dsimp only at this; omega)
    obtain ⟨i, hi⟩ := List.getElem?_of_mem hp
    rw [List.getElem?_set] at hi
    by_cases hij : j = i
    · rw [if_pos hij, if_pos (by omega)] at hi
      cases hi
      refine hold ((a7, c7), q.2 ++ [f]) ?_
      rw [List.length_append, List.length_singleton]
      exact o7
    · rw [if_neg hij] at hi
      refine hold p ((h.q p (List.mem_of_getElem? hi)).kept fun g e => ?_)
      obtain ⟨n1, n2, _⟩ := old i p (fun e => hij e.symm) hi _ e
      exact (k7 g n2 n1).1
  · rw [List.getElem?_set] at hp hr
    by_cases h1 : j = a
    · rw [if_pos h1, if_pos (by omega)] at hp
      rw [if_neg (by omega)] at hr
      cases hp
      obtain ⟨n1, n2, _⟩ := old b r (by omega) hr y hy
      exact (k7 y.block n2 n1).2 x hx
    · rw [if_neg h1] at hp
      by_cases h2 : j = b
      · rw [if_pos h2, if_pos (by omega)] at hr
        cases hr
        obtain ⟨n1, n2, _⟩ := old a p (by omega) hp x hx
        exact fun e => (k7 x.block n2 n1).2 y hy e.symm
      · rw [if_neg h2] at hr
        exact h.ap a b p r hab hp hr x y hx hy
end

/-- Rows of frames, read. -/
structure OtD (w : World) (ob m : Nat) (qs : List Qr) : Prop where
  row : RL slV w (some ⟨ob, 0, none⟩) m m qs
  q : ∀ q ∈ qs, RK enF 5 w q.1.1 q.2.length q.1.2 q.2
theorem OtW.d {w : World} {ob mb m : Nat} {qs : List Qr} (h : OtW w ob mb m qs) : OtD w ob m qs := ⟨h.row.rl, fun q hq => (h.q q hq).rk enF_k⟩
theorem OtD.below {w w1 : World} {ob m : Nat} {qs : List Qr} (h : OtD w ob m qs) (g : Below w.heap.size w w1) : OtD w1 ob m qs := ⟨h.row.below g, fun q hq => (h.q q hq).below g⟩

/-- What 'others' answers. -/
def OthR (w : World) (fs : List Ff) (n m : Nat) (e : Ending) (w' : World) : Prop := ∃ ob qs ks, e = .returned (.slice (some ⟨ob, 0, none⟩) m m) ∧ OtD w' ob m qs ∧ OthI fs n ks (lsQ qs) ∧ Below w.heap.size w w'

set_option maxRecDepth 100000 in
set_option maxHeartbeats 16000000 in
theorem others14_any (w : World) (a : Option Addr) (n c : Nat) (fs : List Ff) (hr : RK enF 5 w a n c fs) (hi : ∀ p ∈ fs, p.1.id < 4294967296) (hdl : ∀ p ∈ fs, p.1.dlc < 256) (hn : n ≤ 30) (m : Nat) (hm : 1 ≤ m) (hm4 : m ≤ 4) :
    Calls Tryz.prog 20 #[.slice a n c, .int .i64 (m : Int)] w (OthR w fs n m) := by
  have hmm := @run_makeMap Tryz.prog
  obtain ⟨ob, hob⟩ : ∃ ob, ob = w.heap.size := ⟨_, rfl⟩
  have HM := hid hm
  go_enter Tryz.func20, Tryz.ntmps20
  go_wp2_with (refine wpList_mk (f := slV) (n := m) elG (((none, 0), []) : Qr) rfl rfl _ _ rfl _ _ .i64 .i64 rfl rfl rfl rfl (by omega) (by omega) ?_; intro w1 o1 g1 z1)
  rw [← hob] at o1
  have hob1 : ob < w1.heap.size := by omega
  have W1 : OtW (w1.alloc (.map #[] 0)) ob w1.heap.size m (List.replicate m ((none, 0), [])) := by
    refine ⟨o1.alloc _, fun q hq => ?_, fun i j p q _ hp _ x y hx => ?_⟩
    · obtain rfl := (List.mem_replicate.1 hq).2
      exact OK.nil _ _ _ _ _
    · obtain rfl := (List.mem_replicate.1 (List.mem_of_getElem? hp)).2
      cases hx
  have M1 : MU (w1.alloc (.map #[] 0)) w1.heap.size 0 (.map []) := World.ownsMap_made w1 Tryz.prog 32 (plainElem Tryz.prog 3)
  have gg1 : Below w.heap.size w (w1.alloc (.map #[] 0)) := bnew g1 _
  have I1 : OthI fs 0 [] (lsQ (List.replicate m ((none, 0), []))) := by
    have := OthI.new fs m
    rwa [show lsQ (List.replicate m ((none, 0), [])) = List.replicate m [] by unfold lsQ; rw [List.map_replicate]]
  have L1 : (List.replicate m (((none, 0), []) : Qr)).length = m := List.length_replicate
  generalize List.replicate m (((none, 0), []) : Qr) = qs0 at *
  rw [z1, ← hob] at W1 M1
  generalize w1.alloc (.map #[] 0) = w2 at *
  clear o1 g1 z1 hmm hob1
  rw [← hob]
  have HOB := hid hob
  have HI := hid I1
  clear hob I1
  obtain ⟨mb, hmb⟩ : ∃ mb, mb = ob + 1 := ⟨_, rfl⟩
  rw [← hmb] at W1 M1 ⊢
  have HMB : Hid (ob < mb) := hid (by omega)
  clear hmb
  go_loopg [15] n (fun gn s15 wr => ∃ (k : Nat) (ks : List Nat) (qs : List Qr) (D : DataW Unit) (nD : Nat), k ≤ n ∧ gn = n - k ∧ s15 = .int .i64 (k : Int) ∧ OtW wr ob mb m qs ∧ qs.length = m ∧ Hid (OthI fs k ks (lsQ qs)) ∧ MU wr mb nD D ∧ HitU D ks ∧ nD ≤ k ∧ Below w.heap.size w wr)
  case atStart => exact ⟨0, [], qs0, _, 0, by omega, by omega, rfl, W1, L1, HI, M1, hitU_made, Nat.le_refl _, gg1⟩
  case round =>
    obtain ⟨k, ks, qs, D, nD, hk, rfl, rfl, W, HQ, HI, hM, hD, hnD, gg⟩ := hrel
    clear W1 M1 gg1 L1
    by_cases hlt : k < n
    · obtain ⟨p, hp⟩ : ∃ p, fs[k]? = some p := ⟨_, List.getElem?_eq_getElem (by rw [hr.len]; exact hlt)⟩
      have hpm : p ∈ fs := List.mem_of_getElem? hp
      obtain ⟨gb, off, rfl, hgb, hrg⟩ := (hr.below gg).range hp
      have hid' := hi p hpm
      have hdl' := hdl p hpm
      have b2 := heap_alloc_new wr (.cells frZr 35)
      have k2 : Below wr.heap.size wr ((wr.alloc (.cells frZr 35)).setRow wr.heap.size (frV p.1 p.2.1 p.2.2)) := below_setRow (bnew0 wr _) (Nat.le_refl _) _
      have b3 : ((wr.alloc (.cells frZr 35)).setRow wr.heap.size (frV p.1 p.2.1 p.2.2)).heap[wr.heap.size]? = some (.cells (frV p.1 p.2.1 p.2.2) 35 (0, 0)) := setRow_heap _ _ _ _ _ _ b2
      have cK : ∀ w', Calls Tryz.prog 24 #[.agg (frV p.1 p.2.1 p.2.2)] w' fun e w'' => e = .returned (.int .u32 (kyP p : Int)) ∧ Below w'.heap.size w' w'' := fun w' => key_any w' _ _ _ _ _ _ _ hid'
      have hRi := fun w' => frRight_any w' p.1.id p.1.ext p.1.rem p.1.dlc p.2.1 p.1.data.length p.2.2 hid' hdl'
      have hky : kyP p < 4294967296 := key_lt _ _ _
      have hwf := wfU (kyP p) hky
      obtain ⟨cv, hat, hc0, hc1, hc2⟩ := hD.2 (kyP p)
      have HAT := hid hat; clear hat
      have HD := hid hD
      have HPM := hid hpm
      clear hD hp hpm
      cases hri : riF p.1.id p.1.ext p.1.rem p.1.dlc p.1.data.length
      · rw [hri] at hRi
        clear hri hc2
        go_wp2_with (first
          | (with_reducible refine wpList_loadM rowF rfl _ rfl _ _ rfl (frV p.1 p.2.1 p.2.2) hrg rfl ?_)
          | (with_reducible refine wpList_storeR rowF rfl _ _ rfl _ _ rfl rfl b2 rfl rfl (fr_ones _ _ _) ?_)
          | (with_reducible refine wpList_loadR rowF rfl _ rfl _ rfl b3 rfl ?_)
          | (go_at_call 24; (with_reducible refine (cK _).mono ?_); rintro e w3 ⟨rfl, g3⟩; have b33 := bx_below b3 g3)
          | (with_reducible refine wpList_loadR rowF rfl _ rfl _ rfl b33 rfl ?_)
          | (go_at_call 53; (with_reducible refine (hRi _).mono ?_); rintro e w4 ⟨rfl, g4⟩))
        have k4 := bstep (bstep k2 g3) g4
        go_roundg (n - (k + 1))
        case measure => omega
        case rel => exact ⟨k + 1, ks, qs, D, nD, by omega, rfl, by go_num, W.below k4, HQ, hid HI.out.skip, hM.below k4, HD.out, by omega, bstep gg k4⟩
      · rw [hri] at hRi
        have HRI := hid hri
        clear hri
        by_cases hcz : cv = 0
        · subst hcz
          have HNI := hid (hc2.1 rfl)
          have hmx : nD < maxLen := Nat.lt_of_le_of_lt (by omega : nD ≤ 30) (by decide)
          clear hc2
          go_upto_region 9 with (first
            | (with_reducible refine wpList_loadM rowF rfl _ rfl _ _ rfl (frV p.1 p.2.1 p.2.2) hrg rfl ?_)
            | (with_reducible refine wpList_storeR rowF rfl _ _ rfl _ _ rfl rfl b2 rfl rfl (fr_ones _ _ _) ?_)
            | (with_reducible refine wpList_loadR rowF rfl _ rfl _ rfl b3 rfl ?_)
            | (go_at_call 24; (with_reducible refine (cK _).mono ?_); rintro e w3 ⟨rfl, g3⟩; have b33 := bx_below b3 g3)
            | (with_reducible refine wpList_loadR rowF rfl _ rfl _ rfl b33 rfl ?_)
            | (go_at_call 53; (with_reducible refine (hRi _).mono ?_); rintro e w4 ⟨rfl, g4⟩
               have k4 := bstep (bstep k2 g3) g4
               have b44 := bx_below b33 g4
               have hM4 := hM.below k4
               have hl4 := mu_look hM4 HAT.out hwf)
            | (at_mapUpdate; refine wpList_mapUpdate_own _ rfl _ _ _ 77 rfl 32 3 lawU Tryz.underlying77 _ mb nD D rfl hM4 hmx _ (.int .i64 (0 + 1)) (.int .u32 (kyP p : Int)) rfl rfl (keyOf_int_mk Tryz.underlying32 hwf) (.lit (.int .i64 (0 + 1))) [] (plainElem_int Tryz.underlying3 (wf64 _ (by omega) (by omega))) ?_; intro w5 hM5 hgr5))
          have hgr5' : ∀ b, b < w4.heap.size → b ≠ mb → w5.heap[b]? = w4.heap[b]? := fun b hb hn => hgr5.block b hb (fun e => hn (by simpa using e))
          have W4 := W.below k4
          have hobl := W4.lt HM.out
          have W5 : OtW w5 ob mb m qs := W4.kept (hgr5' ob hobl (by have := HMB.out; omega)) fun b h1 h2 => hgr5' b h2 (by omega)
          have hwrl := hgr5.size
          have hwl : wr.heap.size < w4.heap.size := bx_lt b44
          have hmw := hM.lt
          have b55 := (hgr5' wr.heap.size hwl (by omega)).trans b44
          have gg5 : Below w.heap.size w w5 := (bstep gg k4).grown hgr5 (by have := gg.size; have := k4.size; omega) (fun q hq => by cases hq; have := HMB.out; have := HOB.out; omega)
          have hobl5 := W5.lt HM.out
          clear b2 b3 b33 hM hM4 hl4 hgr5 hgr5' hrg cK hRi W W4 b44 k2 g3 g4
          obtain ⟨jn, hjm, hjl⟩ : ∃ jn : Nat, Int.tmod (k : Int) (m : Int) = (jn : Int) ∧ jn < m := ⟨k % m, by rw [Int.tmod_eq_emod_of_nonneg (by omega)]; omega, Nat.mod_lt _ hm⟩
          have hjw : IntKind.i64.wrap (jn : Int) = (jn : Int) := IntWalk.i64_in _ (by omega)
          obtain ⟨q, hq⟩ : ∃ q, qs[jn]? = some q := ⟨qs[jn]'(by omega), by simp⟩
          obtain ⟨⟨qa, qc⟩, qL⟩ := q
          have HQJ := hid hq
          have hd5 : Below w5.heap.size w5 w5.drew := (Below.refl _ _).drew
          have HS : Below w5.heap.size w5 w5.drew := hd5
          have hq3 : ∀ w', Below w5.heap.size w5 w' → w'.cell? ⟨ob, jn, none⟩ = some (.slice qa qL.length qc) := fun w' hw => (hw.cell (p := ⟨ob, jn, none⟩) hobl5).trans (W5.row.cellAt hq).1
          have hnq : qL.length ≤ 30 := by
            have h1 : qL.length ∈ (lsQ qs).map List.length := List.mem_map.2 ⟨qL, List.mem_map.2 ⟨_, List.mem_of_getElem? hq, rfl⟩, rfl⟩
            have := mem_sum _ _ h1
            have := HI.out.sum
            omega
          clear hq
          refine Rest.begin (S := fun w' => Below w5.heap.size w5 w') (X := [11, 12]) (by kernel_rfl) ?_
          change Rest _ _ _ _ _ _ _ _ _ w5.drew
          refine Rest.take (i := 0) (v := .slice (some ⟨ob, 0, none⟩) m m) rfl (by kernel_rfl) (by kernel_rfl) (by kernel_rfl) (by kernel_rfl) (fun _ _ _ h => h) (.inl HS) (Or.inl ⟨by simp [Region.wanted], ?_⟩) ?_
          · intro w; go_simp
          refine Rest.take (i := 1) (v := .int .i64 (k : Int)) rfl (by kernel_rfl) (by kernel_rfl) (by kernel_rfl) (by kernel_rfl) (fun _ _ _ h => h) (.inl HS) (Or.inl ⟨by simp [Region.wanted], ?_⟩) ?_
          · intro w; go_simp
          refine Rest.take (i := 2) (v := .int .i64 (m : Int)) rfl (by kernel_rfl) (by kernel_rfl) (by kernel_rfl) (by kernel_rfl) (fun _ _ _ h => h) (.inl HS) (Or.inl ⟨by simp [Region.wanted], ?_⟩) ?_
          · intro w; go_simp
          refine Rest.take (i := 3) (v := .int .i64 (jn : Int)) rfl (by kernel_rfl) (by kernel_rfl) (by kernel_rfl) (by kernel_rfl) (fun _ _ _ h => h) (.inl HS) (Or.inl ⟨by simp [Region.wanted], ?_⟩) ?_
          · intro w; go_simp; omega
          refine Rest.take (i := 4) (v := .slice (some ⟨ob, 0, none⟩) m m) rfl (by kernel_rfl) (by kernel_rfl) (by kernel_rfl) (by kernel_rfl) (fun _ _ _ h => h) (.inl HS) (Or.inl ⟨by simp [Region.wanted], ?_⟩) ?_
          · intro w; go_simp
          refine Rest.take (i := 5) (v := .int .i64 (k : Int)) rfl (by kernel_rfl) (by kernel_rfl) (by kernel_rfl) (by kernel_rfl) (fun _ _ _ h => h) (.inl HS) (Or.inl ⟨by simp [Region.wanted], ?_⟩) ?_
          · intro w; go_simp
          refine Rest.take (i := 6) (v := .int .i64 (m : Int)) rfl (by kernel_rfl) (by kernel_rfl) (by kernel_rfl) (by kernel_rfl) (fun _ _ _ h => h) (.inl HS) (Or.inl ⟨by simp [Region.wanted], ?_⟩) ?_
          · intro w; go_simp
          refine Rest.take (i := 7) (v := .int .i64 (jn : Int)) rfl (by kernel_rfl) (by kernel_rfl) (by kernel_rfl) (by kernel_rfl) (fun _ _ _ h => h) (.inl HS) (Or.inl ⟨by simp [Region.wanted], ?_⟩) ?_
          · intro w; go_simp; omega
          refine Rest.take (i := 8) (v := .pointer (some ⟨ob, jn, none⟩)) rfl (by kernel_rfl) (by kernel_rfl) (by kernel_rfl) (by kernel_rfl) (fun _ _ _ h => h) (.inl HS) (Or.inl ⟨by simp [Region.wanted], ?_⟩) ?_
          · intro w; go_simp
          refine Rest.takeS (i := 9) (v := .slice qa qL.length qc) rfl (by kernel_rfl) (by kernel_rfl) (by kernel_rfl) (by kernel_rfl) (fun _ _ _ h => h) HS (.inl ⟨by simp [Region.wanted], ?_⟩) ?_
          · intro w' hw; have q3 := hq3 w' hw; go_simp
          refine Rest.takeS (i := 10) (v := .agg (frV p.1 p.2.1 p.2.2)) rfl (by kernel_rfl) (by kernel_rfl) (by kernel_rfl) (by kernel_rfl) (fun _ _ _ h => h) HS (yields_loadR rowF (by simp [Region.wanted]) _ rfl wr.heap.size (by simp [Act.eval, Act.put]) _ rfl (fun w' hw => ⟨_, _, bx_below b55 hw⟩)) ?_
          refine Rest.one (i := 11) (by kernel_rfl) rfl (fun K hK => ?_)
          rw [if_pos (by simp [Region.wanted])]
          go_simp
          refine hK _ _ ⟨.inl (hd5.alloc (Nat.le_refl _) _), ?_⟩; clear hK K
          have b6 : Below w5.heap.size w5 (w5.alloc (.cells (frV p.1 p.2.1 p.2.2) 35)).drew := (bnew0 w5 _).drew
          have hown : OK enF 5 35 (mb + 1) (w5.alloc (.cells (frV p.1 p.2.1 p.2.2) 35)).drew qa qL.length qc qL := (W5.q _ (List.mem_of_getElem? HQJ.out)).below b6
          have hsrc : RK enF 5 (w5.alloc (.cells (frV p.1 p.2.1 p.2.2) 35)).drew (some ⟨w5.heap.size, 0, none⟩) 1 1 [(p.1, (p.2.1, p.2.2))] := (ok_lit enF_k 35 0 w5 [(p.1, (p.2.1, p.2.2))] (frV p.1 p.2.1 p.2.2) 1 rfl rfl (by omega) (Nat.zero_le _)).rk enF_k
          have hbs : mb + 1 ≤ (w5.alloc (.cells (frV p.1 p.2.1 p.2.2) 35)).drew.heap.size := by have := b6.size; omega
          refine Rest.one (i := 12) (by kernel_rfl) rfl (fun K hK => ?_)
          refine step_appgK elF14 enF_k rfl (.tmp 43) (.tmp 45) rfl rfl hown rfl hsrc (by omega) (by omega) (by omega) hbs ?_
          rintro w7 a7 c7 o7 g7 k7 z7
          refine hK _ _ ⟨.inr (thru_of (by kernel_rfl)), Rest.of_any _ _ _ _ (thru_of (by kernel_rfl)) ?_⟩; clear hK K
          have W8 := W5.app HMB.out HQJ.out o7 (fun b hb hn => ⟨(k7 b (Nat.lt_of_lt_of_le hb b6.size) hn).1.trans (b6.block b hb), (k7 b (Nat.lt_of_lt_of_le hb b6.size) hn).2⟩) hobl5
          have hk7 : ∀ b, b < w5.heap.size → NB qa b → w7.heap[b]? = w5.heap[b]? := fun b hb hn => (k7 b (Nat.lt_of_lt_of_le hb b6.size) hn).1.trans (b6.block b hb)
          have hqa : ∀ b, b ≤ mb → NB qa b := fun b hb x hx => by have := ((W5.q _ (List.mem_of_getElem? HQJ.out)).ltB hx).2; omega
          have hrow7 : OL slV 62 ob w7 (some ⟨ob, 0, none⟩) m m qs := W5.row.kept fun g e => by cases e; exact hk7 ob hobl5 (hqa ob (by have := HMB.out; omega))
          obtain ⟨q7, z8⟩ := hrow7.cellAt HQJ.out
          have M8 : MU (w7.setCell ⟨ob, jn, none⟩ (.slice a7 (qL.length + 1) c7)) mb (nD + 1) (D.put (.int .u32 (kyP p : Int)) (.lit (.int .i64 (0 + 1)))) :=
            MU.at hM5 ((Below.heap_setCell _ _ _ _ (by have := HMB.out; show mb ≠ ob; omega)).trans (hk7 mb (by omega) (hqa mb (Nat.le_refl _))))
          have gg8 : Below w.heap.size w (w7.setCell ⟨ob, jn, none⟩ (.slice a7 (qL.length + 1) c7)) := (gg5.trans ((b6.mono gg5.size).trans (g7.mono (by have := HMB.out; have := HOB.out; omega)))).setCell (p := ⟨ob, jn, none⟩) (by have := HOB.out; show w.heap.size ≤ ob; omega) _
          clear hown hsrc hbs hq3 HS hd5 b6 o7 g7 k7 z7 hk7 hqa hrow7 b55 W5 hM5 hjw
          refine wpAny_take (i := 13) (v := .pointer (some ⟨ob, jn, none⟩)) rfl (by kernel_rfl) (by kernel_rfl) (by kernel_rfl) (fun _ _ _ h => h) (Or.inl ⟨by simp [Region.wanted], ?_⟩) ?_
          · intro w; go_simp
          refine wpAny_ready (rs := [14]) (by kernel_rfl) (by simp) ?_
          refine AllReady.cons rfl (fun K hK => ?_) AllReady.nil
          rw [if_pos (by simp [Region.wanted])]
          go_simp
          refine hK _ _ ?_; clear hK K
          refine wpAny_done (by kernel_rfl) ?_ _
          go_wp2
          go_roundg (n - (k + 1))
          case measure => omega
          case rel => exact ⟨k + 1, ks ++ [kyP p], qs.set jn ((a7, c7), qL ++ [p]), _, nD + 1, by omega, rfl, by go_num, W8, by rw [List.length_set]; exact HQ, hid (by
            have : lsQ (qs.set jn ((a7, c7), qL ++ [p])) = (lsQ qs).set jn (qL ++ [p]) := by unfold lsQ; rw [List.map_set]
            rw [this]
            exact HI.out.put (by unfold lsQ; rw [List.getElem?_map, HQJ.out]; rfl) HPM.out ((good_iff p.1 _ rfl).1 HRI.out) HNI.out), M8, hitU_put HD.out HAT.out, by omega, gg8⟩
        · have hb0 : (cv == 0) = false := by rw [beq_eq_false_iff_ne]; exact hcz
          clear hcz hc2
          go_wp2_with (first
            | (with_reducible refine wpList_loadM rowF rfl _ rfl _ _ rfl (frV p.1 p.2.1 p.2.2) hrg rfl ?_)
            | (with_reducible refine wpList_storeR rowF rfl _ _ rfl _ _ rfl rfl b2 rfl rfl (fr_ones _ _ _) ?_)
            | (with_reducible refine wpList_loadR rowF rfl _ rfl _ rfl b3 rfl ?_)
            | (go_at_call 24; (with_reducible refine (cK _).mono ?_); rintro e w3 ⟨rfl, g3⟩; have b33 := bx_below b3 g3)
            | (with_reducible refine wpList_loadR rowF rfl _ rfl _ rfl b33 rfl ?_)
            | (go_at_call 53; (with_reducible refine (hRi _).mono ?_); rintro e w4 ⟨rfl, g4⟩
               have k4 := bstep (bstep k2 g3) g4
               have hl4 := mu_look (hM.below k4) HAT.out hwf))
          go_roundg (n - (k + 1))
          case measure => omega
          case rel => exact ⟨k + 1, ks, qs, D, nD, by omega, rfl, by go_num, W.below k4, HQ, hid HI.out.skip, hM.below k4, HD.out, by omega, bstep gg k4⟩
    · obtain rfl : k = n := by omega
      go_wp2
      go_ret
      exact ⟨ob, qs, ks, rfl, W.d, HI.out, gg⟩
end Go.Proofs.YtajdbimdiodalaaGreat

namespace Go.Proofs.YtajdbimdiodalaaGreat
open Go.RowKit Go.Sort Go.Maps
set_option linter.unusedVariables false

theorem elP : ElT Tryz.prog 65 24 (.pointer none) 8 := ⟨by kernel_rfl, by kernel_rfl, by kernel_rfl, by kernel_rfl, by kernel_rfl⟩
theorem elH : ElT Tryz.prog 66 22 (.slice none 0 0) 24 := ⟨by kernel_rfl, by kernel_rfl, by kernel_rfl, by kernel_rfl, by kernel_rfl⟩
theorem elI : ElK Tryz.prog 22 69 3 (.agg #[.bool false, .int .u32 0, .int .u32 0]) 12 := ⟨by kernel_rfl, by kernel_rfl, by kernel_rfl, by kernel_rfl, rfl, by omega⟩

/-- 'v[lo:hi]', v of structs. -/
theorem wpList_cutK {P : Program} {T E : TypeId} {k : Nat} {z : Value} {bytes : Nat} {α : Type} {enc : α → List Value} {w w0 : World} {a : Option Addr} {n c : Nat} {l : List α} {ops : Array Oper} {rest : List Oper} {o : Oper} {ac : Act} {Q : Exit → Act → World → Prop} (hT : ElK P T E k z bytes) (hgd : o.guard = none) (s lo hi : Operand)
    (ho : o.op = .slice T s (some lo) (some hi) none) (kl kh : IntKind) (L H : Int) (l0 h0 : Nat) (hs : ac.eval s = .slice a n c) (hl : ac.eval lo = .int kl L) (hh : ac.eval hi = .int kh H) (hL : L = (l0 : Int)) (hH : H = (h0 : Int))
    (hr : RK enc k w0 a n c l) (h1 : l0 ≤ h0) (h2 : h0 ≤ n) (N : Nat) (hN : h0 - l0 = N)
    (h : ∀ a' c', RK enc k w0 a' N c' ((l.take h0).drop l0) → wpList P ops Q rest (ac.put o.dst (.slice a' N c')) w) : wpList P ops Q (o :: rest) ac w := by
  subst hL
  subst hH
  subst hN
  refine wpList_plain hgd fun K hK => ?_
  obtain ⟨a', he, hr'⟩ := hr.sliced l0 h0 k rfl h1 h2
  have hu : P.underlying T = some (.slice (P.elem T)) := by rw [hT.und, hT.el]
  have hrun := run_slice_lh (P := P) w T a n c hu kl kh l0 h0 (by omega) (by omega) (by have := hr.cap; omega)
  unfold Oper.wp
  simp only [Int.toNat_natCast, run_sizeOf_k hT, Result.andThen] at hrun
  simp [execOp, ho, hs, hl, hh, run_sliceAt_slice w T _ _ _ _ hu, hrun, he, Result.andThen]
  exact hK _ _ (h a' _ hr')

/-- A row of filters where it lies. -/
abbrev Lt := (Option Addr × Nat) × List Fi
abbrev ltV (q : Lt) : Value := .slice q.1.1 q.2.length q.1.2
/-- Filters as they may be handed to New. -/
structure LtO (w : World) (q : Lt) : Prop where
  row : RK fiE 3 w q.1.1 q.2.length q.1.2 q.2
  ok : ∀ x ∈ q.2, x.Ok
  ri : wrF q.2 = false
  le : q.2.length ≤ 1
theorem LtO.below {w w1 : World} {q : Lt} (h : LtO w q) (g : Below w.heap.size w w1) : LtO w1 q := ⟨h.row.below g, h.ok, h.ri, h.le⟩

/-- The rows of the drivers and of their filters, beside what drivers hold. -/
structure RwW (Z : Nat) (w : World) (l : List De) (a9 : Option Addr) (n9 c9 : Nat) (gs : List Nat) (a10 : Option Addr) (n10 c10 : Nat) (ls : List Lt) : Prop where
  r9 : OL pvD 24 Z w a9 n9 c9 gs
  r10 : OL ltV 22 Z w a10 n10 c10 ls
  n9 : ∀ q, a9 = some q → ¬ busS l q.block
  n10 : ∀ q, a10 = some q → ¬ busS l q.block
  ap : ∀ p q, a9 = some p → a10 = some q → p.block ≠ q.block
section
variable {Z B : Nat} {w w1 : World} {l l' : List De} {a9 a10 : Option Addr} {n9 n10 c9 c10 : Nat} {gs : List Nat} {ls : List Lt}
theorem RwW.below (h : RwW Z w l a9 n9 c9 gs a10 n10 c10 ls) (g : Below w.heap.size w w1) : RwW Z w1 l a9 n9 c9 gs a10 n10 c10 ls := ⟨h.r9.below g, h.r10.below g, h.n9, h.n10, h.ap⟩
theorem RwW.ch (h : RwW Z w l a9 n9 c9 gs a10 n10 c10 ls) (bu : BuO B w l) (c : Ch (busW l) w w1) (hS : ∀ b, busS l' b → busS l b ∨ w.heap.size ≤ b) : RwW Z w1 l' a9 n9 c9 gs a10 n10 c10 ls :=
  ⟨h.r9.ch c fun q hq hb => h.n9 q hq (bu.wr hb), h.r10.ch c fun q hq hb => h.n10 q hq (bu.wr hb), fun q hq hb => (hS _ hb).elim (h.n9 q hq) (fun e => by have := (h.r9.ltB hq).1; omega), fun q hq hb => (hS _ hb).elim (h.n10 q hq) (fun e => by have := (h.r10.ltB hq).1; omega), h.ap⟩
/-- One more driver, made in memory of its own. -/
theorem RwW.more (h : RwW Z w l a9 n9 c9 gs a10 n10 c10 ls) (g : Below w.heap.size w w1) {x : De} (hx : ∀ b, x.S b → w.heap.size ≤ b) : RwW Z w1 (l ++ [x]) a9 n9 c9 gs a10 n10 c10 ls :=
  h.below g |> fun h1 => ⟨h1.r9, h1.r10, fun q hq ⟨y, hy, hb⟩ => (List.mem_append.1 hy).elim (fun hy => h.n9 q hq ⟨y, hy, hb⟩) (fun hy => by rw [List.mem_singleton] at hy; subst hy; have := hx _ hb; have := (h.r9.ltB hq).1; omega),
    fun q hq ⟨y, hy, hb⟩ => (List.mem_append.1 hy).elim (fun hy => h.n10 q hq ⟨y, hy, hb⟩) (fun hy => by rw [List.mem_singleton] at hy; subst hy; have := hx _ hb; have := (h.r10.ltB hq).1; omega), h.ap⟩
/-- One more in each row. -/
theorem RwW.r10A (h : RwW Z w l a9 n9 c9 gs a10 n10 c10 ls) {wA : World} {a9' : Option Addr} (k9 : ∀ b, b < w.heap.size → NB a9 b → wA.heap[b]? = w.heap[b]? ∧ NB a9' b) : OL ltV 22 Z wA a10 n10 c10 ls :=
  h.r10.kept fun b hb => (k9 b (h.r10.ltB hb).1 (fun q hq e => h.ap _ _ hq hb e)).1
theorem RwW.apps (h : RwW Z w l a9 n9 c9 gs a10 n10 c10 ls) (bu : BuO B w l) {wA wB : World} {a9' a10' : Option Addr} {c9' c10' : Nat} {g : Nat} {lt : Lt}
    (o9 : OL pvD 24 Z wA a9' (n9 + 1) c9' (gs ++ [g])) (k9 : ∀ b, b < w.heap.size → NB a9 b → wA.heap[b]? = w.heap[b]? ∧ NB a9' b) (z9 : w.heap.size ≤ wA.heap.size)
    (o10 : OL ltV 22 Z wB a10' (n10 + 1) c10' (ls ++ [lt])) (k10 : ∀ b, b < wA.heap.size → NB a10 b → wB.heap[b]? = wA.heap[b]? ∧ NB a10' b) (z10 : wA.heap.size ≤ wB.heap.size) (gAB : Below Z w wB) :
    RwW Z wB l a9' (n9 + 1) c9' (gs ++ [g]) a10' (n10 + 1) c10' (ls ++ [lt]) ∧ BuO B wB l := by
  have hn : ∀ p, a9' = some p → NB a10 p.block := fun p hp q hq e => (k9 q.block (h.r10.ltB hq).1 (fun r hr e => h.ap _ _ hr hq e)).2 p hp e.symm
  have hb9 : ∀ b, busS l b → NB a9 b := fun b hb q hq e => h.n9 q hq (by rw [e]; exact hb)
  have hb10 : ∀ b, busS l b → NB a10 b := fun b hb q hq e => h.n10 q hq (by rw [e]; exact hb)
  refine ⟨⟨o9.kept fun b hb => (k10 b (o9.ltB hb).1 (hn _ hb)).1, o10, fun q hq hb => ?_, fun q hq hb => ?_, fun p q hp hq e => ?_⟩, ?_⟩
  · exact (k9 _ (bu.lt hb).1 (hb9 _ hb)).2 q hq rfl
  · exact (k10 _ (Nat.lt_of_lt_of_le (bu.lt hb).1 z9) (hb10 _ hb)).2 q hq rfl
  · exact (k10 p.block (o9.ltB hp).1 (hn p hp)).2 q hq e.symm
  · refine bu.ch (S1 := fun b => ¬ busS l b) ⟨gAB.os, gAB.tape, gAB.output, Nat.le_trans z9 z10, fun b hb hn => ?_⟩ (fun b hb k => k hb)
    have hs : busS l b := Classical.byContradiction hn
    exact (k10 b (Nat.lt_of_lt_of_le hb z9) (hb10 b hs)).1.trans (k9 b hb (hb9 b hs)).1

theorem RwW.kept (h : RwW Z w l a9 n9 c9 gs a10 n10 c10 ls) {Y : Nat} (k : ∀ b, b < Y → w1.heap[b]? = w.heap[b]?) (h9 : ∀ q, a9 = some q → q.block < Y) (h10 : ∀ q, a10 = some q → q.block < Y) : RwW Z w1 l a9 n9 c9 gs a10 n10 c10 ls :=
  ⟨h.r9.kept fun b hb => k b (h9 _ hb), h.r10.kept fun b hb => k b (h10 _ hb), h.n9, h.n10, h.ap⟩
theorem BuO.more (h : BuO B w l) (g : Below w.heap.size w w1) {x : De} (hx : DvM w.heap.size w1 x.g x.d x.k x.S) (hB : B ≤ w.heap.size) : BuO B w1 (l ++ [x]) := by
  refine ⟨fun y hy => ?_, ?_⟩
  · rcases List.mem_append.1 hy with hy | hy
    · exact (h.dv y hy).below g
    · rw [List.mem_singleton] at hy; subst hy; exact hx.mono hB
  · rw [List.pairwise_append]
    refine ⟨h.ap, List.pairwise_singleton _ _, fun y hy z hz b hb hb2 => ?_⟩
    rw [List.mem_singleton] at hz; subst hz
    have := (h.dv y hy).sL b hb
    have := hx.sB b hb2
    omega
end

/-- One of them has changed. -/
theorem BuO.setR {B : Nat} {w w1 : World} {l : List De} (h : BuO B w l) {i : Nat} {x : De} (hi : l[i]? = some x) {d' : Dv} (o : DvR B w x.g x.k x.S d' w1) : ∃ k' S', BuO B w1 (l.set i ⟨x.g, d', k', S'⟩) ∧ Ch (busW l) w w1 ∧ (∀ b, busS (l.set i ⟨x.g, d', k', S'⟩) b → busS l b ∨ w.heap.size ≤ b) ∧ (∀ b, busW (l.set i ⟨x.g, d', k', S'⟩) b → busW l b ∨ w.heap.size ≤ b) := by
  obtain ⟨k', S', o1, c, s, x1⟩ := o
  obtain ⟨h1, h2, h3, h4, _⟩ := h.set hi o1 c s x1
  exact ⟨k', S', h1, h2, h3, h4⟩
theorem BuO.setL {B : Nat} {w w1 : World} {l : List De} {g : Nat} {d : Dv} {k : Dm} {S : Nat → Prop} (h : BuO B w (l ++ [⟨g, d, k, S⟩])) {d' : Dv} (o : DvR B w g k S d' w1) : ∃ k' S', BuO B w1 (l ++ [⟨g, d', k', S'⟩]) ∧ Ch (busW (l ++ [⟨g, d, k, S⟩])) w w1 ∧ (∀ b, busS (l ++ [⟨g, d', k', S'⟩]) b → busS (l ++ [⟨g, d, k, S⟩]) b ∨ w.heap.size ≤ b) ∧ (∀ b, busW (l ++ [⟨g, d', k', S'⟩]) b → busW (l ++ [⟨g, d, k, S⟩]) b ∨ w.heap.size ≤ b) := by
  obtain ⟨k', S', h1, h2, h3, h4⟩ := h.setR (i := l.length) (x := ⟨g, d, k, S⟩) (by rw [List.getElem?_append_right (Nat.le_refl _), Nat.sub_self]; rfl) o
  have e : (l ++ [(⟨g, d, k, S⟩ : De)]).set l.length (⟨g, d', k', S'⟩ : De) = l ++ [(⟨g, d', k', S'⟩ : De)] := by
    rw [List.set_append_right _ _ (Nat.le_refl _), Nat.sub_self]; rfl
  rw [e] at h1 h3 h4
  exact ⟨k', S', h1, h2, h3, h4⟩
theorem BuO.bel {B B0 : Nat} {w w0 w1 : World} {l : List De} (h : BuO B w l) (c : Ch (busW l) w w1) (g0 : Below B0 w0 w) (h0 : B0 ≤ w0.heap.size) (h1 : B0 ≤ B) : Below B0 w0 w1 := c.below g0 h0 fun b hb => Nat.le_trans h1 (h.lt (h.wr hb)).2
theorem no_range {w : World} {xb : Nat} {t : No} {a : Option Addr} {c : Nat} {T : TypeId} (h : w.heap[xb]? = some (.cells (noV t a c) T (0, 0))) : w.rangeAt xb 2 (frV t.2.2 a c).toList := fun j v hv => by
  rw [cell_of_row _ _ _ _ _ _ h]
  match j, hv with
  | 0, hv => exact hv
  | 1, hv => exact hv
  | 2, hv => exact hv
  | 3, hv => exact hv
  | 4, hv => exact hv
  | j + 5, hv => simp at hv
theorem bu_last {l : List De} {x : De} : x ∈ l ++ [x] := by simp

/-- Frames that were sent, kept in a row of the call's own. -/
structure SnW (Z : Nat) (w : World) (l : List De) (a : Option Addr) (c : Nat) (ss : List Ff) : Prop where
  row : OK enF 5 35 Z w a ss.length c ss
  nr : ∀ q, a = some q → ¬ busS l q.block
  dat : ∀ p ∈ ss, RL bv w p.2.1 p.1.data.length p.2.2 p.1.data
  nd : ∀ p ∈ ss, ∀ q, p.2.1 = some q → ¬ busW l q.block ∧ NB a q.block ∧ q.block < w.heap.size
section
variable {Z B : Nat} {w w1 : World} {l l' : List De} {a : Option Addr} {c : Nat} {ss : List Ff}
theorem SnW.new (Z : Nat) (w : World) (l : List De) : SnW Z w l none 0 [] := ⟨OK.nil _ _ _ _ _, fun q hq => (by cases hq), fun p hp => (by cases hp), fun p hp => (by cases hp)⟩
theorem SnW.below (h : SnW Z w l a c ss) (g : Below w.heap.size w w1) : SnW Z w1 l a c ss := ⟨h.row.below g, h.nr, fun p hp => (h.dat p hp).below g, fun p hp q hq => ⟨(h.nd p hp q hq).1, (h.nd p hp q hq).2.1, Nat.lt_of_lt_of_le (h.nd p hp q hq).2.2 g.size⟩⟩
theorem SnW.ch (h : SnW Z w l a c ss) (bu : BuO B w l) (k : Ch (busW l) w w1) (hS : ∀ b, busS l' b → busS l b ∨ w.heap.size ≤ b) (hW : ∀ b, busW l' b → busW l b ∨ w.heap.size ≤ b) : SnW Z w1 l' a c ss :=
  ⟨h.row.ch k fun q hq hb => h.nr q hq (bu.wr hb), fun q hq hb => (hS _ hb).elim (h.nr q hq) (fun e => by have := (h.row.ltB hq).1; omega), fun p hp => (h.dat p hp).ch k fun q hq => (h.nd p hp q hq).1,
    fun p hp q hq => ⟨fun hb => (hW _ hb).elim (h.nd p hp q hq).1 (fun e => by have := (h.nd p hp q hq).2.2; omega), (h.nd p hp q hq).2.1, Nat.lt_of_lt_of_le (h.nd p hp q hq).2.2 k.size⟩⟩
/-- One more. -/
theorem SnW.app (h : SnW Z w l a c ss) (bu : BuO B w l) {x : Ff} (hx : RL bv w x.2.1 x.1.data.length x.2.2 x.1.data) (hxn : ∀ q, x.2.1 = some q → ¬ busW l q.block ∧ NB a q.block ∧ q.block < w.heap.size)
    {a7 : Option Addr} {c7 : Nat} (o7 : OK enF 5 35 Z w1 a7 (ss.length + 1) c7 (ss ++ [x])) (k7 : ∀ b, b < w.heap.size → NB a b → w1.heap[b]? = w.heap[b]? ∧ NB a7 b) (g7 : Below Z w w1) (z7 : w.heap.size ≤ w1.heap.size) : SnW Z w1 l a7 c7 (ss ++ [x]) ∧ BuO B w1 l := by
  have hkeep : ∀ p : Ff, RL bv w p.2.1 p.1.data.length p.2.2 p.1.data → (∀ q, p.2.1 = some q → ¬ busW l q.block ∧ NB a q.block ∧ q.block < w.heap.size) → RL bv w1 p.2.1 p.1.data.length p.2.2 p.1.data ∧ ∀ q, p.2.1 = some q → ¬ busW l q.block ∧ NB a7 q.block ∧ q.block < w1.heap.size := fun p hp hn => by
    refine ⟨⟨hp.len, hp.cap, fun h0 => ?_⟩, fun q hq => ⟨(hn q hq).1, (k7 _ (hn q hq).2.2 (hn q hq).2.1).2, Nat.lt_of_lt_of_le (hn q hq).2.2 z7⟩⟩
    obtain ⟨b, off, ha, hlt, hc⟩ := hp.cell h0
    refine ⟨b, off, ha, Nat.lt_of_lt_of_le hlt z7, fun i y hy => ?_⟩
    have e := (k7 b hlt (hn _ ha).2.1).1
    have := hc i y hy
    unfold World.cell? at this ⊢
    rw [e]; exact this
  refine ⟨⟨by rw [List.length_append, List.length_singleton]; exact o7, fun q hq hb => ?_, fun p hp => ?_, fun p hp => ?_⟩, ?_⟩
  · have hbl := (bu.lt hb).1
    by_cases hn : NB a q.block
    · exact (k7 _ hbl hn).2 q hq rfl
    · unfold NB at hn
      apply hn
      intro y hy e
      exact h.nr y hy (by rw [e]; exact hb)
  · rcases List.mem_append.1 hp with hp | hp
    · exact (hkeep p (h.dat p hp) (h.nd p hp)).1
    · rw [List.mem_singleton] at hp; subst hp; exact (hkeep p hx hxn).1
  · rcases List.mem_append.1 hp with hp | hp
    · exact (hkeep p (h.dat p hp) (h.nd p hp)).2
    · rw [List.mem_singleton] at hp; subst hp; exact (hkeep p hx hxn).2
  · refine bu.ch (S1 := fun b => ¬ busS l b) ⟨g7.os, g7.tape, g7.output, z7, fun b hb hn => ?_⟩ (fun b hb k => k hb)
    have hs : busS l b := Classical.byContradiction hn
    exact (k7 b hb (fun q hq e => h.nr q hq (by rw [e]; exact hs))).1
end
end Go.Proofs.YtajdbimdiodalaaGreat

namespace Go.Proofs.YtajdbimdiodalaaGreat
open Go.RowKit Go.Sort
set_option linter.unusedVariables false

/-- A driver with its filters, that was handed frames. -/
structure ReD (fl : List Fi) (L : List Fr) (d : Dv) : Prop where
  f : DvF 3 d
  keep : d.keep = 20
  rx : d.rx = []
  ov : d.ov = false
  room : d.q.room = 20
  pass : d.pass = fun F => passF F.id F.ext fl
  ws : d.q.ws.map Prod.fst = L
  puts : d.q.puts = L.length
theorem ReD.new (fl : List Fi) : ReD fl [] (newD (fun F => passF F.id F.ext fl) 20 20) := ⟨newD_F _ _ _, rfl, rfl, rfl, rfl, rfl, rfl, rfl⟩
theorem ReD.len {fl : List Fi} {L : List Fr} {d : Dv} (h : ReD fl L d) : d.q.ws.length = L.length := by rw [← h.ws, List.length_map]
theorem ReD.send {fl : List Fi} {L : List Fr} {d : Dv} (h : ReD fl L d) {F : Fr} (hF : Good F) (hl : L.length < 20) : ReD fl (L ++ [F]) (snD d F) := by
  have hr : d.q.ws.length < d.q.room := by rw [h.len, h.room]; exact hl
  obtain ⟨f1, f2⟩ := snD_F h.f hF hr
  obtain ⟨_, i2, i3, i4, i5, i6, _⟩ := snD_I h.f.i hF hr
  have hov : (snD d F).ov = d.ov := by
    have e : snD d F = feD { d with q := { d.q with ws := d.q.ws ++ [(F, d.q.puts + 1)], puts := d.q.puts + 1 } } := if_neg (by omega)
    rw [e]
    unfold feD giD baD
    split <;> split <;> (try split) <;> rfl
  exact ⟨f1, by rw [i5, h.keep], by rw [i4, h.rx], by rw [hov, h.ov], by rw [i3, h.room], by rw [i6, h.pass], by rw [f2, List.map_append, h.ws]; rfl, by rw [i2, h.puts, List.length_append, List.length_singleton]⟩

theorem cn_snoc (l : List Dv) (d : Dv) : cnD (l ++ [d]) = cnD l + d.q.ws.length := by unfold cnD; simp

/-- All that they have been handed. -/
theorem ord_start {l : List Dv} {Ls : List (List Fr)} (hl : l.length = Ls.length) (h : ∀ (j : Nat) (d : Dv) (L : List Fr), l[j]? = some d → Ls[j]? = some L → ∃ fl, ReD fl L d) : OrdD Ls [] 20 (cnD l) 3 l := by
  refine OrdD.start hl (fun j d hd => ?_) fun j d L hd hL => ?_
  · obtain ⟨fl, r⟩ := h j d (Ls[j]'(by rw [← hl]; exact (List.getElem?_eq_some_iff.1 hd).1)) hd (List.getElem?_eq_getElem _)
    exact ⟨r.f, r.keep, r.rx, r.ov⟩
  · obtain ⟨fl, r⟩ := h j d L hd hL
    exact r.ws
theorem cn_all {l : List Dv} {Ls : List (List Fr)} (hl : l.length = Ls.length) (h : ∀ (j : Nat) (d : Dv) (L : List Fr), l[j]? = some d → Ls[j]? = some L → ∃ fl, ReD fl L d) : cnD l = (Ls.map List.length).sum := by
  unfold cnD
  congr 1
  apply List.ext_getElem?
  intro j
  rw [List.getElem?_map, List.getElem?_map]
  by_cases hj : j < l.length
  · have h1 := List.getElem?_eq_getElem hj
    have h2 := List.getElem?_eq_getElem (show j < Ls.length by omega)
    obtain ⟨fl, r⟩ := h j _ _ h1 h2
    rw [h1, h2]
    exact congrArg some r.len
  · rw [List.getElem?_eq_none (by omega), List.getElem?_eq_none (by omega)]; rfl

/-- The filters that drivers have. -/
def flF (fl : List Fi) (F : Fr) : Bool := passF F.id F.ext fl
theorem pass_al {l : List Dv} (h : ∀ d ∈ l, DvI d) : ((alD l).map Prod.fst).map Dv.pass = l.map Dv.pass ∧ ∀ d ∈ (alD l).map Prod.fst, DvI d := by
  unfold alD
  refine ⟨?_, fun d hd => ?_⟩
  · rw [List.map_map, List.map_map]
    exact List.map_congr_left fun d hd => (stD_I (h d hd) _).2.2.2.2.1
  · rw [List.map_map] at hd
    obtain ⟨e, he, rfl⟩ := List.mem_map.1 hd
    exact (stD_I (h e he) _).1
theorem pass_ru : ∀ (n : Nat) (l : List Dv), (∀ d ∈ l, DvI d) → ((ruD n l).1).map Dv.pass = l.map Dv.pass
  | 0, l, h => rfl
  | n + 1, l, h => by
    obtain ⟨h1, h2⟩ := pass_al h
    rw [ruD]
    split
    · exact h1
    · rw [pass_ru n _ h2, h1]

/-- When all are sent: what a driver has, when so many of what was sent were gone through. -/
structure FinD (fl : List Fi) (L sent : List Fr) (q : Nat) (d : Dv) : Prop where
  ws : d.q.ws = []
  ov : d.ov = false
  rx : d.rx.map Prod.fst = (sent.drop q).filter (fun F => !decide (F ∈ L) && flF fl F)
theorem fin_all {Ls : List (List Fr)} {sent : List Fr} {keep all t T : Nat} {l l' : List Dv} (h : OrdD Ls sent keep all t l) (hn : sent.length = all) (hp : Pass T l l') {fls : List (List Fi)} (hf : l.map Dv.pass = fls.map flF)
    {j : Nat} {d' : Dv} {L : List Fr} {fl : List Fi} (hd : l'[j]? = some d') (hL : Ls[j]? = some L) (hfl : fls[j]? = some fl) : FinD fl L sent 0 d' := by
  have hj : j < l.length := by rw [← hp.len]; exact (List.getElem?_eq_some_iff.1 hd).1
  have h0 := List.getElem?_eq_getElem hj
  obtain ⟨c, rfl⟩ := hp.eq j _ d' h0 hd
  have hpass : l[j].pass = flF fl := by
    have := congrArg (fun x => x[j]?) hf
    simp only [List.getElem?_map, h0, hfl, Option.map_some, Option.some.injEq] at this
    exact this
  have hws : l[j].q.ws = [] := by
    have hc : cnD l = 0 := by have := h.cn; omega
    have hm : l[j].q.ws.length ∈ l.map (fun d => d.q.ws.length) := List.mem_map_of_mem (List.getElem_mem hj)
    have : l[j].q.ws.length ≤ cnD l := by unfold cnD; exact mem_sum _ _ hm
    exact List.length_eq_zero_iff.1 (by omega)
  obtain ⟨r1, r2⟩ := h.rx j _ L h0 hL
  refine ⟨hws, r2, ?_⟩
  rw [List.drop_zero]
  show l[j].rx.map Prod.fst = _
  rw [r1, hpass]
theorem FinD.skip {fl : List Fi} {L sent : List Fr} {q : Nat} {d : Dv} (h : FinD fl L sent q d) {F : Fr} (hF : sent[q]? = some F) (hn : F ∈ L ∨ flF fl F = false) : FinD fl L sent (q + 1) d := by
  refine ⟨h.ws, h.ov, ?_⟩
  have hq : q < sent.length := (List.getElem?_eq_some_iff.1 hF).1
  have e : sent[q] = F := (List.getElem?_eq_some_iff.1 hF).2
  rw [h.rx, List.drop_eq_getElem_cons hq, e, List.filter_cons_of_neg]
  rcases hn with hn | hn <;> simp [hn]
theorem FinD.read {fl : List Fi} {L sent : List Fr} {q : Nat} {d : Dv} (h : FinD fl L sent q d) {F : Fr} (hF : sent[q]? = some F) (hn : F ∉ L) (hp : flF fl F = true) : ∃ t rs, d.rx = (F, t) :: rs ∧ FinD fl L sent (q + 1) { d with rx := rs } := by
  have hq : q < sent.length := (List.getElem?_eq_some_iff.1 hF).1
  have e : sent[q] = F := (List.getElem?_eq_some_iff.1 hF).2
  have hr := h.rx
  rw [List.drop_eq_getElem_cons hq, e, List.filter_cons_of_pos (by simp [hn, hp])] at hr
  cases hx : d.rx with
  | nil => rw [hx] at hr; cases hr
  | cons x rs =>
    rw [hx, List.map_cons] at hr
    injection hr with e1 e2
    obtain ⟨x1, x2⟩ := x
    dsimp only at e1
    subst e1
    exact ⟨x2, rs, rfl, h.ws, h.ov, e2⟩
theorem FinD.done {fl : List Fi} {L sent : List Fr} {q : Nat} {d : Dv} (h : FinD fl L sent q d) (hq : sent.length ≤ q) : d.q.ws.length = 0 ∧ d.rx.length = 0 ∧ d.ov = false := by
  have hr := h.rx
  rw [List.drop_eq_nil_of_le hq, List.filter_nil] at hr
  exact ⟨by rw [h.ws]; rfl, by rw [List.map_eq_nil_iff.1 hr]; rfl, h.ov⟩
/-- A frame of all of them whose key one of them has is that one's. -/
theorem key_own {Ls : List (List Fr)} (hu : KeyU Ls) {i j : Nat} {L M : List Fr} {F : Fr} (hL : Ls[i]? = some L) (hM : Ls[j]? = some M) (hF : F ∈ M) : kyG F ∈ L.map kyG ↔ F ∈ L := by
  refine ⟨fun h => ?_, fun h => List.mem_map_of_mem h⟩
  obtain ⟨G, hG, e⟩ := List.mem_map.1 h
  by_cases hij : i = j
  · subst hij
    rw [hL] at hM; cases hM
    exact hF
  · exact absurd e (hu.un i j L M G F hij hL hM hG hF)
end Go.Proofs.YtajdbimdiodalaaGreat

namespace Go.Proofs.YtajdbimdiodalaaGreat
open Go.RowKit Go.ChangeShapes Go.WideShapes Go.ChangeAt Go.Deep
set_option linter.unusedVariables false

section
variable {H : Type} {enc : TypeId × Value → H} {P : Program} {w : World} {base : Nat} {spare : Nat → Bool} {held : Bool}

theorem open_slice_triplesF {t e : TypeId} {f0 f1 f2 : Field} {fuel : Nat} {cs : List Value} {x : DataW H × List MemPlace} (ht : P.underlying t = some (.slice e)) (he : P.underlying e = some (.struct #[f0, f1, f2]))
    (ce : P.cellsOf e = 3) (o0 : f0.offset = 0) (o1 : f1.offset = 1) (o2 : f2.offset = 2) (c0 : P.cellsOf f0.type = 1) (c1 : P.cellsOf f1.type = 1) (c2 : P.cellsOf f2.type = 1)
    (h : DataW.trod enc P w base spare held fuel t cs = some x) :
    cs = [.slice none 0 0] ∨
    ∃ (a : Addr) (len cap m : Nat), cs = [.slice (some a) len cap] ∧ len ≤ cap ∧ cap ≤ maxLen ∧ m = (if spare a.block then cap else len) ∧
      ∀ i, i < m → ∃ (n : Nat) (v0 v1 v2 : Value) (y0 y1 y2 : DataW H × List MemPlace), w.cell? (a.add (i * 3)) = some v0 ∧ w.cell? (a.add (i * 3 + 1)) = some v1 ∧ w.cell? (a.add (i * 3 + 2)) = some v2 ∧
        DataW.trod enc P w base spare held n f0.type [v0] = some y0 ∧ DataW.trod enc P w base spare held n f1.type [v1] = some y1 ∧ DataW.trod enc P w base spare held n f2.type [v2] = some y2 := by
  rcases open_slice ht h with ⟨h0, _⟩ | ⟨a, len, cap, m, n, D, Pl, rfl, hb, hl, hm, hmm, rfl, hx⟩
  · exact Or.inl h0
  refine Or.inr ⟨a, len, cap, m, rfl, hl, hm, hmm, fun i hi => ?_⟩
  obtain ⟨cs', h1, h2⟩ := hx i hi
  rw [ce] at h1
  obtain ⟨_, hlen, hcell⟩ := World.cells?_some h1
  obtain ⟨xs, k, hk, hxy, _, hxl, hf⟩ := DataW.trod_struct he h2
  match xs, hxl, cs', hlen with
  | [y0, y1, y2], _, [v0, v1, v2], _ =>
    have g0 := hf 0 f0 rfl
    have g1 := hf 1 f1 rfl
    have g2 := hf 2 f2 rfl
    simp [o0, o1, o2, c0, c1, c2] at g0 g1 g2
    have e0 := hcell 0 (by omega)
    have e1 := hcell 1 (by omega)
    have e2 := hcell 2 (by omega)
    rw [add_add] at e0 e1 e2
    exact ⟨k, v0, v1, v2, y0, y1, y2, by simpa using e0, by simpa using e1, by simpa using e2, g0, g1, g2⟩
end

set_option maxRecDepth 100000 in
theorem arg_filters {H : Type} {enc : TypeId × Value → H} {W : World} {r : Reach} {b0 : Nat} {v : Value} {d : DataW H} {ps : List MemPlace}
    (hval : Value.okWide Tryz.prog W r b0 22 v) (h : DataW.Trod enc Tryz.prog W 0 (fun _ => true) true 22 v d ps) :
    ∃ a n c l, v = .slice a n c ∧ RK fiE 3 W a n c l ∧ (∀ x ∈ l, x.Ok) ∧ n ≤ 9223372036854775807 := by
  obtain ⟨a, n, c, rfl⟩ := okWide_slice tFi.und hval
  obtain ⟨fuel, hf⟩ := h
  rcases open_slice_triplesF tFi.und Tryz.underlying69 tFi.size rfl rfl rfl (by kernel_rfl) (by kernel_rfl) (by kernel_rfl) hf with hcs | ⟨ad, len, cap, m, hcs, hl, hm, hmm, hcell⟩
  · simp [Value.cells] at hcs
    obtain ⟨rfl, rfl, rfl⟩ := hcs
    exact ⟨none, 0, 0, [], rfl, RK.nil _ _ _ _ _, by simp, by omega⟩
  · simp [Value.cells] at hcs
    obtain ⟨rfl, rfl, rfl⟩ := hcs
    simp only [if_true] at hmm
    subst hmm
    have each : ∀ i, i < m → ∃ q : Fi, W.cell? (ad.add (i * 3)) = some (.bool q.ext) ∧ W.cell? (ad.add (i * 3 + 1)) = some (.int .u32 (q.mask : Int)) ∧ W.cell? (ad.add (i * 3 + 2)) = some (.int .u32 (q.mat : Int)) ∧ q.Ok := fun i hi => by
      obtain ⟨nn, v0, v1, v2, y0, y1, y2, h0, h1, h2, t0, t1, t2⟩ := hcell i hi
      obtain ⟨x0, k0, _⟩ := DataW.trod_bool (show Tryz.prog.underlying 4 = some .bool by kernel_rfl) t0
      obtain ⟨x1, k1, _, z1⟩ := DataW.trod_int (show Tryz.prog.underlying 32 = some (.int .u32) by kernel_rfl) t1
      obtain ⟨x2, k2, _, z2⟩ := DataW.trod_int (show Tryz.prog.underlying 32 = some (.int .u32) by kernel_rfl) t2
      simp at k0 k1 k2
      rw [k0] at h0
      rw [k1] at h1
      rw [k2] at h2
      have w1 : 0 ≤ x1 ∧ x1 ≤ 4294967295 := by simpa [Lit.wf, IntKind.min, IntKind.max, IntKind.signed, IntKind.bits] using z1
      have w2 : 0 ≤ x2 ∧ x2 ≤ 4294967295 := by simpa [Lit.wf, IntKind.min, IntKind.max, IntKind.signed, IntKind.bits] using z2
      obtain ⟨y1, rfl⟩ := Int.eq_ofNat_of_zero_le w1.1
      obtain ⟨y2, rfl⟩ := Int.eq_ofNat_of_zero_le w2.1
      exact ⟨⟨x0, y1, y2⟩, h0, h1, h2, by simp only; omega, by simp only; omega⟩
    have : ∃ q : Nat → Fi, ∀ i, i < m → W.cell? (ad.add (i * 3)) = some (.bool (q i).ext) ∧ W.cell? (ad.add (i * 3 + 1)) = some (.int .u32 ((q i).mask : Int)) ∧ W.cell? (ad.add (i * 3 + 2)) = some (.int .u32 ((q i).mat : Int)) ∧ (q i).Ok := by
      refine ⟨fun i => if hi : i < m then Classical.choose (each i hi) else ⟨false, 0, 0⟩, fun i hi => ?_⟩
      have := Classical.choose_spec (each i hi)
      simpa [hi] using this
    obtain ⟨q, hq⟩ := this
    refine ⟨some ad, n, m, (List.range n).map q, rfl, ⟨by simp, hl, fun hn => ?_⟩, fun x hx => ?_, by unfold maxLen at hm; omega⟩
    · obtain ⟨b, off, spot⟩ := ad
      have hspot : spot = none := by simpa [Addr.add] using World.cell?_spot (hq 0 (by omega)).1
      subst hspot
      refine ⟨b, off, rfl, ?_, fun i x j v hx hv => ?_⟩
      · have := World.block_lt_of_cell? W _ (hq 0 (by omega)).1
        simpa [Addr.add] using this
      · have hi : i < n := by
          have := (List.getElem?_eq_some_iff.1 hx).1
          simpa using this
        obtain ⟨h0, h1, h2, _⟩ := hq i (by omega)
        rw [Addr.add_lit] at h0 h1 h2
        simp [hi] at hx
        subst hx
        match j, hv with
        | 0, hv => simp [fiE] at hv; subst hv; simpa using h0
        | 1, hv => simp [fiE] at hv; subst hv; exact h1
        | 2, hv => simp [fiE] at hv; subst hv; exact h2
        | j + 3, hv => simp [fiE] at hv
    · obtain ⟨i, hi, rfl⟩ := List.mem_map.1 hx
      exact (hq i (by have := List.mem_range.1 hi; omega)).2.2.2

end Go.Proofs.YtajdbimdiodalaaGreat
