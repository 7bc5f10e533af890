/-
  Texts of this place, put together: M14i, M14k, B14o, M14l, Open14. What stands here is used by the statement; conditions: none of their own.
-/
import Derived.Test.YtajdbimdiodalaaGreatZb8
import Derived.Deep.Grids
namespace Go.Proofs.YtajdbimdiodalaaGreat
open Go.RowKit Go.Sort
set_option linter.unusedVariables false
set_option linter.unusedSimpArgs false

/-- Between frames, behind j bits, with what there is to send. -/
def InN (j : Nat) (g : Option Fr) (c : Ct) : Prop := ∃ A : Ct, c = btC A j ∧ A.cf = zeC ∧ A.has = g.isSome ∧ A.give = g.getD zeroFr
/-- What its controller has. -/
def gvD (d : Dv) : Option Fr := if d.c.has then some d.c.give else none

theorem ev_z8 : evC zeC 8 = zeC := by decide
theorem ev_z9 : evC zeC 9 = zeC := by decide
theorem ro_in {B : Fr} {g : Option Fr} {w : Bool} {c : Ct} (h : RoN B zeC ((putL (boL B)).length + 10) g w c) : InN 0 (if w then none else g) c := by
  rcases h with ⟨h0, _⟩ | ⟨_, h0, _⟩ | ⟨_, _, A, rfl, a1, a2, a3⟩
  · omega
  · omega
  · refine ⟨A, by rw [Nat.sub_self], ?_, ?_, ?_⟩
    · rw [a1, ev_z8, ev_z9]; split <;> rfl
    · rw [a2]; cases w <;> simp
    · rw [a3]; cases w <;> simp
theorem in_step {j : Nat} {g : Option Fr} {c : Ct} (h : InN j g c) (hj : j < 3) : (stC c true).2 = noH ∧ InN (j + 1) g (stC c true).1 ∧ dvC c = true := by
  obtain ⟨A, rfl, a1, a2, a3⟩ := h
  rw [bt_step3 (by rw [a1]; decide) hj]
  refine ⟨rfl, ⟨A, rfl, a1, a2, a3⟩, ?_⟩
  unfold btC; rw [if_pos hj]; rfl
theorem in_idl {B : Fr} {g : Option Fr} {w : Bool} {c : Ct} (h : InN 3 g c) : RoN B zeC 0 g w c := by
  obtain ⟨A, rfl, a1, a2, a3⟩ := h
  exact .inl ⟨rfl, A, rfl, a1, a2, a3⟩
theorem in_give {j : Nat} {c : Ct} (F : Fr) (h : InN j none c) : InN j (some F) { c with has := true, give := F } := by
  obtain ⟨A, rfl, a1, a2, a3⟩ := h
  refine ⟨{ A with has := true, give := F }, ?_, a1, rfl, rfl⟩
  unfold btC; split <;> rfl
theorem in_gv {j : Nat} {g : Option Fr} {d : Dv} (h : InN j g d.c) : gvD d = g := by
  obtain ⟨A, e, a1, a2, a3⟩ := h
  have h1 : d.c.has = A.has := by rw [e]; unfold btC; split <;> rfl
  have h2 : d.c.give = A.give := by rw [e]; unfold btC; split <;> rfl
  unfold gvD
  rw [h1, h2, a2, a3]
  cases g <;> rfl
/-- Nothing to send, and nothing comes. -/
theorem in_rest {c : Ct} (h : InN 3 none c) : stC c true = (c, noH) ∧ dvC c = true := by
  obtain ⟨A, rfl, a1, a2, a3⟩ := h
  have e : btC A 3 = phC A 0 0 false := rfl
  have hs : stC (phC A 0 0 false) true = (if A.has then failC { phC A 0 0 false with sender := true } 4 else (phC A 0 0 false, noH)) := rfl
  have hd : dvC (phC A 0 0 false) = !A.has := rfl
  rw [e, hs, hd, a2]
  exact ⟨rfl, rfl⟩

/-- What a driver has read, behind a frame. -/
def rxU (d : Dv) (B : Fr) (t : Int) : List (Fr × Int) × Bool := if d.pass B = true then (if d.rx.length < d.keep then (d.rx ++ [(B, t)], d.ov) else (d.rx, true)) else (d.rx, d.ov)

/-- A bit of a frame, of a driver whose own was not sent by it. -/
theorem dr_step {B : Fr} (hB : Good B) {d : Dv} (h : DvI d) (b : DvB d) {g : Option Fr} {w : Bool} (ho : NodeOK B g w) {i : Nat} (hi : i < (putL (boL B)).length + 13) (hr : RoN B zeC i g w d.c) (hn : ¬ (w = true ∧ i = (putL (boL B)).length + 9)) :
    ∃ rx ov, (stD d (xB B i)).1 = { d with c := (stC d.c (xB B i)).1, rx := rx, ov := ov, now := d.now + 1 } ∧ RoN B zeC (i + 1) g w (stC d.c (xB B i)).1 ∧ DvI (stD d (xB B i)).1 ∧ DvB (stD d (xB B i)).1 ∧ (stD d (xB B i)).2.1 ≠ 1
      ∧ (rx, ov) = (if w = false ∧ i = (putL (boL B)).length + 8 then rxU d B d.now else (d.rx, d.ov)) := by
  obtain ⟨s1, s2, s3, s4⟩ := ro_step hB cfA_zero ho hi hr
  have h1 : (stC d.c (xB B i)).2.1 ≠ 1 := by
    rcases s2 with e | ⟨_, _, e⟩
    · rw [e]
      cases w with
      | true =>
        rw [if_pos rfl, if_neg (fun k => hn ⟨rfl, k⟩)]
        decide
      | false =>
        rw [if_neg Bool.false_ne_true]
        split
        · show (2 : Nat) ≠ 1; omega
        · decide
    · rw [e]; show (3 : Nat) ≠ 1; omega
  obtain ⟨rx, ov, e1, e2, e3, e4⟩ := stD_calm h b (xB B i) h1
  refine ⟨rx, ov, e1, s1, (stD_I h _).1, e2, e3, ?_⟩
  rw [e4]
  by_cases h8 : w = false ∧ i = (putL (boL B)).length + 8
  · rw [if_pos h8]
    have e : (stC d.c (xB B i)).2 = (2, B) := by
      rcases s2 with e | ⟨_, hl, _⟩
      · rw [e, h8.1, if_neg Bool.false_ne_true, if_pos h8.2]
      · omega
    rw [e]
    unfold rxU
    by_cases hp : d.pass B = true
    · rw [if_pos ⟨rfl, hp⟩, if_pos hp]
    · rw [if_neg (fun k => hp k.2), if_neg hp]
  · rw [if_neg h8]
    have e : (stC d.c (xB B i)).2.1 ≠ 2 := by
      rcases s2 with e | ⟨_, _, e⟩
      · rw [e]
        cases w with
        | true =>
          rw [if_pos rfl, if_neg (fun k => hn ⟨rfl, k⟩)]
          decide
        | false =>
          rw [if_neg Bool.false_ne_true, if_neg (fun k => h8 ⟨rfl, k⟩)]
          decide
      · rw [e]; show (3 : Nat) ≠ 2; omega
    rw [if_neg (fun k => e k.1)]

/-- The bit at which its own is sent: the next best one is with the controller. -/
theorem dr_sent {B : Fr} (hB : Good B) {d : Dv} (h : DvI d) {g : Option Fr} (ho : NodeOK B g true) (hr : RoN B zeC ((putL (boL B)).length + 9) g true d.c) :
    ∃ q, (stD d (xB B ((putL (boL B)).length + 9))).1.q = q ∧ q.ws = rmQ d.q.wire d.q.ws ∧ q.room = d.q.room ∧ q.puts = d.q.puts ∧ (stD d (xB B ((putL (boL B)).length + 9))).1.rx = d.rx ∧ (stD d (xB B ((putL (boL B)).length + 9))).1.ov = d.ov ∧ (stD d (xB B ((putL (boL B)).length + 9))).1.keep = d.keep ∧ (stD d (xB B ((putL (boL B)).length + 9))).1.pass = d.pass ∧ (stD d (xB B ((putL (boL B)).length + 9))).1.now = d.now + 1
      ∧ DvI (stD d (xB B ((putL (boL B)).length + 9))).1 ∧ DvB (stD d (xB B ((putL (boL B)).length + 9))).1 ∧ InN 0 (gvD (stD d (xB B ((putL (boL B)).length + 9))).1) (stD d (xB B ((putL (boL B)).length + 9))).1.c
      ∧ (stD d (xB B ((putL (boL B)).length + 9))).2 = (1, d.q.wire, B) ∧ d.c.give = B := by
  generalize hi : (putL (boL B)).length + 9 = i at *
  obtain ⟨s1, s2, s3, s4⟩ := ro_step hB cfA_zero ho (by omega) hr
  have e : (stC d.c (xB B i)).2 = (1, B) := by
    rcases s2 with e | ⟨k, _⟩
    · rw [e, if_pos rfl, if_pos hi.symm]
    · cases k
  have h1 : (stC d.c (xB B i)).2.1 = 1 := by rw [e]
  have hg : d.c.give = B := by
    have := ((on_step h.on (xB B i)).sent h1).2.1
    rw [e] at this; exact this.symm
  have hin : InN 0 none (stC d.c (xB B i)).1 := by
    have : i + 1 = (putL (boL B)).length + 10 := by omega
    rw [this] at s1
    exact ro_in s1
  have hI := (stD_I h (xB B i)).1
  have hB' := stD_sent_B h (xB B i) h1
  have hs := stD_sent h (xB B i) h1
  refine ⟨_, rfl, ?_⟩
  rw [hs] at hI hB' ⊢
  cases hb : beQ { d.q with ws := rmQ d.q.wire d.q.ws, wire := 0, ab := false } with
  | none =>
    rw [hb] at hI hB'
    dsimp only at hI hB' ⊢
    refine ⟨rfl, rfl, rfl, rfl, rfl, rfl, rfl, rfl, hI, hB', ?_, by rw [hg], hg⟩
    rw [in_gv (d := { d with c := (stC d.c (xB B i)).1, q := { d.q with ws := rmQ d.q.wire d.q.ws, wire := 0, ab := false }, now := d.now + 1 }) hin]
    exact hin
  | some p =>
    rw [hb] at hI hB'
    dsimp only at hI hB' ⊢
    refine ⟨rfl, rfl, rfl, rfl, rfl, rfl, rfl, rfl, hI, hB', ?_, by rw [hg], hg⟩
    exact in_give p.1 hin

/-- A bit between frames. -/
theorem dr_in {d : Dv} (h : DvI d) (b : DvB d) {g : Option Fr} {j : Nat} (hj : j < 3) (hr : InN j g d.c) :
    (stD d true).1 = { d with c := (stC d.c true).1, now := d.now + 1 } ∧ InN (j + 1) g (stC d.c true).1 ∧ DvI (stD d true).1 ∧ DvB (stD d true).1 ∧ (stD d true).2.1 ≠ 1 := by
  obtain ⟨s1, s2, s3⟩ := in_step hr hj
  obtain ⟨rx, ov, e1, e2, e3, e4⟩ := stD_calm h b true (by rw [s1]; decide)
  rw [if_neg (by rw [s1]; intro k; exact absurd k.1 (by decide))] at e4
  have e5 := congrArg Prod.fst e4
  have e6 := congrArg Prod.snd e4
  dsimp only at e5 e6
  rw [e5, e6] at e1
  exact ⟨e1, s2, (stD_I h _).1, e2, e3⟩
/-- A bit at which nothing is to be sent by anybody. -/
theorem dr_rest {d : Dv} (h : DvI d) (b : DvB d) (hr : InN 3 none d.c) :
    (stD d true).1 = { d with now := d.now + 1 } ∧ DvI (stD d true).1 ∧ DvB (stD d true).1 ∧ (stD d true).2.1 ≠ 1 := by
  obtain ⟨s1, s2⟩ := in_rest hr
  obtain ⟨rx, ov, e1, e2, e3, e4⟩ := stD_calm h b true (by rw [s1]; show (0 : Nat) ≠ 1; omega)
  rw [if_neg (by rw [s1]; intro k; exact absurd k.1 (by show ¬ ((0 : Nat) = 2); omega))] at e4
  have e5 := congrArg Prod.fst e4
  have e6 := congrArg Prod.snd e4
  dsimp only at e5 e6
  rw [e5, e6, s1] at e1
  exact ⟨e1, (stD_I h _).1, e2, e3⟩
end Go.Proofs.YtajdbimdiodalaaGreat

namespace Go.Proofs.YtajdbimdiodalaaGreat
open Go.RowKit Go.Sort
set_option linter.unusedVariables false
set_option linter.unusedSimpArgs false

theorem tl_keep : ∀ (l : List (Dv × No)) (z : No), (∀ r ∈ l, r.2.1 ≠ 1) → l.foldl (fun z r => if r.2.1 = 1 then r.2 else z) z = z := by
  intro l
  induction l with
  | nil => intro z _; rfl
  | cons x l ih =>
    intro z h
    rw [List.foldl_cons, if_neg (h x (by simp))]
    exact ih z (fun r hr => h r (by simp [hr]))
theorem tl_none {l : List (Dv × No)} (h : ∀ r ∈ l, r.2.1 ≠ 1) : (tlD l).1 ≠ 1 := by
  unfold tlD; rw [tl_keep l noN h]; decide
theorem tl_one {t : No} (ht : t.1 = 1) : ∀ (l : List (Dv × No)) (z : No), (∀ r ∈ l, r.2.1 = 1 → r.2 = t) → (z = t ∨ ∃ r ∈ l, r.2 = t) → l.foldl (fun z r => if r.2.1 = 1 then r.2 else z) z = t := by
  intro l
  induction l with
  | nil =>
    intro z _ h
    rcases h with h | ⟨r, hr, _⟩
    · exact h
    · cases hr
  | cons x l ih =>
    intro z hu h
    rw [List.foldl_cons]
    refine ih _ (fun r hr => hu r (by simp [hr])) ?_
    by_cases hx : x.2.1 = 1
    · rw [if_pos hx]; exact .inl (hu x (by simp) hx)
    · rw [if_neg hx]
      rcases h with h | ⟨r, hr, e⟩
      · exact .inl h
      · rcases List.mem_cons.1 hr with rfl | hr
        · exact absurd (by rw [e]; exact ht) hx
        · exact .inr ⟨r, hr, e⟩

theorem ru_skip {n : Nat} {l : List Dv} (h : (tlD (alD l)).1 ≠ 1) : ruD (n + 1) l = ruD n ((alD l).map Prod.fst) := by
  show (if (tlD (alD l)).1 = 1 then _ else _) = _
  rw [if_neg h]
theorem ru_stop {n : Nat} {l : List Dv} (h : (tlD (alD l)).1 = 1) : ruD (n + 1) l = ((alD l).map Prod.fst, tlD (alD l), true) := by
  show (if (tlD (alD l)).1 = 1 then _ else _) = _
  rw [if_pos h]

theorem al_at {l : List Dv} {j : Nat} {r : Dv × No} (h : (alD l)[j]? = some r) : ∃ d, l[j]? = some d ∧ r = stD d (buD l) := by
  unfold alD at h
  rw [List.getElem?_map] at h
  cases hd : l[j]? with
  | none => rw [hd] at h; cases h
  | some d => rw [hd] at h; exact ⟨d, rfl, (Option.some.inj h).symm⟩
theorem al_fst {l : List Dv} {j : Nat} {d : Dv} (h : ((alD l).map Prod.fst)[j]? = some d) : ∃ d1, l[j]? = some d1 ∧ d = (stD d1 (buD l)).1 := by
  rw [List.getElem?_map] at h
  cases hr : (alD l)[j]? with
  | none => rw [hr] at h; cases h
  | some r =>
    rw [hr] at h
    obtain ⟨d1, h1, rfl⟩ := al_at hr
    exact ⟨d1, h1, (Option.some.inj h).symm⟩
theorem al_len (l : List Dv) : ((alD l).map Prod.fst).length = l.length := by unfold alD; rw [List.length_map, List.length_map]

/-- Drivers behind i bits of B's frame, whose sender is number jw; l0: as they were ahead of it. -/
structure Bus (l0 : List Dv) (B : Fr) (jw i : Nat) (l : List Dv) : Prop where
  len : l.length = l0.length
  di : ∀ (j : Nat) (d : Dv), l[j]? = some d → DvI d ∧ DvB d
  ro : ∀ (j : Nat) (d d0 : Dv), l[j]? = some d → l0[j]? = some d0 → RoN B zeC i (gvD d0) (decide (j = jw)) d.c
  q : ∀ (j : Nat) (d d0 : Dv), l[j]? = some d → l0[j]? = some d0 → d.q = d0.q ∧ d.keep = d0.keep ∧ d.pass = d0.pass ∧ d.now = d0.now + i
  rx : ∀ (j : Nat) (d d0 : Dv), l[j]? = some d → l0[j]? = some d0 → (d.rx, d.ov) = if j ≠ jw ∧ (putL (boL B)).length + 9 ≤ i then rxU d0 B (d0.now + (((putL (boL B)).length + 8 : Nat) : Int)) else (d0.rx, d0.ov)

section
variable {l0 : List Dv} {B : Fr} {jw : Nat}
theorem bus_bit {l : List Dv} (hB : Good B) (hw : jw < l0.length) (h2 : 2 ≤ l0.length) (ho : ∀ (j : Nat) (d0 : Dv), l0[j]? = some d0 → NodeOK B (gvD d0) (decide (j = jw))) {i : Nat} (hi : i < (putL (boL B)).length + 13) (h : Bus l0 B jw i l) : buD l = xB B i := by
  have := ro_bus hB (cf := fun _ => zeC) (fun _ => cfA_zero) (l := l.map (fun d => d.c)) (gs := l0.map gvD) (jw := jw) (by rw [List.length_map, List.length_map, h.len]) (by rw [List.length_map, h.len]; exact hw) (by rw [List.length_map, h.len]; exact h2) hi
    (fun j hj => by
      rw [List.length_map] at hj
      rw [List.getElem_map]
      exact ho j _ (List.getElem?_eq_getElem hj))
    (fun j hj => by
      rw [List.length_map] at hj
      rw [List.getElem_map, List.getElem_map]
      exact h.ro j _ _ (List.getElem?_eq_getElem hj) (List.getElem?_eq_getElem (by rw [← h.len]; exact hj)))
  rw [← this, List.all_map]
  rfl

/-- A bit at which nothing is sent. -/
theorem bus_step {l : List Dv} (hB : Good B) (hw : jw < l0.length) (h2 : 2 ≤ l0.length) (ho : ∀ (j : Nat) (d0 : Dv), l0[j]? = some d0 → NodeOK B (gvD d0) (decide (j = jw))) {i : Nat} (hi : i < (putL (boL B)).length + 9) (h : Bus l0 B jw i l) :
    (tlD (alD l)).1 ≠ 1 ∧ Bus l0 B jw (i + 1) ((alD l).map Prod.fst) := by
  have hb := bus_bit hB hw h2 ho (by omega) h
  have key : ∀ (j : Nat) (d d0 : Dv), l[j]? = some d → l0[j]? = some d0 → _ := fun j d d0 hd hd0 => dr_step hB (h.di j d hd).1 (h.di j d hd).2 (ho j d0 hd0) (i := i) (by omega) (h.ro j d d0 hd hd0) (fun k => by omega)
  have h0 : ∀ (j : Nat) (d : Dv), l[j]? = some d → ∃ d0, l0[j]? = some d0 := fun j d hd => by
    have hj : j < l0.length := by rw [← h.len]; exact (List.getElem?_eq_some_iff.1 hd).1
    exact ⟨_, List.getElem?_eq_getElem hj⟩
  refine ⟨tl_none (fun r hr => ?_), ⟨by rw [al_len, h.len], fun j d hd => ?_, fun j d d0 hd hd0 => ?_, fun j d d0 hd hd0 => ?_, fun j d d0 hd hd0 => ?_⟩⟩
  · obtain ⟨j, hj⟩ := List.getElem?_of_mem hr
    obtain ⟨d, hd, rfl⟩ := al_at hj
    obtain ⟨d0, hd0⟩ := h0 j d hd
    obtain ⟨rx, ov, _, _, _, _, k, _⟩ := key j d d0 hd hd0
    rw [hb]; exact k
  · obtain ⟨d1, hd1, rfl⟩ := al_fst hd
    obtain ⟨d0, hd0⟩ := h0 j d1 hd1
    obtain ⟨rx, ov, _, _, k1, k2, _, _⟩ := key j d1 d0 hd1 hd0
    rw [hb]; exact ⟨k1, k2⟩
  · obtain ⟨d1, hd1, rfl⟩ := al_fst hd
    obtain ⟨rx, ov, e, k, _⟩ := key j d1 d0 hd1 hd0
    rw [hb, e]; exact k
  · obtain ⟨d1, hd1, rfl⟩ := al_fst hd
    obtain ⟨rx, ov, e, _⟩ := key j d1 d0 hd1 hd0
    obtain ⟨q1, q2, q3, q4⟩ := h.q j d1 d0 hd1 hd0
    rw [hb, e]
    exact ⟨q1, q2, q3, by show d1.now + 1 = _; rw [q4]; omega⟩
  · obtain ⟨d1, hd1, rfl⟩ := al_fst hd
    obtain ⟨rx, ov, e, _, _, _, _, k⟩ := key j d1 d0 hd1 hd0
    obtain ⟨q1, q2, q3, q4⟩ := h.q j d1 d0 hd1 hd0
    have hx := h.rx j d1 d0 hd1 hd0
    rw [hb, e]
    show (rx, ov) = _
    rw [k]
    rw [if_neg (show ¬ (j ≠ jw ∧ (putL (boL B)).length + 9 ≤ i) by omega)] at hx
    have e1 : d1.rx = d0.rx := congrArg Prod.fst hx
    have e2 : d1.ov = d0.ov := congrArg Prod.snd hx
    by_cases h8 : i = (putL (boL B)).length + 8
    · by_cases hj : j = jw
      · rw [if_neg (fun k => by have := k.1; simp [hj] at this), if_neg (fun k => k.1 hj)]
        exact hx
      · rw [if_pos ⟨decide_eq_false hj, h8⟩, if_pos ⟨hj, by omega⟩]
        unfold rxU
        rw [e1, e2, q2, q3, q4, h8]
    · rw [if_neg (fun k => h8 k.2), if_neg (show ¬ (j ≠ jw ∧ (putL (boL B)).length + 9 ≤ i + 1) by omega)]
      exact hx

/-- So many bits. -/
theorem bus_go (hB : Good B) (hw : jw < l0.length) (h2 : 2 ≤ l0.length) (ho : ∀ (j : Nat) (d0 : Dv), l0[j]? = some d0 → NodeOK B (gvD d0) (decide (j = jw))) (n : Nat) :
    ∀ (m i : Nat) (l : List Dv), i + m = (putL (boL B)).length + 9 → Bus l0 B jw i l → ∃ l', Bus l0 B jw ((putL (boL B)).length + 9) l' ∧ ruD (m + n) l = ruD n l' := by
  intro m
  induction m with
  | zero => intro i l hi h; exact ⟨l, by rw [← hi]; exact h, by rw [Nat.zero_add]⟩
  | succ m ih =>
    intro i l hi h
    obtain ⟨s1, s2⟩ := bus_step hB hw h2 ho (i := i) (by omega) h
    obtain ⟨l', b1, b2⟩ := ih (i + 1) _ (by omega) s2
    refine ⟨l', b1, ?_⟩
    rw [show m + 1 + n = (m + n) + 1 by omega, ru_skip s1]
    exact b2

/-- Behind a round: B is sent by jw, whose next is with its controller; all others have read it. -/
structure Rnd (l0 : List Dv) (B : Fr) (jw : Nat) (l : List Dv) : Prop where
  len : l.length = l0.length
  di : ∀ (j : Nat) (d : Dv), l[j]? = some d → DvI d ∧ DvB d ∧ InN 0 (gvD d) d.c
  win : ∀ (d d0 : Dv), l[jw]? = some d → l0[jw]? = some d0 → d.q.ws = rmQ d0.q.wire d0.q.ws ∧ d.q.room = d0.q.room ∧ d.q.puts = d0.q.puts ∧ d.rx = d0.rx ∧ d.ov = d0.ov
  los : ∀ (j : Nat) (d d0 : Dv), j ≠ jw → l[j]? = some d → l0[j]? = some d0 → d.q = d0.q ∧ (d.rx, d.ov) = rxU d0 B (d0.now + (((putL (boL B)).length + 8 : Nat) : Int))
  all : ∀ (j : Nat) (d d0 : Dv), l[j]? = some d → l0[j]? = some d0 → d.keep = d0.keep ∧ d.pass = d0.pass ∧ d.now = d0.now + (((putL (boL B)).length + 10 : Nat) : Int)

theorem bus_last {l : List Dv} (hB : Good B) (hw : jw < l0.length) (h2 : 2 ≤ l0.length) (ho : ∀ (j : Nat) (d0 : Dv), l0[j]? = some d0 → NodeOK B (gvD d0) (decide (j = jw))) (h : Bus l0 B jw ((putL (boL B)).length + 9) l) :
    ∀ (d0 : Dv), l0[jw]? = some d0 → tlD (alD l) = (1, d0.q.wire, B) ∧ Rnd l0 B jw ((alD l).map Prod.fst) := by
  intro dw0 hdw0
  have hb := bus_bit hB hw h2 ho (i := (putL (boL B)).length + 9) (by omega) h
  have key : ∀ (j : Nat) (d d0 : Dv), j ≠ jw → l[j]? = some d → l0[j]? = some d0 → _ := fun j d d0 hj hd hd0 => dr_step hB (h.di j d hd).1 (h.di j d hd).2 (ho j d0 hd0) (i := (putL (boL B)).length + 9) (by omega) (h.ro j d d0 hd hd0) (fun k => hj (by simpa using k.1))
  have hjw : jw < l.length := by rw [h.len]; exact hw
  have hdw := List.getElem?_eq_getElem hjw
  generalize l[jw] = dw at hdw
  have how := ho jw dw0 hdw0
  have hrw := h.ro jw dw dw0 hdw hdw0
  rw [decide_eq_true rfl] at how hrw
  obtain ⟨q, sq, s1, s2, s3, s4, s5, s6, s7, s8, s9, s10, s11, s12, s13⟩ := dr_sent hB (h.di jw dw hdw).1 how hrw
  obtain ⟨q1, q2, q3, q4⟩ := h.q jw dw dw0 hdw hdw0
  have hxw := h.rx jw dw dw0 hdw hdw0
  rw [if_neg (fun k => k.1 rfl)] at hxw
  have xw1 : dw.rx = dw0.rx := congrArg Prod.fst hxw
  have xw2 : dw.ov = dw0.ov := congrArg Prod.snd hxw
  have h0 : ∀ (j : Nat) (d : Dv), l[j]? = some d → ∃ d0, l0[j]? = some d0 := fun j d hd => by
    have hj : j < l0.length := by rw [← h.len]; exact (List.getElem?_eq_some_iff.1 hd).1
    exact ⟨_, List.getElem?_eq_getElem hj⟩
  refine ⟨?_, ⟨by rw [al_len, h.len], fun j d hd => ?_, fun d d0 hd hd0 => ?_, fun j d d0 hj hd hd0 => ?_, fun j d d0 hd hd0 => ?_⟩⟩
  · refine tl_one (t := (1, dw0.q.wire, B)) rfl (alD l) noN (fun r hr hr1 => ?_) (.inr ⟨stD dw (buD l), ?_, by rw [hb, s12, q1]⟩)
    · obtain ⟨j, hj⟩ := List.getElem?_of_mem hr
      obtain ⟨d, hd, rfl⟩ := al_at hj
      by_cases hjj : j = jw
      · subst hjj
        rw [hdw] at hd
        cases hd
        rw [hb, s12, q1]
      · obtain ⟨d0, hd0⟩ := h0 j d hd
        obtain ⟨rx, ov, _, _, _, _, k, _⟩ := key j d d0 hjj hd hd0
        rw [hb] at hr1
        exact absurd hr1 k
    · unfold alD
      exact List.mem_map_of_mem (List.mem_of_getElem? hdw)
  · obtain ⟨d1, hd1, rfl⟩ := al_fst hd
    rw [hb]
    by_cases hjj : j = jw
    · subst hjj
      rw [hdw] at hd1
      cases hd1
      exact ⟨s9, s10, s11⟩
    · obtain ⟨d0, hd0⟩ := h0 j d1 hd1
      obtain ⟨rx, ov, e, k, k1, k2, _, _⟩ := key j d1 d0 hjj hd1 hd0
      refine ⟨k1, k2, ?_⟩
      have hin := ro_in (show RoN B zeC ((putL (boL B)).length + 10) (gvD d0) (decide (j = jw)) _ from k)
      rw [decide_eq_false hjj, if_neg Bool.false_ne_true] at hin
      have hin' : InN 0 (gvD d0) (stD d1 (xB B ((putL (boL B)).length + 9))).1.c := by rw [e]; exact hin
      rw [in_gv hin']
      exact hin'
  · obtain ⟨d1, hd1, rfl⟩ := al_fst hd
    rw [hdw] at hd1
    cases hd1
    rw [hdw0] at hd0
    cases hd0
    rw [hb, sq]
    exact ⟨by rw [s1, q1], by rw [s2, q1], by rw [s3, q1], by rw [s4, xw1], by rw [s5, xw2]⟩
  · obtain ⟨d1, hd1, rfl⟩ := al_fst hd
    obtain ⟨rx, ov, e, _, _, _, _, k⟩ := key j d1 d0 hj hd1 hd0
    obtain ⟨p1, p2, p3, p4⟩ := h.q j d1 d0 hd1 hd0
    have hx := h.rx j d1 d0 hd1 hd0
    rw [if_pos ⟨hj, Nat.le_refl _⟩] at hx
    rw [hb, e]
    refine ⟨p1, ?_⟩
    show (rx, ov) = _
    rw [k, if_neg (fun k => by have := k.2; omega), hx]
  · obtain ⟨d1, hd1, rfl⟩ := al_fst hd
    rw [hb]
    by_cases hjj : j = jw
    · subst hjj
      rw [hdw] at hd1
      cases hd1
      rw [hdw0] at hd0
      cases hd0
      exact ⟨by rw [s6, q2], by rw [s7, q3], by rw [s8, q4]; omega⟩
    · obtain ⟨rx, ov, e, _⟩ := key j d1 d0 hjj hd1 hd0
      obtain ⟨p1, p2, p3, p4⟩ := h.q j d1 d0 hd1 hd0
      rw [e]
      exact ⟨p2, p3, by show d1.now + 1 = _; rw [p4]; omega⟩

/-- A round, from idle controllers on. -/
theorem round_idle (hB : Good B) (hw : jw < l0.length) (h2 : 2 ≤ l0.length) (ho : ∀ (j : Nat) (d0 : Dv), l0[j]? = some d0 → NodeOK B (gvD d0) (decide (j = jw)))
    (hd : ∀ (j : Nat) (d : Dv), l0[j]? = some d → DvI d ∧ DvB d ∧ InN 3 (gvD d) d.c) (n : Nat) :
    ∃ l, (∀ (d0 : Dv), l0[jw]? = some d0 → ruD ((putL (boL B)).length + 10 + n) l0 = (l, (1, d0.q.wire, B), true)) ∧ Rnd l0 B jw l := by
  have hP := P_pos B
  have b0 : Bus l0 B jw 0 l0 := ⟨rfl, fun j d h => ⟨(hd j d h).1, (hd j d h).2.1⟩, fun j d d0 h h0 => by
      rw [h] at h0; cases h0
      exact in_idl (hd j d h).2.2, fun j d d0 h h0 => by
      rw [h] at h0; cases h0
      exact ⟨rfl, rfl, rfl, by simp⟩, fun j d d0 h h0 => by
      rw [h] at h0; cases h0
      rw [if_neg (fun k => by have := k.2; omega)]⟩
  obtain ⟨l', b1, b2⟩ := bus_go hB hw h2 ho (n + 1) ((putL (boL B)).length + 9) 0 l0 (by omega) b0
  refine ⟨(alD l').map Prod.fst, fun d0 h0 => ?_, ?_⟩
  · obtain ⟨t1, t2⟩ := bus_last hB hw h2 ho b1 d0 h0
    rw [show (putL (boL B)).length + 10 + n = (putL (boL B)).length + 9 + (n + 1) by omega, b2, ru_stop (by rw [t1]), t1]
  · exact (bus_last hB hw h2 ho b1 _ (List.getElem?_eq_getElem hw)).2
end
end Go.Proofs.YtajdbimdiodalaaGreat

namespace Go.Proofs.YtajdbimdiodalaaGreat
open Go.RowKit Go.Sort
set_option linter.unusedVariables false
set_option linter.unusedSimpArgs false

theorem miQ_le : ∀ (l : List Qw) (b : Qw), kyQ (miQ l b) ≤ kyQ b ∧ ∀ q ∈ l, kyQ (miQ l b) ≤ kyQ q := by
  intro l
  induction l with
  | nil => intro b; exact ⟨Nat.le_refl _, fun q hq => (by cases hq)⟩
  | cons x l ih =>
    intro b
    unfold miQ
    split
    · rename_i h
      obtain ⟨h1, h2⟩ := ih x
      refine ⟨by omega, fun q hq => ?_⟩
      rcases List.mem_cons.1 hq with rfl | hq
      · exact h1
      · exact h2 q hq
    · rename_i h
      obtain ⟨h1, h2⟩ := ih b
      refine ⟨h1, fun q hq => ?_⟩
      rcases List.mem_cons.1 hq with rfl | hq
      · omega
      · exact h2 q hq
theorem beQ_le {q : Dq} {p : Qw} (hw : q.wire = 0) (h : beQ q = some p) : ∀ x ∈ q.ws, kyQ p ≤ kyQ x := by
  unfold beQ at h
  split at h
  · cases h
  · rename_i y l hl
    rw [if_pos hw] at h
    have h := Option.some.inj h
    subst h
    obtain ⟨h1, h2⟩ := miQ_le l y
    intro x hx
    rw [hl] at hx
    rcases List.mem_cons.1 hx with rfl | hx
    · exact h1
    · exact h2 x hx
/-- The key of a frame. -/
def kyG (F : Fr) : Nat := keyF F.id F.ext F.rem
/-- What its controller has is the best that waits with it. -/
theorem gv_best {d : Dv} (h : DvI d) (b : DvB d) : (gvD d = none ∧ d.q.ws = []) ∨ ∃ F, gvD d = some F ∧ Good F ∧ (F, d.q.wire) ∈ d.q.ws ∧ ∀ x ∈ d.q.ws, kyG F ≤ kyQ x := by
  unfold gvD
  by_cases hh : d.c.has = true
  · rw [if_pos hh]
    obtain ⟨h1, h2⟩ := h.hw hh
    exact .inr ⟨_, rfl, (h.no _ h2).2.2, h2, beQ_le (q := { d.q with wire := 0 }) rfl (b.be hh)⟩
  · rw [if_neg hh]
    exact .inl ⟨rfl, h.fed (by simpa using hh)⟩

/-- No key waits with two. -/
def Unlike (l : List Dv) : Prop := ∀ (i j : Nat) (d e : Dv) (p x : Qw), i ≠ j → l[i]? = some d → l[j]? = some e → p ∈ d.q.ws → x ∈ e.q.ws → kyQ p ≠ kyQ x

/-- The least of a list of what controllers may have. -/
theorem least_of : ∀ (gs : List (Option Fr)), (∀ g ∈ gs, g = none) ∨ ∃ (jw : Nat) (B : Fr), gs[jw]? = some (some B) ∧ ∀ (j : Nat) (G : Fr), gs[j]? = some (some G) → kyG B ≤ kyG G := by
  intro gs
  induction gs with
  | nil => exact .inl (fun g hg => (by cases hg))
  | cons x gs ih =>
    cases x with
    | none =>
      rcases ih with ih | ⟨jw, B, h1, h2⟩
      · refine .inl (fun g hg => ?_)
        rcases List.mem_cons.1 hg with rfl | hg
        · rfl
        · exact ih g hg
      · refine .inr ⟨jw + 1, B, by simpa using h1, fun j G hj => ?_⟩
        cases j with
        | zero => simp at hj
        | succ j => exact h2 j G (by simpa using hj)
    | some F =>
      rcases ih with ih | ⟨jw, B, h1, h2⟩
      · refine .inr ⟨0, F, by simp, fun j G hj => ?_⟩
        cases j with
        | zero => simp at hj; subst hj; exact Nat.le_refl _
        | succ j =>
          have := ih _ (List.mem_of_getElem? (by simpa using hj))
          cases this
      · by_cases hk : kyG F ≤ kyG B
        · refine .inr ⟨0, F, by simp, fun j G hj => ?_⟩
          cases j with
          | zero => simp at hj; subst hj; exact Nat.le_refl _
          | succ j => exact Nat.le_trans hk (h2 j G (by simpa using hj))
        · refine .inr ⟨jw + 1, B, by simpa using h1, fun j G hj => ?_⟩
          cases j with
          | zero => simp at hj; subst hj; omega
          | succ j => exact h2 j G (by simpa using hj)

/-- Who wins: of all that wait the one with the least key; all others may lose to it. -/
theorem winner {l : List Dv} (hd : ∀ (j : Nat) (d : Dv), l[j]? = some d → DvI d ∧ DvB d) (hu : Unlike l) (hs : ∃ d ∈ l, d.q.ws ≠ []) :
    ∃ (jw : Nat) (B : Fr) (dw : Dv), l[jw]? = some dw ∧ gvD dw = some B ∧ Good B ∧ (B, dw.q.wire) ∈ dw.q.ws ∧ (∀ (j : Nat) (d0 : Dv), l[j]? = some d0 → NodeOK B (gvD d0) (decide (j = jw))) ∧ ∀ d ∈ l, ∀ x ∈ d.q.ws, kyG B ≤ kyQ x := by
  rcases least_of (l.map gvD) with h | ⟨jw, B, h1, h2⟩
  · obtain ⟨d, hm, hne⟩ := hs
    obtain ⟨j, hj⟩ := List.getElem?_of_mem hm
    have := h (gvD d) (List.mem_map_of_mem hm)
    rcases gv_best (hd j d hj).1 (hd j d hj).2 with ⟨_, e⟩ | ⟨F, e, _⟩
    · exact absurd e hne
    · rw [e] at this; cases this
  · rw [List.getElem?_map] at h1
    cases hw : l[jw]? with
    | none => rw [hw] at h1; cases h1
    | some dw =>
      rw [hw] at h1
      have hg : gvD dw = some B := Option.some.inj h1
      have hB : Good B ∧ (B, dw.q.wire) ∈ dw.q.ws := by
        rcases gv_best (hd jw dw hw).1 (hd jw dw hw).2 with ⟨e, _⟩ | ⟨F, e, a, b, _⟩
        · rw [e] at hg; cases hg
        · rw [e] at hg; cases hg; exact ⟨a, b⟩
      refine ⟨jw, B, dw, hw, hg, hB.1, hB.2, fun j d0 hj => ?_, fun d hm x hx => ?_⟩
      · refine ⟨fun k => ?_, fun k G hG => ?_⟩
        · have : j = jw := by simpa using k
          subst this
          rw [hw] at hj; cases hj; exact hg
        · have hne : j ≠ jw := by simpa using k
          rcases gv_best (hd j d0 hj).1 (hd j d0 hj).2 with ⟨e, _⟩ | ⟨F, e, a, b, _⟩
          · rw [e] at hG; cases hG
          · rw [e] at hG
            cases hG
            have hle := h2 j G (by rw [List.getElem?_map, hj]; exact congrArg some e)
            have hnk : kyG B ≠ kyG G := hu jw j dw d0 (B, dw.q.wire) (G, d0.q.wire) (fun k => hne k.symm) hw hj hB.2 b
            refine ⟨a, Pair.mk' hB.1 a ?_⟩
            rw [key_before]
            exact decide_eq_true (by unfold kyG at hle hnk; omega)
      · obtain ⟨j, hj⟩ := List.getElem?_of_mem hm
        rcases gv_best (hd j d hj).1 (hd j d hj).2 with ⟨_, e⟩ | ⟨F, e, _, _, k⟩
        · rw [e] at hx; cases hx
        · exact Nat.le_trans (h2 j F (by rw [List.getElem?_map, hj]; exact congrArg some e)) (k x hx)

/-- Drivers that differ in their controllers and the time alone. -/
structure Pass (t : Nat) (l l' : List Dv) : Prop where
  len : l'.length = l.length
  eq : ∀ (j : Nat) (d d' : Dv), l[j]? = some d → l'[j]? = some d' → ∃ c, d' = { d with c := c, now := d.now + t }

theorem Pass.at {t : Nat} {l l' : List Dv} (h : Pass t l l') {j : Nat} {d' : Dv} (hd : l'[j]? = some d') : ∃ d, l[j]? = some d := by
  have hj : j < l.length := by rw [← h.len]; exact (List.getElem?_eq_some_iff.1 hd).1
  exact ⟨_, List.getElem?_eq_getElem hj⟩

/-- The bits between frames. -/
theorem inter {l0 : List Dv} : ∀ (m j : Nat) (l : List Dv), j + m = 3 → Pass j l0 l → (∀ (i : Nat) (d d0 : Dv), l[i]? = some d → l0[i]? = some d0 → DvI d ∧ DvB d ∧ InN j (gvD d0) d.c) →
    ∃ l', Pass 3 l0 l' ∧ (∀ (i : Nat) (d d0 : Dv), l'[i]? = some d → l0[i]? = some d0 → DvI d ∧ DvB d ∧ InN 3 (gvD d0) d.c) ∧ ∀ n, ruD (m + n) l = ruD n l' := by
  intro m
  induction m with
  | zero =>
    intro j l hj hp hd
    have : j = 3 := by omega
    subst this
    exact ⟨l, hp, hd, fun n => by rw [Nat.zero_add]⟩
  | succ m ih =>
    intro j l hj hp hd
    have hb : buD l = true := by
      unfold buD
      rw [List.all_eq_true]
      intro d hm
      obtain ⟨i, hi⟩ := List.getElem?_of_mem hm
      obtain ⟨d0, h0⟩ := hp.at hi
      exact (in_step (hd i d d0 hi h0).2.2 (by omega)).2.2
    have key : ∀ (i : Nat) (d d0 : Dv), l[i]? = some d → l0[i]? = some d0 → _ := fun i d d0 hi h0 => dr_in (hd i d d0 hi h0).1 (hd i d d0 hi h0).2.1 (j := j) (by omega) (hd i d d0 hi h0).2.2
    have ht : (tlD (alD l)).1 ≠ 1 := tl_none (fun r hr => by
      obtain ⟨i, hi⟩ := List.getElem?_of_mem hr
      obtain ⟨d, hdd, rfl⟩ := al_at hi
      obtain ⟨d0, h0⟩ := hp.at hdd
      rw [hb]; exact (key i d d0 hdd h0).2.2.2.2)
    obtain ⟨l', p1, p2, p3⟩ := ih (j + 1) ((alD l).map Prod.fst) (by omega) ⟨by rw [al_len, hp.len], fun i d d' hi hi' => by
        obtain ⟨d1, h1, rfl⟩ := al_fst hi'
        obtain ⟨c, rfl⟩ := hp.eq i d d1 hi h1
        rw [hb, (key i _ d h1 hi).1]
        exact ⟨_, by dsimp only; rw [show d.now + ((j + 1 : Nat) : Int) = d.now + (j : Int) + 1 by omega]⟩⟩ (fun i d d0 hi h0 => by
        obtain ⟨d1, h1, rfl⟩ := al_fst hi
        obtain ⟨k1, k2, k3, k4, _⟩ := key i d1 d0 h1 h0
        rw [hb]
        exact ⟨k3, k4, by rw [k1]; exact k2⟩)
    exact ⟨l', p1, p2, fun n => by rw [show m + 1 + n = (m + n) + 1 by omega, ru_skip ht]; exact p3 n⟩
end Go.Proofs.YtajdbimdiodalaaGreat

namespace Go.Proofs.YtajdbimdiodalaaGreat
open Go.RowKit Go.Sort
set_option linter.unusedVariables false
set_option linter.unusedSimpArgs false

/-- A driver that is idle, or between frames. -/
structure DvF (j : Nat) (d : Dv) : Prop where
  i : DvI d
  b : DvB d
  n : InN j (gvD d) d.c

/-- Behind a round, T bits after l0. -/
structure RndT (T : Nat) (l0 : List Dv) (B : Fr) (jw : Nat) (l : List Dv) : Prop where
  len : l.length = l0.length
  di : ∀ (j : Nat) (d : Dv), l[j]? = some d → DvF 0 d
  win : ∀ (d d0 : Dv), l[jw]? = some d → l0[jw]? = some d0 → d.q.ws = rmQ d0.q.wire d0.q.ws ∧ d.q.room = d0.q.room ∧ d.q.puts = d0.q.puts ∧ d.rx = d0.rx ∧ d.ov = d0.ov
  los : ∀ (j : Nat) (d d0 : Dv), j ≠ jw → l[j]? = some d → l0[j]? = some d0 → d.q = d0.q ∧ ∃ t, (d.rx, d.ov) = rxU d0 B t
  all : ∀ (j : Nat) (d d0 : Dv), l[j]? = some d → l0[j]? = some d0 → d.keep = d0.keep ∧ d.pass = d0.pass

theorem Rnd.le {l0 l : List Dv} {B : Fr} {jw : Nat} (h : Rnd l0 B jw l) : RndT 0 l0 B jw l :=
  ⟨h.len, fun j d hd => ⟨(h.di j d hd).1, (h.di j d hd).2.1, (h.di j d hd).2.2⟩, h.win, fun j d d0 hj hd h0 => ⟨(h.los j d d0 hj hd h0).1, _, (h.los j d d0 hj hd h0).2⟩, fun j d d0 hd h0 => ⟨(h.all j d d0 hd h0).1, (h.all j d d0 hd h0).2.1⟩⟩

/-- A round of idle drivers. -/
theorem round_a {l0 : List Dv} (h2 : 2 ≤ l0.length) (hd : ∀ (j : Nat) (d : Dv), l0[j]? = some d → DvF 3 d) (hu : Unlike l0) (hs : ∃ d ∈ l0, d.q.ws ≠ []) (n : Nat) (hn : 160 ≤ n) :
    ∃ (jw : Nat) (B : Fr) (dw : Dv) (l : List Dv), l0[jw]? = some dw ∧ Good B ∧ (B, dw.q.wire) ∈ dw.q.ws ∧ ruD n l0 = (l, (1, dw.q.wire, B), true) ∧ RndT 0 l0 B jw l ∧ ∀ d ∈ l0, ∀ x ∈ d.q.ws, kyG B ≤ kyQ x := by
  obtain ⟨jw, B, dw, w1, w2, w3, w4, w5, w6⟩ := winner (fun j d h => ⟨(hd j d h).i, (hd j d h).b⟩) hu hs
  have hjw : jw < l0.length := (List.getElem?_eq_some_iff.1 w1).1
  have hP := P_top w3
  obtain ⟨l, r1, r2⟩ := round_idle w3 hjw h2 w5 (fun j d h => ⟨(hd j d h).i, (hd j d h).b, (hd j d h).n⟩) (n - ((putL (boL B)).length + 10))
  have := r1 dw w1
  rw [show (putL (boL B)).length + 10 + (n - ((putL (boL B)).length + 10)) = n by omega] at this
  exact ⟨jw, B, dw, l, w1, w3, w4, this, r2.le, w6⟩

theorem pass_f {l0 l : List Dv} (hp : Pass 3 l0 l) (hi : ∀ (i : Nat) (d d0 : Dv), l[i]? = some d → l0[i]? = some d0 → DvI d ∧ DvB d ∧ InN 3 (gvD d0) d.c) : ∀ (j : Nat) (d : Dv), l[j]? = some d → DvF 3 d := fun j d h => by
  obtain ⟨d0, h0⟩ := hp.at h
  obtain ⟨a, b, c⟩ := hi j d d0 h h0
  exact ⟨a, b, by rw [in_gv c]; exact c⟩

/-- A round from between frames on. -/
theorem round_b {l0 : List Dv} (h2 : 2 ≤ l0.length) (hd : ∀ (j : Nat) (d : Dv), l0[j]? = some d → DvF 0 d) (hu : Unlike l0) (hs : ∃ d ∈ l0, d.q.ws ≠ []) (n : Nat) (hn : 163 ≤ n) :
    ∃ (jw : Nat) (B : Fr) (dw : Dv) (l : List Dv), l0[jw]? = some dw ∧ Good B ∧ (B, dw.q.wire) ∈ dw.q.ws ∧ ruD n l0 = (l, (1, dw.q.wire, B), true) ∧ RndT 3 l0 B jw l ∧ ∀ d ∈ l0, ∀ x ∈ d.q.ws, kyG B ≤ kyQ x := by
  obtain ⟨l1, p1, p2, p3⟩ := inter (l0 := l0) 3 0 l0 rfl ⟨rfl, fun j d d' h h' => by rw [h] at h'; cases h'; exact ⟨d.c, by simp⟩⟩ (fun i d d0 h h0 => by
    rw [h] at h0; cases h0
    exact ⟨(hd i d h).i, (hd i d h).b, (hd i d h).n⟩)
  have hf := pass_f p1 p2
  have hq : ∀ (j : Nat) (d d' : Dv), l0[j]? = some d → l1[j]? = some d' → d'.q = d.q ∧ d'.rx = d.rx ∧ d'.ov = d.ov ∧ d'.keep = d.keep ∧ d'.pass = d.pass := fun j d d' h h' => by
    obtain ⟨c, rfl⟩ := p1.eq j d d' h h'
    exact ⟨rfl, rfl, rfl, rfl, rfl⟩
  have to1 : ∀ (j : Nat) (d : Dv), l0[j]? = some d → ∃ d', l1[j]? = some d' := fun j d h => by
    have hj : j < l1.length := by rw [p1.len]; exact (List.getElem?_eq_some_iff.1 h).1
    exact ⟨_, List.getElem?_eq_getElem hj⟩
  obtain ⟨jw, B, dw, l, a1, a2, a3, a4, a5, a6⟩ := round_a (l0 := l1) (by rw [p1.len]; exact h2) hf (fun i j d e p x hij hi hj hp hx => by
      obtain ⟨d0, h0⟩ := p1.at hi
      obtain ⟨e0, k0⟩ := p1.at hj
      rw [(hq i d0 d h0 hi).1] at hp
      rw [(hq j e0 e k0 hj).1] at hx
      exact hu i j d0 e0 p x hij h0 k0 hp hx) (by
      obtain ⟨d, hm, hne⟩ := hs
      obtain ⟨j, hj⟩ := List.getElem?_of_mem hm
      obtain ⟨d', hj'⟩ := to1 j d hj
      exact ⟨d', List.mem_of_getElem? hj', by rw [(hq j d d' hj hj').1]; exact hne⟩) (n - 3) (by omega)
  obtain ⟨d0, h0⟩ := p1.at a1
  obtain ⟨q1, q2, q3, q4, q5⟩ := hq jw d0 dw h0 a1
  have hrun : ruD n l0 = ruD (n - 3) l1 := by
    have := p3 (n - 3)
    rw [show 3 + (n - 3) = n by omega] at this
    exact this
  refine ⟨jw, B, d0, l, h0, a2, by rw [← q1]; exact a3, by rw [hrun, a4, q1], ⟨by rw [a5.len, p1.len], a5.di, fun d e hd he => ?_, fun j d e hj hd he => ?_, fun j d e hd he => ?_⟩, fun d hm x hx => ?_⟩
  · obtain ⟨d', hd'⟩ := to1 jw e he
    obtain ⟨b1, b2, b3, b4, b5⟩ := a5.win d d' hd hd'
    obtain ⟨r1, r2, r3, r4, r5⟩ := hq jw e d' he hd'
    exact ⟨by rw [b1, r1], by rw [b2, r1], by rw [b3, r1], by rw [b4, r2], by rw [b5, r3]⟩
  · obtain ⟨d', hd'⟩ := to1 j e he
    obtain ⟨b1, t, b2⟩ := a5.los j d d' hj hd hd'
    obtain ⟨r1, r2, r3, r4, r5⟩ := hq j e d' he hd'
    refine ⟨by rw [b1, r1], t, ?_⟩
    rw [b2]
    unfold rxU
    rw [r2, r3, r4, r5]
  · obtain ⟨d', hd'⟩ := to1 j e he
    obtain ⟨b1, b2⟩ := a5.all j d d' hd hd'
    obtain ⟨r1, r2, r3, r4, r5⟩ := hq j e d' he hd'
    exact ⟨by rw [b1, r4], by rw [b2, r5]⟩
  · obtain ⟨j, hj⟩ := List.getElem?_of_mem hm
    obtain ⟨d', hj'⟩ := to1 j d hj
    exact a6 d' (List.mem_of_getElem? hj') x (by rw [(hq j d d' hj hj').1]; exact hx)

/-- Nothing waits anywhere: nothing more is sent. -/
theorem rest_a : ∀ (n : Nat) (l : List Dv), (∀ (j : Nat) (d : Dv), l[j]? = some d → DvI d ∧ DvB d ∧ InN 3 none d.c) → ∃ l', ruD n l = (l', noN, false) ∧ Pass n l l' := by
  intro n
  induction n with
  | zero => intro l _; exact ⟨l, rfl, rfl, fun j d d' h h' => by rw [h] at h'; cases h'; exact ⟨d.c, by simp⟩⟩
  | succ n ih =>
    intro l hd
    have hb : buD l = true := by
      unfold buD
      rw [List.all_eq_true]
      intro d hm
      obtain ⟨i, hi⟩ := List.getElem?_of_mem hm
      exact (in_rest (hd i d hi).2.2).2
    have key : ∀ (i : Nat) (d : Dv), l[i]? = some d → _ := fun i d hi => dr_rest (hd i d hi).1 (hd i d hi).2.1 (hd i d hi).2.2
    have ht : (tlD (alD l)).1 ≠ 1 := tl_none (fun r hr => by
      obtain ⟨i, hi⟩ := List.getElem?_of_mem hr
      obtain ⟨d, hdd, rfl⟩ := al_at hi
      rw [hb]; exact (key i d hdd).2.2.2)
    obtain ⟨l', r1, r2⟩ := ih ((alD l).map Prod.fst) (fun i d hi => by
      obtain ⟨d1, h1, rfl⟩ := al_fst hi
      obtain ⟨k1, k2, k3, _⟩ := key i d1 h1
      rw [hb]
      exact ⟨k2, k3, by rw [k1]; exact (hd i d1 h1).2.2⟩)
    refine ⟨l', by rw [ru_skip ht]; exact r1, by rw [r2.len, al_len], fun j d d' h h' => ?_⟩
    have hj : ((alD l).map Prod.fst)[j]? = some (stD d (buD l)).1 := by
      unfold alD
      rw [List.getElem?_map, List.getElem?_map, h]; rfl
    obtain ⟨c, rfl⟩ := r2.eq j _ d' hj h'
    rw [hb, (key j d h).1]
    exact ⟨c, by dsimp only; rw [show d.now + 1 + (n : Int) = d.now + ((n + 1 : Nat) : Int) by omega]⟩

/-- A driver of New's. -/
theorem newD_F (pass : Fr → Bool) (mails keep : Nat) : DvF 3 (newD pass mails keep) :=
  ⟨newD_I pass mails keep, ⟨rfl, fun e => (by cases e)⟩, ⟨c0, rfl, rfl, rfl, rfl⟩⟩

/-- Fed while it sends nothing, it has the best. -/
theorem feD_B {d : Dv} (h : DvJ d) (hs : d.c.sends = false) (ha : d.q.ab = false) {j : Nat} {g : Option Fr} (hn : InN j g d.c) : DvF j (feD d) := by
  have hI := (feD_I h).1
  have hba : (baD d).c.has = false ∧ (baD d).q = { d.q with wire := 0 } ∧ InN j none (baD d).c := by
    unfold baD
    by_cases hh : d.c.has = true
    · rw [if_pos (by rw [hh, hs]; simp)]
      refine ⟨rfl, ?_, ?_⟩
      · show loQ d.q = _
        unfold loQ
        rw [if_neg (by rw [ha]; simp)]
        simp [ha]
      · obtain ⟨A, e, a1, a2, a3⟩ := hn
        refine ⟨{ A with has := false, give := zeroFr }, ?_, a1, rfl, rfl⟩
        show ({ d.c with has := false, give := zeroFr } : Ct) = _
        rw [e]
        unfold btC; split <;> rfl
    · have hh : d.c.has = false := by simpa using hh
      rw [if_neg (by rw [hh]; simp)]
      refine ⟨hh, ?_, ?_⟩
      · have := (h.h0 hh).1
        rw [← this]
      · have hg := in_gv hn
        unfold gvD at hg
        rw [if_neg (by rw [hh]; simp)] at hg
        rw [hg]; exact hn
  obtain ⟨b1, b2, b3⟩ := hba
  have hfe : feD d = giD (baD d) := rfl
  have hgi : giD (baD d) = (match beQ (baD d).q with
    | none => baD d
    | some p => { baD d with c := { (baD d).c with has := true, give := p.1 }, q := { (baD d).q with wire := p.2 } }) := by
    unfold giD
    rw [if_neg (by rw [b1]; simp)]
    cases beQ (baD d).q <;> rfl
  rw [hfe] at hI ⊢
  rw [hgi] at hI ⊢
  cases hb : beQ (baD d).q with
  | none =>
    rw [hb] at hI
    exact ⟨hI, ⟨by show (baD d).q.ab = false; rw [b2]; exact ha, fun e => by have e : (baD d).c.has = true := e; rw [b1] at e; cases e⟩, by
      show InN j (gvD (baD d)) (baD d).c
      rw [in_gv b3]; exact b3⟩
  | some p =>
    rw [hb] at hI
    refine ⟨hI, ⟨by show (baD d).q.ab = false; rw [b2]; exact ha, fun _ => ?_⟩, in_give p.1 b3⟩
    show beQ { (baD d).q with wire := 0 } = some (p.1, p.2)
    rw [← hb, b2]

/-- A right frame is sent to a driver that is idle, or between frames. -/
theorem snD_F {d : Dv} {j : Nat} (h : DvF j d) {F : Fr} (hF : Good F) (hr : d.q.ws.length < d.q.room) : DvF j (snD d F) ∧ (snD d F).q.ws = d.q.ws ++ [(F, d.q.puts + 1)] := by
  obtain ⟨h, hb, hn⟩ := h
  have e : snD d F = feD { d with q := { d.q with ws := d.q.ws ++ [(F, d.q.puts + 1)], puts := d.q.puts + 1 } } := if_neg (by omega)
  have hs : d.c.sends = false := by
    obtain ⟨A, e, _⟩ := hn
    rw [e]
    unfold btC; split <;> rfl
  have hJ : DvJ { d with q := { d.q with ws := d.q.ws ++ [(F, d.q.puts + 1)], puts := d.q.puts + 1 } } := by
    refine ⟨h.on, fun hh => ?_, h.h0, fun p hp => ?_, ?_, ?_, h.kp⟩
    · obtain ⟨a, b⟩ := h.hw hh
      exact ⟨a, List.mem_append_left _ b⟩
    · rcases List.mem_append.1 hp with hp | hp
      · obtain ⟨a, b, c⟩ := h.no p hp
        exact ⟨a, by show p.2 ≤ d.q.puts + 1; omega, c⟩
      · rw [List.mem_singleton] at hp; subst hp
        exact ⟨by show 1 ≤ d.q.puts + 1; omega, Nat.le_refl _, hF⟩
    · show (d.q.ws ++ [(F, d.q.puts + 1)]).Pairwise _
      rw [List.pairwise_append]
      refine ⟨h.up, List.pairwise_singleton _ _, fun p hp x hx => ?_⟩
      rw [List.mem_singleton] at hx; subst hx
      have := (h.no p hp).2.1
      show p.2 < d.q.puts + 1
      omega
    · show (d.q.ws ++ [(F, d.q.puts + 1)]).length ≤ d.q.room
      rw [List.length_append, List.length_singleton]; omega
  rw [e]
  refine ⟨feD_B hJ hs hb.ab hn, ?_⟩
  have hab : ({ d with q := { d.q with ws := d.q.ws ++ [(F, d.q.puts + 1)], puts := d.q.puts + 1 } } : Dv).q.ab = false := hb.ab
  unfold feD
  rw [(giD_I (baD_J hJ).1).2.2]
  unfold baD
  split
  · show (loQ _).ws = _
    rw [loQ_ws, if_neg (by rw [hab]; simp)]
  · rfl
end Go.Proofs.YtajdbimdiodalaaGreat

namespace Go.Proofs.YtajdbimdiodalaaGreat
open Go.RowKit Go.Sort
set_option linter.unusedVariables false
set_option linter.unusedSimpArgs false

theorem rmQ_fst {B : Fr} {w : Nat} : ∀ (l : List Qw), l.Pairwise (fun p q => p.2 < q.2) → (l.map Prod.fst).Nodup → (B, w) ∈ l → (rmQ w l).map Prod.fst = (l.map Prod.fst).filter (fun F => !decide (F = B)) := by
  intro l
  induction l with
  | nil => intro _ _ h; cases h
  | cons x l ih =>
    intro hp hn hm
    rw [List.pairwise_cons] at hp
    rw [List.map_cons, List.nodup_cons] at hn
    by_cases hx : x.2 = w
    · have hxB : x = (B, w) := by
        rcases List.mem_cons.1 hm with h | h
        · exact h.symm
        · have := hp.1 _ h
          omega
      have hno : ∀ F ∈ l.map Prod.fst, (!decide (F = B)) = true := fun F hF => by
        have : F ≠ B := fun e => hn.1 (by rw [hxB]; rw [e] at hF; exact hF)
        simp [this]
      unfold rmQ
      rw [List.eraseP_cons_of_pos (by simpa using hx), List.map_cons, List.filter_cons_of_neg (by rw [hxB]; simp), List.filter_eq_self.2 hno]
    · have hml : (B, w) ∈ l := by
        rcases List.mem_cons.1 hm with h | h
        · exact absurd (by rw [← h]) hx
        · exact h
      have hxB : x.1 ≠ B := fun e => hn.1 (by rw [e]; exact List.mem_map_of_mem hml)
      have e : rmQ w (x :: l) = x :: rmQ w l := by
        unfold rmQ
        rw [List.eraseP_cons_of_neg (by simpa using hx)]
      rw [e, List.map_cons, List.map_cons, List.filter_cons_of_pos (by simp [hxB]), ih hp.2 hn.2 hml]

/-- How many wait. -/
def cnD (l : List Dv) : Nat := (l.map (fun d => d.q.ws.length)).sum
theorem sum_one : ∀ (a b : List Nat) (k : Nat), a.length = b.length → (∀ j, j ≠ k → a[j]? = b[j]?) → (∃ n, a[k]? = some n ∧ b[k]? = some (n + 1)) → a.sum + 1 = b.sum := by
  intro a
  induction a with
  | nil =>
    intro b k _ _ h
    obtain ⟨n, h, _⟩ := h
    simp at h
  | cons x a ih =>
    intro b k hl he hk
    cases b with
    | nil => simp at hl
    | cons y b =>
      cases k with
      | zero =>
        obtain ⟨n, h1, h2⟩ := hk
        simp at h1 h2
        have : a = b := List.ext_getElem? (fun j => by have := he (j + 1) (by omega); simpa using this)
        rw [this, List.sum_cons, List.sum_cons]; omega
      | succ k =>
        have h0 : x = y := by have := he 0 (by omega); simpa using this
        have := ih b k (by simpa using hl) (fun j hj => by have := he (j + 1) (by omega); simpa using this) (by
          obtain ⟨n, h1, h2⟩ := hk
          exact ⟨n, by simpa using h1, by simpa using h2⟩)
        rw [List.sum_cons, List.sum_cons]; omega

theorem sum_zero : ∀ (l : List Nat), (∀ x ∈ l, x = 0) → l.sum = 0 := by
  intro l
  induction l with
  | nil => intro _; rfl
  | cons x l ih =>
    intro h
    rw [List.sum_cons, h x (by simp), ih (fun y hy => h y (by simp [hy]))]

theorem mem_sum : ∀ (l : List Nat) (n : Nat), n ∈ l → n ≤ l.sum := by
  intro l
  induction l with
  | nil => intro n h; cases h
  | cons x l ih =>
    intro n h
    rw [List.sum_cons]
    rcases List.mem_cons.1 h with rfl | h
    · omega
    · have := ih n h; omega

/-- Frames of several: unlike in their keys. -/
structure KeyU (of : List (List Fr)) : Prop where
  nd : ∀ (j : Nat) (L : List Fr), of[j]? = some L → L.Nodup
  kn : ∀ (j : Nat) (L : List Fr) (F G : Fr), of[j]? = some L → F ∈ L → G ∈ L → F ≠ G → kyG F ≠ kyG G
  un : ∀ (i j : Nat) (L M : List Fr) (F G : Fr), i ≠ j → of[i]? = some L → of[j]? = some M → F ∈ L → G ∈ M → kyG F ≠ kyG G

/-- Drivers when some of their frames were sent. -/
structure OrdD (of : List (List Fr)) (sent : List Fr) (keep all t : Nat) (l : List Dv) : Prop where
  len : l.length = of.length
  f : ∀ (j : Nat) (d : Dv), l[j]? = some d → DvF t d ∧ d.keep = keep
  ws : ∀ (j : Nat) (d : Dv) (L : List Fr), l[j]? = some d → of[j]? = some L → d.q.ws.map Prod.fst = L.filter (fun F => !decide (F ∈ sent))
  rx : ∀ (j : Nat) (d : Dv) (L : List Fr), l[j]? = some d → of[j]? = some L → d.rx.map Prod.fst = sent.filter (fun F => !decide (F ∈ L) && d.pass F) ∧ d.ov = false
  cn : cnD l + sent.length = all
  lt : ∀ F, sent.getLast? = some F → ∀ d ∈ l, ∀ x ∈ d.q.ws, kyG F < kyQ x

section
variable {of : List (List Fr)} {sent : List Fr} {keep all t : Nat} {l : List Dv}
theorem OrdD.of_at (h : OrdD of sent keep all t l) {j : Nat} {d : Dv} (hd : l[j]? = some d) : ∃ L, of[j]? = some L := by
  have hj : j < of.length := by rw [← h.len]; exact (List.getElem?_eq_some_iff.1 hd).1
  exact ⟨_, List.getElem?_eq_getElem hj⟩
theorem OrdD.mem (h : OrdD of sent keep all t l) {j : Nat} {d : Dv} {L : List Fr} (hd : l[j]? = some d) (hL : of[j]? = some L) {p : Qw} (hp : p ∈ d.q.ws) : p.1 ∈ L ∧ p.1 ∉ sent := by
  have := List.mem_map_of_mem (f := Prod.fst) hp
  rw [h.ws j d L hd hL, List.mem_filter] at this
  exact ⟨this.1, by simpa using this.2⟩
theorem OrdD.unlike (h : OrdD of sent keep all t l) (hu : KeyU of) : Unlike l := fun i j d e p x hij hd he hp hx => by
  obtain ⟨L, hL⟩ := h.of_at hd
  obtain ⟨M, hM⟩ := h.of_at he
  exact hu.un i j L M p.1 x.1 hij hL hM (h.mem hd hL hp).1 (h.mem he hM hx).1
theorem OrdD.some_ws (h : OrdD of sent keep all t l) (hn : sent.length < all) : ∃ d ∈ l, d.q.ws ≠ [] := by
  apply Classical.byContradiction
  intro hc
  have hz : cnD l = 0 := by
    unfold cnD
    refine sum_zero _ (fun x hx => ?_)
    obtain ⟨d, hd, rfl⟩ := List.mem_map.1 hx
    have : d.q.ws = [] := Classical.byContradiction (fun k => hc ⟨d, hd, k⟩)
    rw [this]; rfl
  have := h.cn
  omega

/-- One more is sent. -/
theorem OrdD.next (h : OrdD of sent keep all t l) (hu : KeyU of) {T jw : Nat} {B : Fr} {dw : Dv} {l' : List Dv} (hw : l[jw]? = some dw) (hm : (B, dw.q.wire) ∈ dw.q.ws) (hr : RndT T l B jw l') (hle : ∀ d ∈ l, ∀ x ∈ d.q.ws, kyG B ≤ kyQ x) (hk : sent.length < keep) :
    OrdD of (sent ++ [B]) keep all 0 l' ∧ ∀ F, sent.getLast? = some F → kyG F < kyG B := by
  obtain ⟨Lw, hLw⟩ := h.of_at hw
  have hBL := h.mem hw hLw hm
  have hfe : ∀ L : List Fr, L.filter (fun F => !decide (F ∈ sent ++ [B])) = (L.filter (fun F => !decide (F ∈ sent))).filter (fun F => !decide (F = B)) := fun L => by
    rw [List.filter_filter]
    refine List.filter_congr (fun F _ => ?_)
    by_cases h1 : F ∈ sent <;> by_cases h2 : F = B <;> simp [h1, h2]
  have back : ∀ (j : Nat) (d : Dv), l'[j]? = some d → ∃ d0, l[j]? = some d0 := fun j d hd => by
    have hj : j < l.length := by rw [← hr.len]; exact (List.getElem?_eq_some_iff.1 hd).1
    exact ⟨_, List.getElem?_eq_getElem hj⟩
  have hBn : ∀ (j : Nat) (L : List Fr), j ≠ jw → of[j]? = some L → B ∉ L := fun j L hj hL hB => hu.un j jw L Lw B B hj hL hLw hB hBL.1 rfl
  have wsw : ∀ (d : Dv), l'[jw]? = some d → d.q.ws.map Prod.fst = Lw.filter (fun F => !decide (F ∈ sent ++ [B])) := fun d hd => by
    obtain ⟨b1, _⟩ := hr.win d dw hd hw
    rw [b1, rmQ_fst _ (h.f jw dw hw).1.i.up (by rw [h.ws jw dw Lw hw hLw]; exact (hu.nd jw Lw hLw).filter _) hm, h.ws jw dw Lw hw hLw, hfe]
  have wsj : ∀ (j : Nat) (d : Dv) (L : List Fr), l'[j]? = some d → of[j]? = some L → d.q.ws.map Prod.fst = L.filter (fun F => !decide (F ∈ sent ++ [B])) := fun j d L hd hL => by
    by_cases hj : j = jw
    · subst hj
      rw [hLw] at hL; cases hL
      exact wsw d hd
    · obtain ⟨d0, h0⟩ := back j d hd
      rw [(hr.los j d d0 hj hd h0).1, h.ws j d0 L h0 hL, hfe, List.filter_filter]
      refine List.filter_congr (fun F hF => ?_)
      have : F ≠ B := fun e => hBn j L hj hL (by rw [← e]; exact hF)
      simp [this]
  refine ⟨⟨by rw [hr.len, h.len], fun j d hd => ?_, wsj, fun j d L hd hL => ?_, ?_, fun F hF d hd x hx => ?_⟩, fun F hF => h.lt F hF dw (List.mem_of_getElem? hw) _ hm⟩
  · obtain ⟨d0, h0⟩ := back j d hd
    exact ⟨hr.di j d hd, by rw [(hr.all j d d0 hd h0).1]; exact (h.f j d0 h0).2⟩
  · obtain ⟨d0, h0⟩ := back j d hd
    obtain ⟨r1, r2⟩ := h.rx j d0 L h0 hL
    obtain ⟨a1, a2⟩ := hr.all j d d0 hd h0
    rw [List.filter_append, a2]
    by_cases hj : j = jw
    · subst hj
      rw [hLw] at hL; cases hL
      rw [hw] at h0; cases h0
      obtain ⟨_, _, _, b4, b5⟩ := hr.win d dw hd hw
      rw [b4, b5, r1, List.filter_cons_of_neg (by simp [hBL.1]), List.filter_nil, List.append_nil]
      exact ⟨rfl, r2⟩
    · obtain ⟨_, t, b2⟩ := hr.los j d d0 hj hd h0
      have hB := hBn j L hj hL
      have hlen : d0.rx.length ≤ sent.length := by
        have := congrArg List.length r1
        rw [List.length_map] at this
        rw [this]; exact List.length_filter_le ..
      unfold rxU at b2
      by_cases hp : d0.pass B = true
      · rw [if_pos hp, if_pos (by rw [(h.f j d0 h0).2]; omega)] at b2
        have e1 : d.rx = d0.rx ++ [(B, t)] := congrArg Prod.fst b2
        have e2 : d.ov = d0.ov := congrArg Prod.snd b2
        rw [e1, e2, List.map_append, r1, List.filter_cons_of_pos (by simp [hB, hp])]
        exact ⟨rfl, r2⟩
      · rw [if_neg hp] at b2
        have e1 : d.rx = d0.rx := congrArg Prod.fst b2
        have e2 : d.ov = d0.ov := congrArg Prod.snd b2
        rw [e1, e2, r1, List.filter_cons_of_neg (by simp [hp]), List.filter_nil, List.append_nil]
        exact ⟨rfl, r2⟩
  · have hjw : jw < l'.length := by rw [hr.len]; exact (List.getElem?_eq_some_iff.1 hw).1
    have hd := List.getElem?_eq_getElem hjw
    have hlen : l'[jw].q.ws.length + 1 = dw.q.ws.length := by
      rw [(hr.win _ dw hd hw).1]
      unfold rmQ
      rw [List.length_eraseP_of_mem hm (by simp)]
      have := List.length_pos_of_mem hm
      omega
    have := sum_one (l'.map (fun d => d.q.ws.length)) (l.map (fun d => d.q.ws.length)) jw (by rw [List.length_map, List.length_map, hr.len]) (fun j hj => by
      rw [List.getElem?_map, List.getElem?_map]
      cases e : l'[j]? with
      | none =>
        have : l[j]? = none := by
          rw [List.getElem?_eq_none_iff] at e ⊢
          rw [hr.len] at e; exact e
        rw [this]
      | some d =>
        obtain ⟨d0, h0⟩ := back j d e
        rw [h0]
        show some d.q.ws.length = some d0.q.ws.length
        rw [(hr.los j d d0 hj e h0).1]) ⟨l'[jw].q.ws.length, by rw [List.getElem?_map, hd]; rfl, by rw [List.getElem?_map, hw]; exact congrArg some hlen.symm⟩
    have hc := h.cn
    unfold cnD at hc ⊢
    rw [List.length_append, List.length_singleton]; omega
  · rw [List.getLast?_append] at hF
    simp at hF
    subst hF
    obtain ⟨j, hj⟩ := List.getElem?_of_mem hd
    obtain ⟨d0, h0⟩ := back j d hj
    obtain ⟨L, hL⟩ := h.of_at h0
    have hxm : x.1 ∈ L ∧ x.1 ≠ B := by
      have := List.mem_map_of_mem (f := Prod.fst) hx
      rw [wsj j d L hj hL, List.mem_filter] at this
      refine ⟨this.1, fun e => ?_⟩
      have h2 := this.2
      rw [e] at h2
      simp at h2
    have hx0 : x ∈ d0.q.ws := by
      by_cases hjj : j = jw
      · subst hjj
        rw [hw] at h0; cases h0
        rw [(hr.win d dw hj hw).1] at hx
        exact (rmQ_sub _ _).mem hx
      · rw [(hr.los j d d0 hjj hj h0).1] at hx
        exact hx
    have h1 := hle d0 (List.mem_of_getElem? h0) x hx0
    have h2 : kyG B ≠ kyQ x := by
      by_cases hjj : j = jw
      · subst hjj
        have hLL : L = Lw := Option.some.inj (hL.symm.trans hLw)
        exact fun e => hu.kn j L x.1 B hL hxm.1 (by rw [hLL]; exact hBL.1) hxm.2 e.symm
      · exact hu.un jw j Lw L B x.1 (fun k => hjj k.symm) hLw hL hBL.1 hxm.1
    omega

/-- A run of 400 steps ends with the next one sent. -/
theorem OrdD.step (h : OrdD of sent keep all t l) (ht : t = 0 ∨ t = 3) (hu : KeyU of) (h2 : 2 ≤ of.length) (hn : sent.length < all) (hk : all ≤ keep) :
    ∃ (N : Nat) (B : Fr) (l' : List Dv), ruD 400 l = (l', (1, N, B), true) ∧ OrdD of (sent ++ [B]) keep all 0 l' ∧ ∀ F, sent.getLast? = some F → kyG F < kyG B := by
  have hl2 : 2 ≤ l.length := by rw [h.len]; exact h2
  rcases ht with rfl | rfl
  · obtain ⟨jw, B, dw, l', w1, w2, w3, w4, w5, w6⟩ := round_b hl2 (fun j d hd => (h.f j d hd).1) (h.unlike hu) (h.some_ws hn) 400 (by omega)
    obtain ⟨o1, o2⟩ := h.next hu w1 w3 w5 w6 (by omega)
    exact ⟨_, B, l', w4, o1, o2⟩
  · obtain ⟨jw, B, dw, l', w1, w2, w3, w4, w5, w6⟩ := round_a hl2 (fun j d hd => (h.f j d hd).1) (h.unlike hu) (h.some_ws hn) 400 (by omega)
    obtain ⟨o1, o2⟩ := h.next hu w1 w3 w5 w6 (by omega)
    exact ⟨_, B, l', w4, o1, o2⟩

/-- When all are sent, nothing more is. -/
theorem OrdD.rest (h : OrdD of sent keep all t l) (ht : t = 0 ∨ t = 3) (hn : sent.length = all) {n : Nat} (h3 : 3 ≤ n) : ∃ l' T, ruD n l = (l', noN, false) ∧ Pass T l l' := by
  have hz : ∀ (j : Nat) (d : Dv), l[j]? = some d → d.q.ws = [] ∧ gvD d = none := fun j d hd => by
    have hw : d.q.ws = [] := by
      have h0 : cnD l = 0 := by have := h.cn; omega
      have hm : d.q.ws.length ∈ l.map (fun d => d.q.ws.length) := List.mem_map_of_mem (List.mem_of_getElem? hd)
      have : d.q.ws.length ≤ cnD l := by
        unfold cnD
        exact mem_sum _ _ hm
      exact List.length_eq_zero_iff.1 (by omega)
    refine ⟨hw, ?_⟩
    rcases gv_best (h.f j d hd).1.i (h.f j d hd).1.b with ⟨e, _⟩ | ⟨F, _, _, e, _⟩
    · exact e
    · rw [hw] at e; cases e
  rcases ht with rfl | rfl
  · obtain ⟨l1, p1, p2, p3⟩ := inter (l0 := l) 3 0 l rfl ⟨rfl, fun j d d' h h' => by rw [h] at h'; cases h'; exact ⟨d.c, by simp⟩⟩ (fun i d d0 hi h0 => by
      rw [hi] at h0; cases h0
      exact ⟨(h.f i d hi).1.i, (h.f i d hi).1.b, (h.f i d hi).1.n⟩)
    obtain ⟨l2, r1, r2⟩ := rest_a (n - 3) l1 (fun j d hd => by
      obtain ⟨d0, h0⟩ := p1.at hd
      obtain ⟨a, b, c⟩ := p2 j d d0 hd h0
      rw [(hz j d0 h0).2] at c
      exact ⟨a, b, c⟩)
    have := p3 (n - 3)
    rw [show 3 + (n - 3) = n by omega] at this
    refine ⟨l2, 3 + (n - 3), by rw [this, r1], ⟨by rw [r2.len, p1.len], fun j d d' hd hd' => ?_⟩⟩
    obtain ⟨d1, h1⟩ := r2.at hd'
    obtain ⟨c1, rfl⟩ := p1.eq j d d1 hd h1
    obtain ⟨c2, rfl⟩ := r2.eq j _ d' h1 hd'
    exact ⟨c2, by dsimp only; rw [show d.now + ((3 : Nat) : Int) + ((n - 3 : Nat) : Int) = d.now + ((3 + (n - 3) : Nat) : Int) by omega]⟩
  · obtain ⟨l2, r1, r2⟩ := rest_a n l (fun j d hd => by
      have := (h.f j d hd).1.n
      rw [(hz j d hd).2] at this
      exact ⟨(h.f j d hd).1.i, (h.f j d hd).1.b, this⟩)
    exact ⟨l2, n, r1, r2⟩

/-- At the start. -/
theorem OrdD.start (hl : l.length = of.length) (hf : ∀ (j : Nat) (d : Dv), l[j]? = some d → DvF 3 d ∧ d.keep = keep ∧ d.rx = [] ∧ d.ov = false)
    (hw : ∀ (j : Nat) (d : Dv) (L : List Fr), l[j]? = some d → of[j]? = some L → d.q.ws.map Prod.fst = L) : OrdD of [] keep (cnD l) 3 l :=
  ⟨hl, fun j d hd => ⟨(hf j d hd).1, (hf j d hd).2.1⟩, fun j d L hd hL => by rw [hw j d L hd hL]; exact (List.filter_eq_self.2 (fun F _ => by simp)).symm,
    fun j d L hd hL => by rw [(hf j d hd).2.2.1]; exact ⟨rfl, (hf j d hd).2.2.2⟩, rfl, fun F hF => by cases hF⟩
end
end Go.Proofs.YtajdbimdiodalaaGreat

namespace Go.Proofs.YtajdbimdiodalaaGreat
open Go.RowKit Go.Sort
set_option linter.unusedVariables false
set_option linter.unusedSimpArgs false

theorem two_len {l : List Dv} (h : l.length = 2) : ∃ a b, l = [a, b] := by
  rcases l with _ | ⟨a, _ | ⟨b, _ | ⟨c, l⟩⟩⟩
  · simp at h
  · simp at h
  · exact ⟨a, b, rfl⟩
  · simp at h

/-- One frame goes over. -/
theorem full_round {a b : Dv} {t N : Nat} {F : Fr} (ht : t = 0 ∨ t = 3) (ha : DvF t a) (hb : DvF t b) (hwa : a.q.ws = [(F, N)]) (hwb : b.q.ws = []) :
    ∃ (a' b' : Dv) (M : Nat) (tm : Int), ruD 300 [a, b] = ([a', b'], (1, M, F), true) ∧ DvF 0 a' ∧ DvF 0 b' ∧ a'.q.ws = [] ∧ b'.q.ws = [] ∧ a'.q.room = a.q.room ∧ a'.q.puts = a.q.puts ∧ (b'.rx, b'.ov) = rxU b F tm ∧ b'.keep = b.keep ∧ b'.pass = b.pass := by
  have hd : ∀ (j : Nat) (d : Dv), [a, b][j]? = some d → DvF t d := fun j d h => by
    match j, h with
    | 0, h => cases h; exact ha
    | 1, h => cases h; exact hb
    | j + 2, h => simp at h
  have hu : Unlike [a, b] := fun i j d e p x hij hi hj hp hx => by
    match i, j, hi, hj with
    | 0, 0, _, _ => exact absurd rfl hij
    | 0, 1, hi, hj => cases hj; rw [hwb] at hx; cases hx
    | 1, _, hi, _ => cases hi; rw [hwb] at hp; cases hp
    | 0, j + 2, _, hj => simp at hj
    | i + 2, _, hi, _ => simp at hi
  have hs : ∃ d ∈ [a, b], d.q.ws ≠ [] := ⟨a, by simp, by rw [hwa]; simp⟩
  have fin : ∀ (T jw : Nat) (B : Fr) (dw : Dv) (l : List Dv), [a, b][jw]? = some dw → (B, dw.q.wire) ∈ dw.q.ws → RndT T [a, b] B jw l → ruD 300 [a, b] = (l, (1, dw.q.wire, B), true) →
      ∃ (a' b' : Dv) (M : Nat) (tm : Int), ruD 300 [a, b] = ([a', b'], (1, M, F), true) ∧ DvF 0 a' ∧ DvF 0 b' ∧ a'.q.ws = [] ∧ b'.q.ws = [] ∧ a'.q.room = a.q.room ∧ a'.q.puts = a.q.puts ∧ (b'.rx, b'.ov) = rxU b F tm ∧ b'.keep = b.keep ∧ b'.pass = b.pass := by
    intro T jw B dw l w1 w2 w3 w4
    obtain ⟨a', b', rfl⟩ := two_len w3.len
    match jw, w1, w3 with
    | 1, w1, _ => cases w1; rw [hwb] at w2; cases w2
    | j + 2, w1, _ => simp at w1
    | 0, w1, w3 =>
      cases w1
      rw [hwa] at w2
      have hFN := List.mem_singleton.1 w2
      have hB : B = F := congrArg Prod.fst hFN
      have hN : a.q.wire = N := congrArg Prod.snd hFN
      obtain ⟨k1, k2, k3, _⟩ := w3.win a' a rfl rfl
      obtain ⟨l1, tm, l2⟩ := w3.los 1 b' b (by omega) rfl rfl
      obtain ⟨m1, m2⟩ := w3.all 1 b' b rfl rfl
      refine ⟨a', b', a.q.wire, tm, by rw [w4, hB], w3.di 0 a' rfl, w3.di 1 b' rfl, ?_, by rw [l1, hwb], k2, k3, by rw [l2, hB], m1, m2⟩
      rw [k1, hwa, hN]
      unfold rmQ
      simp
  rcases ht with rfl | rfl
  · obtain ⟨jw, B, dw, l, w1, _, w3, w4, w5, _⟩ := round_b (l0 := [a, b]) (by simp) hd hu hs 300 (by omega)
    exact fin _ _ _ _ _ w1 w3 w5 w4
  · obtain ⟨jw, B, dw, l, w1, _, w3, w4, w5, _⟩ := round_a (l0 := [a, b]) (by simp) hd hu hs 300 (by omega)
    exact fin _ _ _ _ _ w1 w3 w5 w4

/-- What is read, and the flag, are no part of what a driver stands for. -/
theorem DvF.fifo {d : Dv} {t : Nat} (h : DvF t d) {rx : List (Fr × Int)} (hl : rx.length ≤ d.keep) (ov : Bool) : DvF t { d with rx := rx, ov := ov } :=
  ⟨⟨⟨h.i.on, h.i.hw, h.i.h0, h.i.no, h.i.up, h.i.rm, hl⟩, h.i.fed⟩, ⟨h.b.ab, h.b.be⟩, h.n⟩
end Go.Proofs.YtajdbimdiodalaaGreat

namespace Go.Proofs.YtajdbimdiodalaaGreat
open Go.RowKit Go.Sort
set_option linter.unusedVariables false

/-- Behind i frames. -/
structure FuI (n f i : Nat) (a b : Dv) : Prop where
  t : ∃ t, (t = 0 ∨ t = 3) ∧ DvF t a ∧ DvF t b
  wa : a.q.ws = []
  ra : a.q.room = 20
  pa : a.q.puts = i
  wb : b.q.ws = []
  kb : b.keep = n
  pb : b.pass = fun _ => true
  rx : b.rx.length = min i n
  hd : 0 < i → ∃ tm rs, b.rx = (baF f, tm) :: rs
  ov : b.ov = decide (n < i)

theorem full_start (n f : Nat) : FuI n f 0 (newD (fun _ => true) 20 1) (newD (fun _ => true) 1 n) :=
  ⟨⟨3, .inr rfl, newD_F _ _ _, newD_F _ _ _⟩, rfl, rfl, rfl, rfl, rfl, rfl, (Nat.zero_min n).symm, fun h => by omega, rfl⟩

theorem full_next {n f i : Nat} {a b : Dv} (h : FuI n f i a b) (hi : i ≤ n) (h1 : 1 ≤ n) (hn : n ≤ 5) (hf : f ≤ 255) :
    a.q.ws.length < a.q.room ∧ b.ov = false ∧ ∃ a' b' M, ruD 300 [snD a (baF (f + i)), b] = ([a', b'], (1, M, baF (f + i)), true) ∧ FuI n f (i + 1) a' b' := by
  obtain ⟨t, ht, ha, hb⟩ := h.t
  have hl : a.q.ws.length < a.q.room := by rw [h.wa, h.ra]; show 0 < 20; omega
  have hG := base_good (id := f + i) (by omega)
  obtain ⟨s1, s2⟩ := snD_F ha hG hl
  obtain ⟨_, p2, p3, _, _, _, _⟩ := snD_I ha.i hG hl
  rw [h.wa, h.pa, List.nil_append] at s2
  obtain ⟨a', b', M, tm, e1, f1, f2, f3, f4, f5, f6, f7, f8, f9⟩ := full_round ht s1 hb s2 h.wb
  have hr : rxU b (baF (f + i)) tm = if b.rx.length < b.keep then (b.rx ++ [(baF (f + i), tm)], b.ov) else (b.rx, true) := by
    unfold rxU; rw [h.pb, if_pos rfl]
  rw [hr, h.rx, h.kb] at f7
  refine ⟨hl, by rw [h.ov]; exact decide_eq_false (by omega), a', b', M, e1, ⟨0, .inl rfl, f1, f2⟩, f3, by rw [f5, p3, h.ra], by rw [f6, p2, h.pa], f4, by rw [f8, h.kb], by rw [f9, h.pb], ?_, ?_, ?_⟩
  · by_cases hlt : min i n < n
    · rw [if_pos hlt] at f7
      have := congrArg (fun z => z.1.length) f7
      simp only [List.length_append, List.length_singleton, h.rx] at this
      rw [this]; omega
    · rw [if_neg hlt] at f7
      have := congrArg (fun z => z.1.length) f7
      simp only [h.rx] at this
      rw [this]; omega
  · intro _
    by_cases hlt : min i n < n
    · rw [if_pos hlt] at f7
      have h7 := congrArg Prod.fst f7
      dsimp only at h7
      by_cases h0 : 0 < i
      · obtain ⟨t0, rs, hx⟩ := h.hd h0
        rw [hx] at h7
        exact ⟨t0, rs ++ [(baF (f + i), tm)], h7⟩
      · obtain rfl : i = 0 := by omega
        have hx : b.rx = [] := List.eq_nil_of_length_eq_zero (by rw [h.rx, Nat.zero_min])
        rw [hx] at h7
        exact ⟨tm, [], h7⟩
    · rw [if_neg hlt] at f7
      obtain ⟨t0, rs, hx⟩ := h.hd (by omega)
      have h7 := congrArg Prod.fst f7
      dsimp only at h7
      exact ⟨t0, rs, h7.trans hx⟩
  · by_cases hlt : min i n < n
    · rw [if_pos hlt] at f7
      have h7 := congrArg Prod.snd f7
      dsimp only at h7
      rw [h7, h.ov, decide_eq_false (by omega), decide_eq_false (by omega)]
    · rw [if_neg hlt] at f7
      have h7 := congrArg Prod.snd f7
      dsimp only at h7
      rw [h7, decide_eq_true (by omega)]

theorem full_end {n f : Nat} {a b : Dv} (h : FuI n f (n + 1) a b) (h1 : 1 ≤ n) (hn : n ≤ 5) :
    ∃ tm rs, b.rx = (baF f, tm) :: rs ∧ rs.length = n - 1 ∧ b.ov = true ∧ a.q.ws.length < a.q.room ∧ ∃ a' b' M, ruD 300 [snD a (baF 1000), { b with rx := rs, ov := false }] = ([a', b'], (1, M, baF 1000), true) ∧ b'.rx.length = n ∧ b'.ov = false := by
  obtain ⟨t, ht, ha, hb⟩ := h.t
  obtain ⟨tm, rs, hx⟩ := h.hd (by omega)
  have hrl : rs.length = n - 1 := by have := h.rx; rw [hx, List.length_cons] at this; omega
  have hl : a.q.ws.length < a.q.room := by rw [h.wa, h.ra]; show 0 < 20; omega
  have hG := base_good (id := 1000) (by omega)
  obtain ⟨s1, s2⟩ := snD_F ha hG hl
  rw [h.wa, List.nil_append] at s2
  have hb2 := hb.fifo (rx := rs) (by rw [h.kb]; omega) false
  obtain ⟨a', b', M, tm2, e1, f1, f2, f3, f4, f5, f6, f7, f8, f9⟩ := full_round ht s1 hb2 s2 (by exact h.wb)
  have hr : rxU { b with rx := rs, ov := false } (baF 1000) tm2 = (rs ++ [(baF 1000, tm2)], false) := by
    unfold rxU
    dsimp only
    rw [h.pb, if_pos rfl, if_pos (by rw [h.kb]; omega)]
  rw [hr] at f7
  refine ⟨tm, rs, hx, hrl, by rw [h.ov, decide_eq_true (by omega)], hl, a', b', M, e1, ?_, congrArg Prod.snd f7⟩
  have h7 := congrArg (fun z => z.1.length) f7
  simp only [List.length_append, List.length_singleton, hrl] at h7
  rw [h7]; omega
end Go.Proofs.YtajdbimdiodalaaGreat

namespace Go.Proofs.YtajdbimdiodalaaGreat
open Go.RowKit Go.Sort
set_option linter.unusedVariables false

theorem elF14 : ElK Tryz.prog 62 35 5 (.agg frZr) 32 := ⟨by kernel_rfl, by kernel_rfl, by kernel_rfl, by kernel_rfl, rfl, by omega⟩

section
variable {B : Nat} {w w0 w1 : World} {g j : Nat} {d : Dv} {k : Dm} {S : Nat → Prop}

theorem DvM.belS (h : DvM B w g d k S) (c : Ch S w w1) (g0 : Below B w0 w) (hB : B ≤ w0.heap.size := by exact Nat.le_refl _) : Below B w0 w1 := c.below g0 hB (fun b hb => h.sB b hb)
/-- What Send makes of any frame. -/
theorem dvSend_all (h : DvM B w g d k S) (hG : DvG j d) (hj : j ≤ 1000000000) (F : Fr) (fa : Option Addr) (fc : Nat) (hi : F.id < 4294967296) (hd : F.dlc < 256) (hpu : d.q.puts + 1 < 4611686018427387904) (hR : ∀ w', Ch S w w' → RL bv w' fa F.data.length fc F.data) :
    (Good F ∧ d.q.ws.length < d.q.room ∧ Calls Tryz.prog 22 #[.pointer (some ⟨g, 0, none⟩), .agg (frV F fa fc)] w fun r w' => r = .returned (.tuple #[.int .i64 ((d.q.puts : Int) + 1), .int .i64 0]) ∧ DvR B w g k S (snD d F) w') ∨
    ∃ z : Int, (z = 40 ∧ riF F.id F.ext F.rem F.dlc F.data.length = false ∨ z = 5 ∧ Good F ∧ d.q.room ≤ d.q.ws.length) ∧ Calls Tryz.prog 22 #[.pointer (some ⟨g, 0, none⟩), .agg (frV F fa fc)] w fun r w' => r = .returned (.tuple #[.int .i64 0, .int .i64 z]) ∧ DvR B w g k S d w' := by
  cases hr : riF F.id F.ext F.rem F.dlc F.data.length
  · exact .inr ⟨40, .inl ⟨rfl, rfl⟩, dvSend_wrong h hG hj F fa fc hi hd hr⟩
  · have hF : Good F := (good_iff F _ rfl).1 hr
    by_cases hl : d.q.ws.length < d.q.room
    · exact .inl ⟨hF, hl, dvSend_any h hG hj F fa fc hF hl hpu hR⟩
    · exact .inr ⟨5, .inr ⟨rfl, hF, by omega⟩, dvSend_full h hG hj F fa fc hi hd hr (by have := hG.I.rm; omega)⟩
end
end Go.Proofs.YtajdbimdiodalaaGreat

namespace Go.Proofs.YtajdbimdiodalaaGreat
open Go.RowKit Go.Sort
set_option linter.unusedVariables false

structure OncD (most keeps : Nat) (ts : List Int) (d : Dv) : Prop where
  rm : d.q.room = most
  kp : d.keep = keeps
  ts : ∀ t ∈ ts, 1 ≤ t ∧ t ≤ d.q.puts ∧ ∀ p ∈ d.q.ws, (p.2 : Int) ≠ t

theorem waI_no {d : Dv} {t : Int} (h : ∀ p ∈ d.q.ws, (p.2 : Int) ≠ t) : waI d t = false := by
  unfold waI
  rw [List.any_eq_false]
  intro p hp
  simpa using h p hp
section
variable {most keeps j : Nat} {ts : List Int} {d : Dv}
theorem OncD.new (most keeps : Nat) (pass : Fr → Bool) : OncD most keeps [] (newD pass most keeps) := ⟨rfl, rfl, fun t ht => by cases ht⟩
theorem OncD.fill (h : OncD most keeps ts d) (hI : DvI d) : d.q.ws.length ≤ most ∧ d.rx.length ≤ keeps := ⟨by rw [← h.rm]; exact hI.rm, by rw [← h.kp]; exact hI.kp⟩
theorem OncD.send (h : OncD most keeps ts d) (hI : DvI d) {F : Fr} (hF : Good F) (hr : d.q.ws.length < d.q.room) : OncD most keeps ts (snD d F) ∧ (snD d F).q.puts = d.q.puts + 1 := by
  obtain ⟨_, h2, h3, h4, h5, h6, h7⟩ := snD_I hI hF hr
  refine ⟨⟨by rw [h3, h.rm], by rw [h5, h.kp], fun t ht => ?_⟩, h2⟩
  obtain ⟨a, b, c⟩ := h.ts t ht
  refine ⟨a, by rw [h2]; omega, fun p hp => ?_⟩
  rcases List.mem_append.1 (h7.mem hp) with hp | hp
  · exact c p hp
  · rw [List.mem_singleton] at hp; subst hp
    show ((d.q.puts + 1 : Nat) : Int) ≠ t
    omega
theorem OncD.step (h : OncD most keeps ts d) (hI : DvI d) (x : Bool) : (stD d x).1.q.puts = d.q.puts ∧
    (((stD d x).2.1 ≠ 1 ∧ OncD most keeps ts (stD d x).1) ∨ ((stD d x).2.1 = 1 ∧ 1 ≤ (stD d x).2.2.1 ∧ (stD d x).2.2.1 ≤ d.q.puts ∧ ((stD d x).2.2.1 : Int) ∉ ts ∧ waI (stD d x).1 ((stD d x).2.2.1 : Int) = false ∧ OncD most keeps (ts ++ [((stD d x).2.2.1 : Int)]) (stD d x).1)) := by
  obtain ⟨_, h2, h3, h4, _, _, h7, h8⟩ := stD_I hI x
  have old : OncD most keeps ts (stD d x).1 := ⟨by rw [h3, h.rm], by rw [h4, h.kp], fun t ht => by
    obtain ⟨a, b, c⟩ := h.ts t ht
    exact ⟨a, by rw [h2]; exact b, fun p hp => c p (h7.mem hp)⟩⟩
  refine ⟨h2, ?_⟩
  by_cases h1 : (stD d x).2.1 = 1
  · obtain ⟨m1, m2⟩ := h8 h1
    obtain ⟨n1, n2, _⟩ := hI.no _ m1
    refine .inr ⟨h1, n1, n2, fun e => ?_, waI_no fun p hp e => m2 p hp (by omega), ⟨old.rm, old.kp, fun t ht => ?_⟩⟩
    · exact (h.ts _ e).2.2 _ m1 rfl
    · rcases List.mem_append.1 ht with ht | ht
      · exact old.ts t ht
      · rw [List.mem_singleton] at ht; subst ht
        exact ⟨by have n1 : 1 ≤ (stD d x).2.2.1 := n1; omega, by rw [h2]; have n2 : (stD d x).2.2.1 ≤ d.q.puts := n2; omega, fun p hp e => m2 p hp (by omega)⟩
  · exact .inl ⟨h1, old⟩
theorem OncD.abort (h : OncD most keeps ts d) (hI : DvI d) {n : Nat} (hn : waD d n = true) : OncD most keeps ts (abD d n) ∧ (abD d n).q.puts = d.q.puts := by
  obtain ⟨_, h2, h3⟩ := abD_I hI hn
  refine ⟨⟨by rw [h2.room, h.rm], by rw [h2.keep, h.kp], fun t ht => ?_⟩, h2.puts⟩
  obtain ⟨a, b, c⟩ := h.ts t ht
  exact ⟨a, by rw [h2.puts]; exact b, fun p hp => c p (h3.mem hp)⟩
/-- Of a number that waits nothing was told. -/
theorem OncD.not (h : OncD most keeps ts d) {t : Int} (hw : waI d t = true) : t ∉ ts := fun e => by
  rw [waI_no (h.ts t e).2.2] at hw; cases hw
end
end Go.Proofs.YtajdbimdiodalaaGreat

namespace Go.Proofs.YtajdbimdiodalaaGreat
open Go.RowKit Go.ChangeShapes Go.WideShapes Go.ChangeAt Go.Deep
set_option linter.unusedVariables false

/-- A row of bits, where it lies. -/
abbrev Br := (Option Addr × Nat) × List Bool
abbrev brV (q : Br) : Value := .slice q.1.1 q.2.length q.1.2
/-- Rows of bits, read. -/
structure BrR (w : World) (a : Option Addr) (n c : Nat) (rs : List Br) : Prop where
  row : RL brV w a n c rs
  dat : ∀ q ∈ rs, RL .bool w q.1.1 q.2.length q.1.2 q.2
  len : ∀ q ∈ rs, q.2.length ≤ 9223372036854775807
theorem BrR.below {w w1 : World} {a : Option Addr} {n c : Nat} {rs : List Br} (h : BrR w a n c rs) (g : Below w.heap.size w w1) : BrR w1 a n c rs := ⟨h.row.below g, fun q hq => (h.dat q hq).below g, h.len⟩

theorem arg_boolrows {H : Type} {enc : TypeId × Value → H} {P : Program} {W : World} {T e q : TypeId} {r : Reach} {b0 : Nat} {v : Value} {d : DataW H} {ps : List MemPlace} (ht : P.underlying T = some (.slice e)) (he : P.underlying e = some (.slice q)) (hq : P.underlying q = some .bool) (ce : P.cellsOf e = 1) (cq : P.cellsOf q = 1)
    (hval : Value.okWide P W r b0 T v) (h : DataW.Trod enc P W 0 (fun _ => true) true T v d ps) : ∃ a n c rs, v = .slice a n c ∧ BrR W a n c rs ∧ n ≤ 9223372036854775807 := by
  obtain ⟨a, n, c, rfl⟩ := okWide_slice ht hval
  obtain ⟨fuel, hf⟩ := h
  rcases open_bool_rows ht he hq ce cq hf with ⟨hcs, _⟩ | ⟨ad, len, cap, A, L, C, B, hcs, _, hl, hm, _, hcell⟩
  · simp [Value.cells] at hcs
    obtain ⟨rfl, rfl, rfl⟩ := hcs
    exact ⟨none, 0, 0, [], rfl, ⟨RL.nil _ _ _ _, by simp, by simp⟩, by omega⟩
  · simp [Value.cells] at hcs
    obtain ⟨rfl, rfl, rfl⟩ := hcs
    have hmem : ∀ x ∈ (List.range n).map (fun i => (((A i, C i), (List.range (L i)).map (B i)) : Br)), ∃ i, i < n ∧ (((A i, C i), (List.range (L i)).map (B i)) : Br) = x := fun x hx => by
      obtain ⟨i, hi, rfl⟩ := List.mem_map.1 hx
      exact ⟨i, List.mem_range.1 hi, rfl⟩
    refine ⟨some ad, n, c, (List.range n).map (fun i => ((A i, C i), (List.range (L i)).map (B i))), rfl, ⟨⟨by simp, hl, fun hn => ?_⟩, fun x hx => ?_, fun x hx => ?_⟩, by unfold maxLen at hm; omega⟩
    · obtain ⟨b, off, spot⟩ := ad
      have hspot : spot = none := by simpa [Addr.add] using World.cell?_spot (hcell 0 (by omega)).1
      subst hspot
      refine ⟨b, off, rfl, ?_, fun i x hx => ?_⟩
      · have := World.block_lt_of_cell? W _ (hcell 0 (by omega)).1
        simpa [Addr.add] using this
      · have hi : i < n := by simpa using (List.getElem?_eq_some_iff.1 hx).1
        have := (hcell i (by omega)).1
        rw [Addr.add_lit] at this
        rw [this]
        simp [hi] at hx
        subst hx
        simp [brV]
    · obtain ⟨i, hi, rfl⟩ := hmem x hx
      obtain ⟨h1, h2, h3, h4, h5⟩ := hcell i (by omega)
      refine ⟨by simp, by simpa using h2, fun hn => ?_⟩
      have hn : 0 < L i := by simpa using hn
      cases hA : A i with
      | none => have := h4 hA; omega
      | some a' =>
        obtain ⟨_, h7⟩ := h5 a' hA
        obtain ⟨b, off, spot⟩ := a'
        have hspot : spot = none := by simpa [Addr.add] using World.cell?_spot (h7 0 (by omega))
        subst hspot
        refine ⟨b, off, rfl, ?_, fun k x hx => ?_⟩
        · have := World.block_lt_of_cell? W _ (h7 0 (by omega))
          simpa [Addr.add] using this
        · have hk : k < L i := by simpa using (List.getElem?_eq_some_iff.1 hx).1
          have := h7 k (by omega)
          rw [Addr.add_lit] at this
          rw [this]
          simp [hk] at hx
          rw [hx]
    · obtain ⟨i, hi, rfl⟩ := hmem x hx
      obtain ⟨h1, h2, h3, h4, h5⟩ := hcell i (by omega)
      simp only [List.length_map, List.length_range]
      unfold maxLen at h3; omega
end Go.Proofs.YtajdbimdiodalaaGreat
