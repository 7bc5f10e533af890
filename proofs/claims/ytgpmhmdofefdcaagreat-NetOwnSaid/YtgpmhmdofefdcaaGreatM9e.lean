/-
  Plain mathematics of layer 7: what the document says of all bits at once is what is said of them one by one. Nothing of the program is spoken of here.
  Plain mathematics of layer 8: what holds of a controller whatever bits come. Nothing of the program is spoken of here.
  Plain mathematics of layer 8: what holds of a controller whatever bits come, in all phases. Nothing of the program is spoken of here.
  Plain mathematics of layer 9: a controller as it may be, behind so many bits, is one that Step may be asked of.
  Plain mathematics of layer 9: frames given and taken back.
-/
import Derived.Test.YtgpmhmdofefdcaaGreatM7b
import Derived.Test.YtgpmhmdofefdcaaGreatB1
namespace Go.Proofs.YtgpmhmdofefdcaaGreat
set_option linter.unusedVariables false

/-- What the document says of bits, from bit i on. -/
def rdF (n : Nat) (wr : Int) (fi : Bool) : Nat → List Bool → List Nat
  | _, [] => []
  | i, x :: l => rdS n wr fi i x :: (if rdS n wr fi i x = 0 ∨ rdS n wr fi i x = 4 then rdF n wr fi (i + 1) l else [])

def rdL (l : List Bool) : List Nat := rdF (bdN l) (tkL l).2 (fitL (bdL l)) 0 l

theorem rdF_read (l : List Bool) : ∀ (d k : Nat) (s : Tk), k + d = l.length → Reading l k s → rdF (bdN l) (tkL l).2 (fitL (bdL l)) k (l.drop k) = (alT s (l.drop k)).2 := by
  intro d
  induction d with
  | zero =>
    intro k s hk h
    rw [List.drop_eq_nil_of_le (by omega)]; rfl
  | succ d ih =>
    intro k s hk h
    obtain ⟨x, hx⟩ : ∃ x, l[k]? = some x := ⟨l[k], by simp⟩
    obtain ⟨h1, h2⟩ := h.step hx
    rw [drop_of_get hx, rdF, alT, ← h1]
    split
    · rename_i hc; rw [ih (k + 1) _ (by omega) (h2 hc)]
    · rfl

theorem rdL_all (l : List Bool) : rdL l = (alT s0 l).2 := by
  have := rdF_read l l.length 0 s0 (by omega) (Reading.start l)
  rwa [List.drop_zero] at this

/-- The body that was read is found in what was read so far. -/
theorem Reading.pre {l : List Bool} {k : Nat} {s : Tk} (hk : k ≤ l.length) (h : Reading l k s) : Reading (l.take k) k s := by
  have hlk : (l.take k).length = k := by rw [List.length_take]; omega
  have htt : (l.take k).take k = l.take k := by rw [List.take_take, Nat.min_self]
  rcases h with h | h
  · left
    exact ⟨h.p, by rw [htt]; exact h.tk, by rw [htt]; exact h.ru, h.fi, h.le, h.no, by omega, h.ri⟩
  · right
    have ht2 : (l.take k).take (bdN l) = putL (bdL l) := by rw [List.take_take, Nat.min_eq_left h.lo, h.pu]
    have htk : tkL ((l.take k).take (bdN l)) = (bdL l, -1) := by rw [ht2]; exact tkL_putL _
    have hm : (ruF false 0 ((l.take k).take (bdN l))).2 ≠ 5 := fun e => by
      have := put_at htk
      rw [if_pos e, ht2] at this
      have := congrArg List.length this
      simp at this
    obtain ⟨e1, e2, _, e4⟩ := bd_found (by rw [hlk]; exact h.lo) htk hm h.cm
    exact ⟨by rw [e1]; exact h.n0, by rw [e1]; exact h.lo, by rw [e1]; exact h.hi, by rw [e1]; exact h.p, by rw [e2]; exact h.li, by rw [e2]; exact h.fi, h.m, h.ri, h.ok, by rw [e1, e2]; exact e4, by rw [e2]; exact h.cm⟩

/-- What the document drives, and reads. -/
def rdD (l : List Bool) : Bool := decide (bdN l = 0) || !decide (l.length = bdN l + 1) || !fitL (bdL l)
def rfN (l : List Bool) : Bool := decide (bdN l = 0) || decide (l.length < bdN l)
def rfF (l : List Bool) : Fr := if rfN l then zeroFr else paU (bdL l)
def rfK (l : List Bool) : Bool := !rfN l && fitL (bdL l)

theorem Reading.drive {l : List Bool} {s : Tk} (h : Reading l l.length s) : drT s.p s.fi = rdD l := by
  unfold drT rdD
  rcases h with h | h
  · rw [h.p]
    rcases h.early with e | e
    · simp [e]
    · rw [decide_eq_false (show ¬ l.length = bdN l + 1 by omega)]; simp
  · rw [h.p, h.fi, decide_eq_false h.n0]
    have hlo := h.lo
    by_cases h1 : l.length = bdN l + 1
    · rw [decide_eq_true h1, decide_eq_true (by omega)]; rfl
    · rw [decide_eq_false h1, decide_eq_false (by omega)]; rfl

theorem Reading.frame {l : List Bool} {s : Tk} (h : Reading l l.length s) : frF s.m s.l s.p s.fi = rfF l ∧ frK s.m s.l s.p s.fi = rfK l := by
  unfold frF frK rfF rfK
  rcases h with h | h
  · have e1 : frN s.m s.p s.fi = true := by unfold frN; rw [h.p]; rfl
    have e2 : rfN l = true := by
      unfold rfN
      rcases h.early with e | e
      · simp [e]
      · rw [decide_eq_true e]; simp
    rw [e1, e2]; exact ⟨rfl, rfl⟩
  · have e2 : rfN l = false := by
      unfold rfN; rw [decide_eq_false h.n0, decide_eq_false (by have := h.lo; omega)]; rfl
    have e1 : frN s.m s.p s.fi = !s.fi := by
      unfold frN
      rw [decide_eq_false (by have := h.p; omega), decide_eq_false h.m]; simp
    rw [e1, e2, h.li, h.fi]
    cases hf : fitL (bdL l)
    · refine ⟨?_, rfl⟩
      simp only [Bool.not_false, if_true, Bool.false_eq_true, if_false]
      unfold paU
      unfold fitL at hf
      rw [hf]; rfl
    · exact ⟨rfl, rfl⟩
end Go.Proofs.YtgpmhmdofefdcaaGreat

namespace Go.Proofs.YtgpmhmdofefdcaaGreat
set_option linter.unusedVariables false

/-- A controller as it may be, whatever bits came. -/
structure OnC (c : Ct) : Prop where
  ri : riC c.cf = true
  off : c.cf.o = true ↔ c.ph = 9
  le : c.ph ≤ 9
  gv : c.has = true → Good c.give
  snd : c.sends = true → c.ph = 1 ∧ c.has = true ∧ c.wire = wiL c.give ∧ 1 ≤ c.pos ∧ c.pos < (putL (boL c.give)).length + 10 ∧ Rd (ackL c.give) (putL (boL c.give)).length c.pos c.tk
  rd : c.ph = 1 → ∃ l, Reading l l.length c.tk

/-- What a bit may do. -/
structure StOK (c : Ct) (r : Ct × Hp) : Prop where
  on : OnC r.1
  sent : r.2.1 = 1 → c.has = true ∧ r.2.2 = c.give ∧ r.1.has = false
  keep : r.2.1 ≠ 1 → r.1.has = c.has ∧ r.1.give = c.give
  took : r.2.1 = 2 → Good r.2.2 ∧ r.1.sends = false

theorem OnC.start : OnC c0 := ⟨by decide, by simp [c0, zeC], by simp [c0], by simp [c0], by simp [c0], by simp [c0]⟩

/-- A phase that begins, of one that is on. -/
theorem on_new {c : Ct} (hr : riC c.cf = true) (ho : c.cf.o = false) (hg : c.has = true → Good c.give) {ph : Nat} (h1 : ph ≠ 1) (h9 : ph ≠ 9) (hle : ph ≤ 9) : OnC (newC c ph) :=
  ⟨hr, ⟨fun h => (by have : c.cf.o = true := h; rw [ho] at this; cases this), fun h => absurd h h9⟩, hle, hg, fun h => (by cases h), fun h => absurd h h1⟩

theorem on_ph {c : Ct} (n : Nat) (e o rl : Bool) {ph : Nat} (h : OnC (newC c ph)) (h1 : ph ≠ 1) : OnC { newC c ph with n := n, err := e, owed := o, rl := rl } :=
  ⟨h.ri, h.off, h.le, h.gv, fun hs => (by cases hs), fun hp => absurd hp h1⟩

theorem sk_off {c : Ct} (c1 : Ct) (hr : riC c1.cf = true) (ho : c1.cf.o = true) (hg : c.has = true → Good c.give) (h1 : c1.has = c.has) (h2 : c1.give = c.give) : StOK c (offC c1) :=
  ⟨⟨hr, ⟨fun _ => rfl, fun _ => ho⟩, Nat.le_refl _, fun h => by show Good c1.give; rw [h2]; exact hg (by rw [← h1]; exact h), fun h => (by cases h), fun h => (by cases h)⟩, fun h => (by cases h), fun _ => ⟨h1, h2⟩, fun h => (by cases h)⟩

theorem sk_flag {c : Ct} (c1 : Ct) (hr : riC c1.cf = true) (hon : c1.cf.o = false) (hg : c.has = true → Good c.give) (h1 : c1.has = c.has) (h2 : c1.give = c.give) (w k : Nat) (o : Bool) (hw : w ≠ 1) (hw2 : w ≠ 2) : StOK c (flagC c1 w k o) := by
  have hgc : ∀ d : Ct, d.has = c1.has → d.give = c1.give → (d.has = true → Good d.give) := fun d e1 e2 h => by rw [e2, h2]; exact hg (by rw [← h1, ← e1]; exact h)
  have hcr : riC (cntC c1 k).cf = true := by
    unfold cntC; split
    · exact hr
    · exact ri_ev hr k
  have hch : (cntC c1 k).has = c1.has ∧ (cntC c1 k).give = c1.give := by unfold cntC; split <;> exact ⟨rfl, rfl⟩
  unfold flagC
  split
  · rename_i hm
    exact sk_off _ hcr ((mo_of_right hcr).1 hm) hg (hch.1.trans h1) (hch.2.trans h2)
  · rename_i hm
    have hoff : (cntC c1 k).cf.o = false := by
      cases e : (cntC c1 k).cf.o with
      | false => rfl
      | true => exact absurd ((mo_of_right hcr).2 e) hm
    have hph : ∀ ph, ph ≠ 1 → ph ≠ 9 → ph ≤ 9 → StOK c ({ newC (cntC c1 k) ph with err := true, owed := o }, (w, zeroFr)) := fun ph a1 a2 a3 =>
      ⟨on_ph 0 true o false (on_new hcr hoff (hgc _ hch.1 hch.2) a1 a2 a3) a1, fun h => absurd h hw, fun _ => ⟨hch.1.trans h1, hch.2.trans h2⟩, fun h => absurd h hw2⟩
    split
    · exact hph 3 (by omega) (by omega) (by omega)
    · exact hph 2 (by omega) (by omega) (by omega)

theorem sk_new {c : Ct} (c1 : Ct) (hr : riC c1.cf = true) (hon : c1.cf.o = false) (hg : c.has = true → Good c.give) (h1 : c1.has = c.has) (h2 : c1.give = c.give) {ph : Nat} (a1 : ph ≠ 1) (a2 : ph ≠ 9) (a3 : ph ≤ 9) (n w : Nat) (e : Bool) (hw : w ≠ 1) (hw2 : w ≠ 2) :
    StOK c ({ newC c1 ph with n := n, err := e }, (w, zeroFr)) :=
  ⟨on_ph n e false false (on_new hr hon (fun h => by rw [h2]; exact hg (by rw [← h1]; exact h)) a1 a2 a3) a1, fun h => absurd h hw, fun _ => ⟨h1, h2⟩, fun h => absurd h hw2⟩

/-- A frame that begins. -/
theorem sk_beg {c : Ct} (h : OnC c) (hon : c.cf.o = false) (s : Bool) (hs : s = true → c.has = true) : StOK c (begC c s, noH) := by
  refine ⟨⟨h.ri, ⟨fun e => (by have : c.cf.o = true := e; rw [hon] at this; cases this), fun e => (by cases e)⟩, by show 1 ≤ 9; omega, h.gv, fun e => ?_, fun _ => ?_⟩, fun e => (by cases e), fun _ => ⟨rfl, rfl⟩, fun e => (by cases e)⟩
  · have hs1 : s = true := e
    subst hs1
    have hh := hs rfl
    have hP := P_pos c.give
    exact ⟨rfl, hh, rfl, Nat.le_refl _, by show 1 < _; omega, rd_one (h.gv hh)⟩
  · refine ⟨[false], ?_⟩
    have := (Reading.start []).more false (.inl (by rfl))
    exact this

theorem on_off {c : Ct} (h : OnC c) (hp : c.ph ≠ 9) : c.cf.o = false := by
  cases e : c.cf.o with
  | false => rfl
  | true => exact absurd (h.off.1 e) hp

theorem sk_rcv {c : Ct} (h : OnC c) (hp : c.ph = 1) (hs : c.sends = false) (x : Bool) : StOK c (rcvC c x) := by
  have hon := on_off h (by omega)
  obtain ⟨l, hl⟩ := h.rd hp
  have hfail : ∀ w, w ≠ 1 → w ≠ 2 → StOK c (failC { c with tk := (nxT c.tk x).1 } w) := fun w a b => sk_flag { c with tk := (nxT c.tk x).1 } h.ri hon h.gv rfl rfl w _ false a b
  unfold rcvC
  split
  · rename_i h0
    split
    · exact hfail 4 (by omega) (by omega)
    · exact ⟨⟨h.ri, h.off, h.le, h.gv, fun e => (by have : c.sends = true := e; rw [hs] at this; cases this), fun _ => ⟨_, hl.more x (.inl h0)⟩⟩, fun e => (by cases e), fun _ => ⟨rfl, rfl⟩, fun e => (by cases e)⟩
  · split
    · exact hfail 5 (by omega) (by omega)
    · split
      · exact hfail 6 (by omega) (by omega)
      · split
        · exact hfail 8 (by omega) (by omega)
        · split
          · rename_i h4
            have hr9 := ri_ev h.ri 9
            have ho9 : (evC c.cf 9).o = c.cf.o := by
              unfold evC
              split
              · rfl
              · split
                · rfl
                · obtain ⟨a1, a2, a3, a4, _⟩ := ri_on h.ri hon
                  show decide (teA c.cf.t 9 > 255) = _
                  rw [te_rec (by omega), hon]
                  exact decide_eq_false (by omega)
            refine ⟨⟨hr9, ⟨fun e => ?_, fun e => ?_⟩, h.le, h.gv, fun e => (by have : c.sends = true := e; rw [hs] at this; cases this), fun _ => ⟨_, hl.more x (.inr h4)⟩⟩, fun e => (by cases e), fun _ => ⟨rfl, rfl⟩, fun _ => ⟨took_good hl h4, hs⟩⟩
            · have : (evC c.cf 9).o = true := e
              rw [ho9, hon] at this; cases this
            · have : c.ph = 9 := e
              omega
          · split
            · exact sk_new c h.ri hon h.gv rfl rfl (by omega) (by omega) (by omega) 0 9 false (by omega) (by omega)
            · exact sk_new c h.ri hon h.gv rfl rfl (by omega) (by omega) (by omega) 0 0 c.err (by omega) (by omega)

theorem sk_snd {c : Ct} (h : OnC c) (hs : c.sends = true) (x : Bool) : StOK c (sndC c x) := by
  obtain ⟨hp, hh, hw, h1, h2, h3⟩ := h.snd hs
  have hg := h.gv hh
  have hon := on_off h (by omega)
  have hwl := wiL_length c.give
  have hP := P_pos c.give
  have hfail : ∀ w, w ≠ 1 → w ≠ 2 → StOK c (failC c w) := fun w a b => sk_flag c h.ri hon h.gv rfl rfl w _ false a b
  have hgo : ∀ y, (ackL c.give)[c.pos]? = some y → y = x → c.pos + 1 < (putL (boL c.give)).length + 10 → StOK c ({ c with tk := (nxT c.tk x).1, pos := c.pos + 1 }, noH) := fun y hy hyx hlt => by
    subst hyx
    obtain ⟨e1, e2, _⟩ := whole_step hg h2 h3 hy
    obtain ⟨l, hl⟩ := h.rd hp
    refine ⟨⟨h.ri, h.off, h.le, h.gv, fun _ => ⟨hp, hh, hw, by show 1 ≤ c.pos + 1; omega, hlt, e2⟩, fun _ => ⟨(ackL c.give).take (c.pos + 1), ?_⟩⟩, fun e => (by cases e), fun _ => ⟨rfl, rfl⟩, fun e => (by cases e)⟩
    have hlen : c.pos + 1 ≤ (ackL c.give).length := by unfold ackL; rw [List.length_set, hwl]; omega
    have := Reading.pre (l := ackL c.give) hlen (e2.on hlt)
    rw [show ((ackL c.give).take (c.pos + 1)).length = c.pos + 1 by rw [List.length_take]; omega]
    exact this
  have hwlen : c.wire.length = (putL (boL c.give)).length + 10 := by rw [hw]; exact hwl
  unfold sndC
  rw [hwlen]
  split
  · rename_i h9
    split
    · rename_i hx
      have hpos : c.pos = (putL (boL c.give)).length + 1 := by omega
      exact hgo false (by rw [hpos, ack_at (by omega)]; rfl) hx.symm (by omega)
    · split
      · exact sk_flag c h.ri hon h.gv rfl rfl 7 0 true (by omega) (by omega)
      · exact hfail 7 (by omega) (by omega)
  · rename_i h9
    split
    · rename_i hx
      split
      · rename_i hlt
        rw [hw] at hx
        refine hgo x ?_ rfl hlt
        unfold ackL
        rw [List.getElem?_set_ne (by omega)]
        obtain ⟨z, hz⟩ : ∃ z, (wiL c.give)[c.pos]? = some z := ⟨(wiL c.give)[c.pos]'(by rw [hwl]; exact h2), by simp⟩
        rw [hz] at hx ⊢
        simp at hx
        rw [hx]
      · have hr8 := ri_ev h.ri 8
        have ho8 : (evC c.cf 8).o = false := by
          obtain ⟨a1, a2, a3, a4, _⟩ := ri_on h.ri hon
          unfold evC
          split
          · exact hon
          · split
            · exact hon
            · show decide (teA c.cf.t 8 > 255) = false
              unfold teA
              rw [if_neg (by omega), if_pos rfl]
              exact decide_eq_false (by omega)
        exact ⟨⟨hr8, ⟨fun e => (by have : (evC c.cf 8).o = true := e; rw [ho8] at this; cases this), fun e => (by cases e)⟩, by show 7 ≤ 9; omega, fun e => (by cases e), fun e => (by cases e), fun e => (by cases e)⟩, fun _ => ⟨hh, rfl, rfl⟩, fun e => absurd rfl e, fun e => (by cases e)⟩
    · rename_i hx
      by_cases har : x = true ∨ c.tk.l.length < 1 ∨ (if c.give.ext = true then 32 else 12) < c.tk.l.length
      · rw [if_pos har]
        exact hfail 4 (by omega) (by omega)
      · rw [if_neg har]
        split
        · exact sk_flag c h.ri hon h.gv rfl rfl 5 0 false (by omega) (by omega)
        · rename_i hm
          have hxf : x = false := by
            cases x with
            | false => rfl
            | true => exact absurd (.inl rfl) har
          subst hxf
          -- behind arbitration's bit a plain one was read: it goes on reading
          have hplain : ∃ l, Reading l l.length c.tk ∧ c.tk.p = 0 := by
            have hlen : c.pos ≤ (ackL c.give).length := by unfold ackL; rw [List.length_set, hwl]; omega
            have hR := h3.on h2
            refine ⟨(ackL c.give).take c.pos, ?_, ?_⟩
            · rw [show ((ackL c.give).take c.pos).length = c.pos by rw [List.length_take]; omega]
              exact hR.pre hlen
            · rcases hR with hI | hB
              · exact hI.p
              · exfalso
                apply har
                right; right
                rw [hB.li]
                obtain ⟨_, f2, _⟩ := wire_found hg (ack_take (F := c.give) false) (by rw [List.length_set, hwl]; omega)
                have e : bdL (ackL c.give) = boL c.give := f2
                rw [e, boL_length]
                have : 19 ≤ heN c.give.ext ∧ (c.give.ext = true → heN c.give.ext = 39) := by unfold heN; split <;> simp_all
                split
                · rename_i hx; have := this.2 hx; omega
                · omega
          obtain ⟨l, hl, hp0⟩ := hplain
          have hsaid : (nxT c.tk false).2 = 0 := by
            unfold nxT
            rw [if_pos hp0]
            have := nxt_plain (b := c.tk.b) (x := false) hm
            rw [this]; rfl
          exact ⟨⟨h.ri, h.off, h.le, h.gv, fun e => (by cases e), fun _ => ⟨_, hl.more false (.inl hsaid)⟩⟩, fun e => (by cases e), fun _ => ⟨rfl, rfl⟩, fun e => (by cases e)⟩
end Go.Proofs.YtgpmhmdofefdcaaGreat

namespace Go.Proofs.YtgpmhmdofefdcaaGreat
set_option linter.unusedVariables false

theorem no_snd {c : Ct} (h : OnC c) (hp : c.ph ≠ 1) : c.sends = false := by
  cases e : c.sends with
  | false => rfl
  | true => exact absurd (h.snd e).1 hp

/-- The same phase goes on. -/
theorem sk_mk {c : Ct} (d : Ct) (h : OnC c) (hp : c.ph ≠ 1) (e1 : d.ph = c.ph) (e2 : d.has = c.has) (e3 : d.give = c.give) (e4 : d.sends = c.sends) (hr : riC d.cf = true) (ho : d.cf.o = c.cf.o) (w : Nat) (hw : w ≠ 1) (hw2 : w ≠ 2) : StOK c (d, (w, zeroFr)) :=
  ⟨⟨hr, by rw [ho, e1]; exact h.off, by rw [e1]; exact h.le, fun e => by rw [e3]; exact h.gv (by rw [← e2]; exact e), fun e => (by rw [e4, no_snd h hp] at e; cases e), fun e => absurd (e1.symm.trans e) hp⟩, fun e => absurd e hw, fun _ => ⟨e2, e3⟩, fun e => absurd e hw2⟩

theorem ev_on' {c : Cf} (hr : riC c = true) {k : Nat} (hm : ¬ moC (evC c k) = 2) : (evC c k).o = false := by
  cases e : (evC c k).o with
  | false => rfl
  | true => exact absurd ((mo_of_right (ri_ev hr k)).2 e) hm

theorem sk_idle {c : Ct} (h : OnC c) (hp : c.ph = 0) (x : Bool) : StOK c (idleC c x) := by
  have hon := on_off h (by omega)
  unfold idleC
  split
  · split
    · exact sk_flag { c with sender := true } h.ri hon h.gv rfl rfl 4 _ false (by omega) (by omega)
    · exact sk_mk c h (by omega) rfl rfl rfl rfl h.ri rfl 0 (by omega) (by omega)
  · exact sk_beg h hon c.has (fun e => e)

theorem sk_six {c : Ct} (h : OnC c) (hp : c.ph = 2 ∨ c.ph = 4) (x : Bool) : StOK c (sixC c x) := by
  have hon := on_off h (by omega)
  unfold sixC
  obtain ⟨k, hk⟩ : ∃ k, k = if c.sender = true then 6 else 3 := ⟨_, rfl⟩
  rw [← hk]
  have hr := ri_ev h.ri k
  split
  · rename_i hx
    exact sk_off { c with cf := evC c.cf k } hr ((mo_of_right hr).1 hx.2) h.gv rfl rfl
  · rename_i hx
    cases x with
    | true =>
      have ho := ev_on' h.ri (k := k) (fun e => hx ⟨rfl, e⟩)
      dsimp only
      simp only [if_true]
      split
      · exact sk_new { c with cf := evC c.cf k } hr ho h.gv rfl rfl (ph := 5) (by omega) (by omega) (by omega) 0 4 c.err (by omega) (by omega)
      · exact sk_mk { c with cf := evC c.cf k, n := c.n + 1 } h (by omega) rfl rfl rfl rfl hr (by rw [hon]; exact ho) 4 (by omega) (by omega)
    | false =>
      dsimp only
      simp only [Bool.false_eq_true, if_false]
      split
      · exact sk_new c h.ri hon h.gv rfl rfl (ph := 5) (by omega) (by omega) (by omega) 0 0 c.err (by omega) (by omega)
      · exact sk_mk { c with n := c.n + 1 } h (by omega) rfl rfl rfl rfl h.ri rfl 0 (by omega) (by omega)

theorem sk_weak {c : Ct} (h : OnC c) (hp : c.ph = 3) (x : Bool) : StOK c (weakC c x) := by
  have hon := on_off h (by omega)
  have hr := ri_ev h.ri 5
  unfold weakC
  split
  · rename_i hx
    exact sk_off { c with owed := false, cf := evC c.cf 5 } hr ((mo_of_right hr).1 hx.2.2) h.gv rfl rfl
  · rename_i hx
    dsimp only
    obtain ⟨m, hm⟩ : ∃ m, m = if 0 < c.n ∧ c.rl = x then c.n + 1 else 1 := ⟨_, rfl⟩
    rw [← hm]
    cases ho : (c.owed && !x)
    · simp only [Bool.false_eq_true, if_false]
      split
      · exact sk_new c h.ri hon h.gv rfl rfl (ph := 5) (by omega) (by omega) (by omega) 0 0 c.err (by omega) (by omega)
      · exact sk_mk { c with n := m, rl := x } h (by omega) rfl rfl rfl rfl h.ri rfl 0 (by omega) (by omega)
    · simp only [Bool.and_eq_true, Bool.not_eq_true'] at ho
      have hof := ev_on' h.ri (k := 5) (fun e => hx ⟨ho.1, ho.2, e⟩)
      simp only [if_true]
      split
      · exact sk_new { c with owed := false, cf := evC c.cf 5 } hr hof h.gv rfl rfl (ph := 5) (by omega) (by omega) (by omega) 0 0 c.err (by omega) (by omega)
      · exact sk_mk { c with owed := false, cf := evC c.cf 5, n := m, rl := x } h (by omega) rfl rfl rfl rfl hr (by rw [hon]; exact hof) 0 (by omega) (by omega)

theorem sk_wait {c : Ct} (h : OnC c) (hp : c.ph = 5) (x : Bool) : StOK c (waitC c x) := by
  have hon := on_off h (by omega)
  unfold waitC
  split
  · exact sk_new c h.ri hon h.gv rfl rfl (ph := 6) (by omega) (by omega) (by omega) 1 0 c.err (by omega) (by omega)
  · have hr := ri_ev h.ri (waitE c)
    by_cases h0 : waitE c = 0
    · rw [if_neg (fun e => e.2 h0)]
      have : cntC c (waitE c) = c := by unfold cntC; rw [if_pos h0]
      rw [this]
      exact sk_mk { c with n := c.n + 1 } h (by omega) rfl rfl rfl rfl h.ri rfl 0 (by omega) (by omega)
    · have hc : cntC c (waitE c) = { c with cf := evC c.cf (waitE c) } := by unfold cntC; rw [if_neg h0]
      rw [hc]
      split
      · rename_i hx
        exact sk_off { c with cf := evC c.cf (waitE c) } hr ((mo_of_right hr).1 hx.1) h.gv rfl rfl
      · rename_i hx
        have hof := ev_on' h.ri (k := waitE c) (fun e => hx ⟨e, h0⟩)
        exact sk_mk { c with cf := evC c.cf (waitE c), n := c.n + 1 } h (by omega) rfl rfl rfl rfl hr (by rw [hon]; exact hof) 0 (by omega) (by omega)

theorem sk_delim {c : Ct} (h : OnC c) (hp : c.ph = 6) (x : Bool) : StOK c (delimC c x) := by
  have hon := on_off h (by omega)
  unfold delimC
  split
  · split
    · exact sk_new c h.ri hon h.gv rfl rfl (ph := 7) (by omega) (by omega) (by omega) 0 0 c.err (by omega) (by omega)
    · exact sk_mk { c with n := c.n + 1 } h (by omega) rfl rfl rfl rfl h.ri rfl 0 (by omega) (by omega)
  · split
    · exact sk_flag c h.ri hon h.gv rfl rfl 6 _ false (by omega) (by omega)
    · exact sk_new c h.ri hon h.gv rfl rfl (ph := 4) (by omega) (by omega) (by omega) 0 9 false (by omega) (by omega)

theorem sk_inter {c : Ct} (h : OnC c) (hp : c.ph = 7) (x : Bool) : StOK c (interC c x) := by
  have hon := on_off h (by omega)
  unfold interC
  split
  · split
    · cases holdC c
      · exact sk_new c h.ri hon h.gv rfl rfl (ph := 0) (by omega) (by omega) (by omega) 0 0 c.err (by omega) (by omega)
      · exact sk_new c h.ri hon h.gv rfl rfl (ph := 8) (by omega) (by omega) (by omega) 0 0 c.err (by omega) (by omega)
    · exact sk_mk { c with n := c.n + 1 } h (by omega) rfl rfl rfl rfl h.ri rfl 0 (by omega) (by omega)
  · split
    · exact sk_new c h.ri hon h.gv rfl rfl (ph := 4) (by omega) (by omega) (by omega) 0 9 false (by omega) (by omega)
    · exact sk_beg h hon _ (fun e => by simp only [Bool.and_eq_true] at e; exact e.1)

theorem sk_hold {c : Ct} (h : OnC c) (hp : c.ph = 8) (x : Bool) : StOK c (hold8C c x) := by
  have hon := on_off h (by omega)
  unfold hold8C
  split
  · split
    · exact sk_new c h.ri hon h.gv rfl rfl (ph := 0) (by omega) (by omega) (by omega) 0 0 c.err (by omega) (by omega)
    · exact sk_mk { c with n := c.n + 1 } h (by omega) rfl rfl rfl rfl h.ri rfl 0 (by omega) (by omega)
  · exact sk_beg h hon false (fun e => by cases e)

theorem sk_offs {c : Ct} (h : OnC c) (hp : c.ph = 9) (x : Bool) : StOK c (offsC c x) := by
  have ho := h.off.2 hp
  have hr := ri_bit h.ri x
  unfold offsC
  split
  · rename_i hm
    exact sk_mk { c with cf := biC c.cf x } h (by omega) rfl rfl rfl rfl hr (by rw [ho]; exact (mo_of_right hr).1 hm) 0 (by omega) (by omega)
  · rename_i hm
    have hof : (biC c.cf x).o = false := by
      cases e : (biC c.cf x).o with
      | false => rfl
      | true => exact absurd ((mo_of_right hr).2 e) hm
    exact sk_new { c with cf := biC c.cf x } hr hof h.gv rfl rfl (ph := 0) (by omega) (by omega) (by omega) 0 11 c.err (by omega) (by omega)

/-- Whatever bit comes. -/
theorem on_step {c : Ct} (h : OnC c) (x : Bool) : StOK c (stC c x) := by
  have hle := h.le
  unfold stC
  split
  · rename_i hp; exact sk_idle h hp x
  · split
    · rename_i hp
      split
      · rename_i hs; exact sk_snd h hs x
      · rename_i hs; exact sk_rcv h hp (by simpa using hs) x
    · split
      · rename_i hp; exact sk_six h hp x
      · split
        · rename_i hp; exact sk_weak h hp x
        · split
          · rename_i hp; exact sk_wait h hp x
          · split
            · rename_i hp; exact sk_delim h hp x
            · split
              · rename_i hp; exact sk_inter h hp x
              · split
                · rename_i hp; exact sk_hold h hp x
                · exact sk_offs h (by omega) x

/-- A frame that is given, and one that is taken back. -/
theorem on_give {c : Ct} (h : OnC c) {F : Fr} (hg : Good F) (hn : c.has = false) : OnC { c with has := true, give := F } :=
  ⟨h.ri, h.off, h.le, fun _ => hg, fun e => (by have := (h.snd e).2.1; rw [hn] at this; cases this), h.rd⟩

theorem on_drop {c : Ct} (h : OnC c) (hs : c.sends = false) : OnC { c with has := false, give := zeroFr } :=
  ⟨h.ri, h.off, h.le, fun e => (by cases e), fun e => (by have : c.sends = true := e; rw [hs] at this; cases this), h.rd⟩
end Go.Proofs.YtgpmhmdofefdcaaGreat

namespace Go.Proofs.YtgpmhmdofefdcaaGreat
set_option linter.unusedVariables false
set_option linter.unusedSectionVars false

/-- What stands in a controller beside what OnC says, behind m bits. -/
structure SmC (m : Nat) (c : Ct) : Prop where
  n : c.n ≤ m
  six : c.ph = 6 → c.n < 8
  gz : c.has = false → c.give = zeroFr
  wl : c.wire.length ≤ 200
  tz : c.ph ≠ 1 → c.tk.l = []
  tl : c.tk.l.length ≤ 1000

theorem mo_le (c : Cf) : moC c ≤ 2 := by
  unfold moC
  split
  · exact Nat.le_refl _
  · split <;> omega

theorem sm_start : SmC 0 c0 := ⟨Nat.le_refl _, fun e => (by cases e), fun _ => rfl, by simp [c0], fun _ => rfl, by simp [c0, s0]⟩

theorem SmC.mono {m m' : Nat} {c : Ct} (h : SmC m c) (hm : m ≤ m') : SmC m' c := ⟨by have := h.n; omega, h.six, h.gz, h.wl, h.tz, h.tl⟩

/-- A phase that begins. -/
theorem sm_new {m : Nat} {c : Ct} (hg : c.has = false → c.give = zeroFr) {ph n : Nat} (hn : n ≤ 1) (hm : 1 ≤ m) (h1 : ph ≠ 1) (e o rl b : Bool) : SmC m { newC c ph with n := n, err := e, owed := o, rl := rl, sender := b } :=
  ⟨by show n ≤ m; omega, fun _ => by show n < 8; omega, hg, by show ([] : List Bool).length ≤ 200; simp, fun _ => rfl, by show ([] : List Bool).length ≤ 1000; simp⟩

section
variable {m : Nat} {c : Ct} (h : OnC c) (k : SmC m c)
include h k

theorem sm_flag {c1 : Ct} (e1 : c1.has = c.has) (e2 : c1.give = c.give) (w q : Nat) (o : Bool) : SmC (m + 1) (flagC c1 w q o).1 := by
  have g1 : (cntC c1 q).has = false → (cntC c1 q).give = zeroFr := by
    have a1 : (cntC c1 q).has = c.has := by unfold cntC; split <;> exact e1
    have a2 : (cntC c1 q).give = c.give := by unfold cntC; split <;> exact e2
    rw [a1, a2]; exact k.gz
  unfold flagC
  split
  · exact sm_new (c := cntC c1 q) g1 (ph := 9) (n := 0) (by omega) (by omega) (by omega) (cntC c1 q).err false false false
  · split
    · exact sm_new (c := cntC c1 q) g1 (ph := 3) (n := 0) (by omega) (by omega) (by omega) true o false (cntC c1 q).sender
    · exact sm_new (c := cntC c1 q) g1 (ph := 2) (n := 0) (by omega) (by omega) (by omega) true o false (cntC c1 q).sender

theorem sm_fresh {c1 : Ct} (e1 : c1.has = c.has) (e2 : c1.give = c.give) {ph n : Nat} (h1 : ph ≠ 1) (hn : n ≤ 1) (e b : Bool) : SmC (m + 1) { newC c1 ph with n := n, err := e, sender := b } :=
  sm_new (c := c1) (by rw [e1, e2]; exact k.gz) hn (by omega) h1 e false false b

theorem sm_off {c1 : Ct} (e1 : c1.has = c.has) (e2 : c1.give = c.give) : SmC (m + 1) (offC c1).1 := sm_fresh h k e1 e2 (ph := 9) (n := 0) (by omega) (by omega) c1.err false
theorem sm_plain {c1 : Ct} (e1 : c1.has = c.has) (e2 : c1.give = c.give) {ph : Nat} (h1 : ph ≠ 1) : SmC (m + 1) (newC c1 ph) := sm_fresh h k e1 e2 (ph := ph) (n := 0) h1 (by omega) c1.err c1.sender

theorem sm_beg (s : Bool) (hs : s = true → c.has = true) : SmC (m + 1) (begC c s) := by
  refine ⟨by show 0 ≤ _; omega, fun e => (by cases e), k.gz, ?_, fun e => absurd rfl e, by show (nxT s0 false).1.l.length ≤ 1000; decide⟩
  show (if s = true then wiL c.give else []).length ≤ 200
  cases s with
  | false => simp
  | true =>
    rw [if_pos rfl, wiL_length]
    have := P_top (h.gv (hs rfl))
    omega

/-- Whatever bit comes. -/
theorem sm_step (x : Bool) : SmC (m + 1) (stC c x).1 := by
  have hon := (on_step h x).on
  have htl : (stC c x).1.ph = 1 → (stC c x).1.tk.l.length ≤ 1000 := fun e => by
    obtain ⟨l, hl⟩ := hon.rd e
    have := hl.short; omega
  have keep : ∀ (c1 : Ct), c1.ph = c.ph → c1.n ≤ c.n + 1 → (c.ph = 6 → c1.n < 8) → c1.has = c.has → c1.give = c.give → c1.wire = c.wire → c1.tk = c.tk → SmC (m + 1) c1 := fun c1 a1 a2 a3 a4 a5 a6 a7 =>
    ⟨by have := k.n; omega, fun e => a3 (by rw [← a1]; exact e), by rw [a4, a5]; exact k.gz, by rw [a6]; exact k.wl, by rw [a1, a7]; exact k.tz, by rw [a7]; exact k.tl⟩
  revert htl
  unfold stC
  split
  · intro _
    unfold idleC
    split
    · split
      · exact sm_flag h k (c1 := { c with sender := true }) rfl rfl 4 5 false
      · exact k.mono (by omega)
    · exact sm_beg h k c.has (fun e => e)
  rename_i n0
  split
  · rename_i n1
    split
    · rename_i hs
      obtain ⟨_, hhas, hw, _⟩ := h.snd hs
      unfold sndC
      split
      · split
        · intro htl
          exact ⟨by have := k.n; show c.n ≤ _; omega, fun e => by have : c.ph = 6 := e; omega, k.gz, k.wl, fun e => absurd n1 e, htl n1⟩
        · intro _
          split
          · exact sm_flag h k rfl rfl 7 0 true
          · exact sm_flag h k rfl rfl 7 _ false
      · split
        · split
          · intro htl
            exact ⟨by have := k.n; show c.n ≤ _; omega, fun e => by have : c.ph = 6 := e; omega, k.gz, k.wl, fun e => absurd n1 e, htl n1⟩
          · intro _
            exact sm_new (c := { c with cf := evC c.cf 8, has := false, give := zeroFr }) (fun _ => rfl) (ph := 7) (n := 0) (by omega) (by omega) (by omega) c.err false false c.sender
        · by_cases c3 : x = true ∨ c.tk.l.length < 1 ∨ (if c.give.ext then 32 else 12) < c.tk.l.length
          · rw [if_pos c3]
            intro _; exact sm_flag h k rfl rfl 4 _ false
          · rw [if_neg c3]
            split
            · intro _; exact sm_flag h k rfl rfl 5 0 false
            · intro htl
              exact ⟨by have := k.n; show c.n ≤ _; omega, fun e => by have : c.ph = 6 := e; omega, k.gz, by show ([] : List Bool).length ≤ 200; simp, fun e => absurd n1 e, htl n1⟩
    · unfold rcvC
      split
      · split
        · intro _; exact sm_flag h k (c1 := { c with tk := (nxT c.tk x).1 }) rfl rfl 4 _ false
        · intro htl
          exact ⟨by have := k.n; show c.n ≤ _; omega, fun e => by have : c.ph = 6 := e; omega, k.gz, k.wl, fun e => absurd n1 e, htl n1⟩
      split
      · intro _; exact sm_flag h k (c1 := { c with tk := (nxT c.tk x).1 }) rfl rfl 5 _ false
      split
      · intro _; exact sm_flag h k (c1 := { c with tk := (nxT c.tk x).1 }) rfl rfl 6 _ false
      split
      · intro _; exact sm_flag h k (c1 := { c with tk := (nxT c.tk x).1 }) rfl rfl 8 _ false
      split
      · intro htl
        exact ⟨by have := k.n; show c.n ≤ _; omega, fun e => by have : c.ph = 6 := e; omega, k.gz, k.wl, fun e => absurd n1 e, htl n1⟩
      split
      · intro _; exact sm_fresh h k rfl rfl (ph := 4) (n := 0) (by omega) (by omega) false c.sender
      · intro _; exact sm_plain h k rfl rfl (by omega)
  rename_i n1
  intro _
  split
  · rename_i n2
    unfold sixC
    generalize (if c.sender = true then 6 else 3) = q
    split
    · exact sm_off h k rfl rfl
    · cases x with
      | true =>
        dsimp only
        rw [if_pos rfl]
        split
        · exact sm_plain h k (c1 := { c with cf := evC c.cf q }) rfl rfl (by omega)
        · exact keep _ rfl (by show c.n + 1 ≤ _; omega) (fun e => by omega) rfl rfl rfl rfl
      | false =>
        dsimp only
        rw [if_neg Bool.false_ne_true]
        split
        · exact sm_plain h k rfl rfl (by omega)
        · exact keep _ rfl (by show c.n + 1 ≤ _; omega) (fun e => by omega) rfl rfl rfl rfl
  split
  · rename_i n3
    unfold weakC
    split
    · exact sm_off h k rfl rfl
    · dsimp only
      obtain ⟨d, hd⟩ : ∃ d : Ct, d = (if (c.owed && !x) = true then { c with owed := false, cf := evC c.cf 5 } else c) := ⟨_, rfl⟩
      rw [← hd]
      have a : d.ph = c.ph ∧ d.has = c.has ∧ d.give = c.give ∧ d.wire = c.wire ∧ d.tk = c.tk := by rw [hd]; split <;> exact ⟨rfl, rfl, rfl, rfl, rfl⟩
      obtain ⟨a1, a2, a3, a4, a5⟩ := a
      have hb : (if 0 < c.n ∧ c.rl = x then c.n + 1 else 1) ≤ c.n + 1 := by split <;> omega
      generalize (if 0 < c.n ∧ c.rl = x then c.n + 1 else 1) = mm at *
      split
      · exact sm_plain h k a2 a3 (by omega)
      · exact keep _ a1 hb (fun e => by omega) a2 a3 a4 a5
  split
  · rename_i n5
    unfold waitC
    split
    · exact sm_fresh h k rfl rfl (ph := 6) (n := 1) (by omega) (by omega) c.err c.sender
    · have a : ∀ q, (cntC c q).ph = c.ph ∧ (cntC c q).has = c.has ∧ (cntC c q).give = c.give ∧ (cntC c q).wire = c.wire ∧ (cntC c q).tk = c.tk := fun q => by unfold cntC; split <;> exact ⟨rfl, rfl, rfl, rfl, rfl⟩
      obtain ⟨a1, a2, a3, a4, a5⟩ := a (waitE c)
      split
      · exact sm_off h k a2 a3
      · exact keep _ a1 (by show c.n + 1 ≤ _; omega) (fun e => by omega) a2 a3 a4 a5
  split
  · rename_i n6
    have h8 := k.six n6
    unfold delimC
    split
    · split
      · exact sm_plain h k rfl rfl (by omega)
      · exact keep _ rfl (by show c.n + 1 ≤ _; omega) (fun e => by show c.n + 1 < 8; omega) rfl rfl rfl rfl
    · split
      · exact sm_flag h k rfl rfl 6 _ false
      · exact sm_fresh h k rfl rfl (ph := 4) (n := 0) (by omega) (by omega) false c.sender
  split
  · rename_i n7
    unfold interC
    split
    · split
      · split
        · exact sm_plain h k rfl rfl (by omega)
        · exact sm_plain h k rfl rfl (by omega)
      · exact keep _ rfl (by show c.n + 1 ≤ _; omega) (fun e => by omega) rfl rfl rfl rfl
    · split
      · exact sm_fresh h k rfl rfl (ph := 4) (n := 0) (by omega) (by omega) false c.sender
      · exact sm_beg h k _ (fun e => by simp at e; exact e.1)
  split
  · rename_i n8
    unfold hold8C
    split
    · split
      · exact sm_plain h k rfl rfl (by omega)
      · exact keep _ rfl (by show c.n + 1 ≤ _; omega) (fun e => by omega) rfl rfl rfl rfl
    · exact sm_beg h k false (fun e => by cases e)
  · unfold offsC
    split
    · exact keep _ rfl (by show c.n ≤ _; omega) (fun e => k.six e) rfl rfl rfl rfl
    · exact sm_plain h k (c1 := { c with cf := biC c.cf x }) rfl rfl (by omega)

theorem sm_ok (hm : m ≤ 1000000000) : StepOK c := by
  refine ⟨by have := h.le; omega, by have := k.n; omega, fun h9 => ?_, h.gv, ?_, by have := k.wl; omega, by have := k.tl; omega, fun h1 => ?_, fun h1 hs => ?_, k.six⟩
  · have ho := on_off h h9
    have h2 : ¬ moC c.cf = 2 := fun e => by
      have := (mo_of_right h.ri).1 e
      rw [ho] at this; cases this
    have := mo_le c.cf
    omega
  · cases hh : c.has with
    | false => rw [k.gz hh]; simp [zeroFr]
    | true => have := good_len (h.gv hh); omega
  · obtain ⟨l, hl⟩ := h.rd h1
    have h118 := hl.short
    rcases hl with hI | hB
    · exact ⟨hI.ri, by omega, by have := hI.p; omega, fun e => by have := hI.p; omega⟩
    · exact ⟨hB.ri, by omega, by have := hB.p; have := hB.hi; omega, fun e => ⟨hB.ok (by omega), hB.m⟩⟩
  · obtain ⟨_, hhas, hw, p1, p2, hr⟩ := h.snd hs
    have hg := h.gv hhas
    have z := (ok_snd hg (cf := zeC) (by decide) p1 p2 hr (rd_len hg p1 p2 hr)).sn rfl rfl
    exact ⟨by rw [hw]; exact z.pos, by rw [hw]; exact z.len, by rw [hw]; exact z.ack, z.one⟩
end
end Go.Proofs.YtgpmhmdofefdcaaGreat

namespace Go.Proofs.YtgpmhmdofefdcaaGreat
set_option linter.unusedVariables false

theorem sm_give {m : Nat} {c : Ct} (k : SmC m c) (F : Fr) : SmC m { c with has := true, give := F } := ⟨k.n, k.six, fun e => (by cases e), k.wl, k.tz, k.tl⟩
theorem sm_drop {m : Nat} {c : Ct} (k : SmC m c) : SmC m { c with has := false, give := zeroFr } := ⟨k.n, k.six, fun _ => rfl, k.wl, k.tz, k.tl⟩
end Go.Proofs.YtgpmhmdofefdcaaGreat
