/-
  Texts of this place, put together: M9, M14c, B10d, B10g, B10j. What stands here is used by the statement; conditions: none of their own.
-/
import Derived.Test.YtajdbimdiodalaaGreatZc5
import Derived.BigQuiet
import Derived.Deep.QuietTactic
import Derived.Lib.QuietBelow
import Derived.LaidEqlPtr
import Derived.Deep.RegionLaw
import Derived.Lib.SliceRun
namespace Go.Proofs.YtajdbimdiodalaaGreat
set_option linter.unusedVariables false

/-- The body that was read is found in what was read so far. -/
theorem Reading.pre {l : List Bool} {k : Nat} {s : Tk} (hk : k ≤ l.length) (h : Reading l k s) : Reading (l.take k) k s := by
  have hlk : (l.take k).length = k := by rw [List.length_take]; omega
  have htt : (l.take k).take k = l.take k := by rw [List.take_take, Nat.min_self]
  rcases h with h | h
  · left
    exact ⟨h.p, by rw [htt]; exact h.tk, by rw [htt]; exact h.ru, h.fi, h.le, h.no, by omega, h.ri⟩
  · right
    have ht2 : (l.take k).take (bdN l) = putL (bdL l) := by rw [List.take_take, Nat.min_eq_left h.lo, h.pu]
    have htk : tkL ((l.take k).take (bdN l)) = (bdL l, -1) := by rw [ht2]; exact tkL_putL _
    have hm : (ruF false 0 ((l.take k).take (bdN l))).2 ≠ 5 := fun e => by
      have := put_at htk
      rw [if_pos e, ht2] at this
      have := congrArg List.length this
      simp at this
    obtain ⟨e1, e2, _, e4⟩ := bd_found (by rw [hlk]; exact h.lo) htk hm h.cm
    exact ⟨by rw [e1]; exact h.n0, by rw [e1]; exact h.lo, by rw [e1]; exact h.hi, by rw [e1]; exact h.p, by rw [e2]; exact h.li, by rw [e2]; exact h.fi, h.m, h.ri, h.ok, by rw [e1, e2]; exact e4, by rw [e2]; exact h.cm⟩

def rfN (l : List Bool) : Bool := decide (bdN l = 0) || decide (l.length < bdN l)
def rfF (l : List Bool) : Fr := if rfN l then zeroFr else paU (bdL l)
def rfK (l : List Bool) : Bool := !rfN l && fitL (bdL l)

theorem Reading.frame {l : List Bool} {s : Tk} (h : Reading l l.length s) : frF s.m s.l s.p s.fi = rfF l ∧ frK s.m s.l s.p s.fi = rfK l := by
  unfold frF frK rfF rfK
  rcases h with h | h
  · have e1 : frN s.m s.p s.fi = true := by unfold frN; rw [h.p]; rfl
    have e2 : rfN l = true := by
      unfold rfN
      rcases h.early with e | e
      · simp [e]
      · rw [decide_eq_true e]; simp
    rw [e1, e2]; exact ⟨rfl, rfl⟩
  · have e2 : rfN l = false := by
      unfold rfN; rw [decide_eq_false h.n0, decide_eq_false (by have := h.lo; omega)]; rfl
    have e1 : frN s.m s.p s.fi = !s.fi := by
      unfold frN
      rw [decide_eq_false (by have := h.p; omega), decide_eq_false h.m]; simp
    rw [e1, e2, h.li, h.fi]
    cases hf : fitL (bdL l)
    · refine ⟨?_, rfl⟩
      simp only [Bool.not_false, if_true, Bool.false_eq_true, if_false]
      unfold paU
      unfold fitL at hf
      rw [hf]; rfl
    · exact ⟨rfl, rfl⟩
end Go.Proofs.YtajdbimdiodalaaGreat

namespace Go.Proofs.YtajdbimdiodalaaGreat
set_option linter.unusedVariables false

/-- A controller as it may be, whatever bits came. -/
structure OnC (c : Ct) : Prop where
  ri : riC c.cf = true
  off : c.cf.o = true ↔ c.ph = 9
  le : c.ph ≤ 9
  gv : c.has = true → Good c.give
  snd : c.sends = true → c.ph = 1 ∧ c.has = true ∧ c.wire = wiL c.give ∧ 1 ≤ c.pos ∧ c.pos < (putL (boL c.give)).length + 10 ∧ Rd (ackL c.give) (putL (boL c.give)).length c.pos c.tk
  rd : c.ph = 1 → ∃ l, Reading l l.length c.tk

/-- What a bit may do. -/
structure StOK (c : Ct) (r : Ct × Hp) : Prop where
  on : OnC r.1
  sent : r.2.1 = 1 → c.has = true ∧ r.2.2 = c.give ∧ r.1.has = false
  keep : r.2.1 ≠ 1 → r.1.has = c.has ∧ r.1.give = c.give
  took : r.2.1 = 2 → Good r.2.2 ∧ r.1.sends = false

theorem OnC.start : OnC c0 := ⟨by decide, by simp [c0, zeC], by simp [c0], by simp [c0], by simp [c0], by simp [c0]⟩

/-- A phase that begins, of one that is on. -/
theorem on_new {c : Ct} (hr : riC c.cf = true) (ho : c.cf.o = false) (hg : c.has = true → Good c.give) {ph : Nat} (h1 : ph ≠ 1) (h9 : ph ≠ 9) (hle : ph ≤ 9) : OnC (newC c ph) :=
  ⟨hr, ⟨fun h => (by have : c.cf.o = true := h; rw [ho] at this; cases this), fun h => absurd h h9⟩, hle, hg, fun h => (by cases h), fun h => absurd h h1⟩

theorem on_ph {c : Ct} (n : Nat) (e o rl : Bool) {ph : Nat} (h : OnC (newC c ph)) (h1 : ph ≠ 1) : OnC { newC c ph with n := n, err := e, owed := o, rl := rl } :=
  ⟨h.ri, h.off, h.le, h.gv, fun hs => (by cases hs), fun hp => absurd hp h1⟩

theorem sk_off {c : Ct} (c1 : Ct) (hr : riC c1.cf = true) (ho : c1.cf.o = true) (hg : c.has = true → Good c.give) (h1 : c1.has = c.has) (h2 : c1.give = c.give) : StOK c (offC c1) :=
  ⟨⟨hr, ⟨fun _ => rfl, fun _ => ho⟩, Nat.le_refl _, fun h => by show Good c1.give; rw [h2]; exact hg (by rw [← h1]; exact h), fun h => (by cases h), fun h => (by cases h)⟩, fun h => (by cases h), fun _ => ⟨h1, h2⟩, fun h => (by cases h)⟩

theorem sk_flag {c : Ct} (c1 : Ct) (hr : riC c1.cf = true) (hon : c1.cf.o = false) (hg : c.has = true → Good c.give) (h1 : c1.has = c.has) (h2 : c1.give = c.give) (w k : Nat) (o : Bool) (hw : w ≠ 1) (hw2 : w ≠ 2) : StOK c (flagC c1 w k o) := by
  have hgc : ∀ d : Ct, d.has = c1.has → d.give = c1.give → (d.has = true → Good d.give) := fun d e1 e2 h => by rw [e2, h2]; exact hg (by rw [← h1, ← e1]; exact h)
  have hcr : riC (cntC c1 k).cf = true := by
    unfold cntC; split
    · exact hr
    · exact ri_ev hr k
  have hch : (cntC c1 k).has = c1.has ∧ (cntC c1 k).give = c1.give := by unfold cntC; split <;> exact ⟨rfl, rfl⟩
  unfold flagC
  split
  · rename_i hm
    exact sk_off _ hcr ((mo_of_right hcr).1 hm) hg (hch.1.trans h1) (hch.2.trans h2)
  · rename_i hm
    have hoff : (cntC c1 k).cf.o = false := by
      cases e : (cntC c1 k).cf.o with
      | false => rfl
      | true => exact absurd ((mo_of_right hcr).2 e) hm
    have hph : ∀ ph, ph ≠ 1 → ph ≠ 9 → ph ≤ 9 → StOK c ({ newC (cntC c1 k) ph with err := true, owed := o }, (w, zeroFr)) := fun ph a1 a2 a3 =>
      ⟨on_ph 0 true o false (on_new hcr hoff (hgc _ hch.1 hch.2) a1 a2 a3) a1, fun h => absurd h hw, fun _ => ⟨hch.1.trans h1, hch.2.trans h2⟩, fun h => absurd h hw2⟩
    split
    · exact hph 3 (by omega) (by omega) (by omega)
    · exact hph 2 (by omega) (by omega) (by omega)

theorem sk_new {c : Ct} (c1 : Ct) (hr : riC c1.cf = true) (hon : c1.cf.o = false) (hg : c.has = true → Good c.give) (h1 : c1.has = c.has) (h2 : c1.give = c.give) {ph : Nat} (a1 : ph ≠ 1) (a2 : ph ≠ 9) (a3 : ph ≤ 9) (n w : Nat) (e : Bool) (hw : w ≠ 1) (hw2 : w ≠ 2) :
    StOK c ({ newC c1 ph with n := n, err := e }, (w, zeroFr)) :=
  ⟨on_ph n e false false (on_new hr hon (fun h => by rw [h2]; exact hg (by rw [← h1]; exact h)) a1 a2 a3) a1, fun h => absurd h hw, fun _ => ⟨h1, h2⟩, fun h => absurd h hw2⟩

/-- A frame that begins. -/
theorem sk_beg {c : Ct} (h : OnC c) (hon : c.cf.o = false) (s : Bool) (hs : s = true → c.has = true) : StOK c (begC c s, noH) := by
  refine ⟨⟨h.ri, ⟨fun e => (by have : c.cf.o = true := e; rw [hon] at this; cases this), fun e => (by cases e)⟩, by show 1 ≤ 9; omega, h.gv, fun e => ?_, fun _ => ?_⟩, fun e => (by cases e), fun _ => ⟨rfl, rfl⟩, fun e => (by cases e)⟩
  · have hs1 : s = true := e
    subst hs1
    have hh := hs rfl
    have hP := P_pos c.give
    exact ⟨rfl, hh, rfl, Nat.le_refl _, by show 1 < _; omega, rd_one (h.gv hh)⟩
  · refine ⟨[false], ?_⟩
    have := (Reading.start []).more false (.inl (by rfl))
    exact this

theorem on_off {c : Ct} (h : OnC c) (hp : c.ph ≠ 9) : c.cf.o = false := by
  cases e : c.cf.o with
  | false => rfl
  | true => exact absurd (h.off.1 e) hp

theorem sk_rcv {c : Ct} (h : OnC c) (hp : c.ph = 1) (hs : c.sends = false) (x : Bool) : StOK c (rcvC c x) := by
  have hon := on_off h (by omega)
  obtain ⟨l, hl⟩ := h.rd hp
  have hfail : ∀ w, w ≠ 1 → w ≠ 2 → StOK c (failC { c with tk := (nxT c.tk x).1 } w) := fun w a b => sk_flag { c with tk := (nxT c.tk x).1 } h.ri hon h.gv rfl rfl w _ false a b
  unfold rcvC
  split
  · rename_i h0
    split
    · exact hfail 4 (by omega) (by omega)
    · exact ⟨⟨h.ri, h.off, h.le, h.gv, fun e => (by have : c.sends = true := e; rw [hs] at this; cases this), fun _ => ⟨_, hl.more x (.inl h0)⟩⟩, fun e => (by cases e), fun _ => ⟨rfl, rfl⟩, fun e => (by cases e)⟩
  · split
    · exact hfail 5 (by omega) (by omega)
    · split
      · exact hfail 6 (by omega) (by omega)
      · split
        · exact hfail 8 (by omega) (by omega)
        · split
          · rename_i h4
            have hr9 := ri_ev h.ri 9
            have ho9 : (evC c.cf 9).o = c.cf.o := by
              unfold evC
              split
              · rfl
              · split
                · rfl
                · obtain ⟨a1, a2, a3, a4, _⟩ := ri_on h.ri hon
                  show decide (teA c.cf.t 9 > 255) = _
                  rw [te_rec (by omega), hon]
                  exact decide_eq_false (by omega)
            refine ⟨⟨hr9, ⟨fun e => ?_, fun e => ?_⟩, h.le, h.gv, fun e => (by have : c.sends = true := e; rw [hs] at this; cases this), fun _ => ⟨_, hl.more x (.inr h4)⟩⟩, fun e => (by cases e), fun _ => ⟨rfl, rfl⟩, fun _ => ⟨took_good hl h4, hs⟩⟩
            · have : (evC c.cf 9).o = true := e
              rw [ho9, hon] at this; cases this
            · have : c.ph = 9 := e
              omega
          · split
            · exact sk_new c h.ri hon h.gv rfl rfl (by omega) (by omega) (by omega) 0 9 false (by omega) (by omega)
            · exact sk_new c h.ri hon h.gv rfl rfl (by omega) (by omega) (by omega) 0 0 c.err (by omega) (by omega)

theorem sk_snd {c : Ct} (h : OnC c) (hs : c.sends = true) (x : Bool) : StOK c (sndC c x) := by
  obtain ⟨hp, hh, hw, h1, h2, h3⟩ := h.snd hs
  have hg := h.gv hh
  have hon := on_off h (by omega)
  have hwl := wiL_length c.give
  have hP := P_pos c.give
  have hfail : ∀ w, w ≠ 1 → w ≠ 2 → StOK c (failC c w) := fun w a b => sk_flag c h.ri hon h.gv rfl rfl w _ false a b
  have hgo : ∀ y, (ackL c.give)[c.pos]? = some y → y = x → c.pos + 1 < (putL (boL c.give)).length + 10 → StOK c ({ c with tk := (nxT c.tk x).1, pos := c.pos + 1 }, noH) := fun y hy hyx hlt => by
    subst hyx
    obtain ⟨e1, e2, _⟩ := whole_step hg h2 h3 hy
    obtain ⟨l, hl⟩ := h.rd hp
    refine ⟨⟨h.ri, h.off, h.le, h.gv, fun _ => ⟨hp, hh, hw, by show 1 ≤ c.pos + 1; omega, hlt, e2⟩, fun _ => ⟨(ackL c.give).take (c.pos + 1), ?_⟩⟩, fun e => (by cases e), fun _ => ⟨rfl, rfl⟩, fun e => (by cases e)⟩
    have hlen : c.pos + 1 ≤ (ackL c.give).length := by unfold ackL; rw [List.length_set, hwl]; omega
    have := Reading.pre (l := ackL c.give) hlen (e2.on hlt)
    rw [show ((ackL c.give).take (c.pos + 1)).length = c.pos + 1 by rw [List.length_take]; omega]
    exact this
  have hwlen : c.wire.length = (putL (boL c.give)).length + 10 := by rw [hw]; exact hwl
  unfold sndC
  rw [hwlen]
  split
  · rename_i h9
    split
    · rename_i hx
      have hpos : c.pos = (putL (boL c.give)).length + 1 := by omega
      exact hgo false (by rw [hpos, ack_at (by omega)]; rfl) hx.symm (by omega)
    · split
      · exact sk_flag c h.ri hon h.gv rfl rfl 7 0 true (by omega) (by omega)
      · exact hfail 7 (by omega) (by omega)
  · rename_i h9
    split
    · rename_i hx
      split
      · rename_i hlt
        rw [hw] at hx
        refine hgo x ?_ rfl hlt
        unfold ackL
        rw [List.getElem?_set_ne (by omega)]
        obtain ⟨z, hz⟩ : ∃ z, (wiL c.give)[c.pos]? = some z := ⟨(wiL c.give)[c.pos]'(by rw [hwl]; exact h2), by simp⟩
        rw [hz] at hx ⊢
        simp at hx
        rw [hx]
      · have hr8 := ri_ev h.ri 8
        have ho8 : (evC c.cf 8).o = false := by
          obtain ⟨a1, a2, a3, a4, _⟩ := ri_on h.ri hon
          unfold evC
          split
          · exact hon
          · split
            · exact hon
            · show decide (teA c.cf.t 8 > 255) = false
              unfold teA
              rw [if_neg (by omega), if_pos rfl]
              exact decide_eq_false (by omega)
        exact ⟨⟨hr8, ⟨fun e => (by have : (evC c.cf 8).o = true := e; rw [ho8] at this; cases this), fun e => (by cases e)⟩, by show 7 ≤ 9; omega, fun e => (by cases e), fun e => (by cases e), fun e => (by cases e)⟩, fun _ => ⟨hh, rfl, rfl⟩, fun e => absurd rfl e, fun e => (by cases e)⟩
    · rename_i hx
      by_cases har : x = true ∨ c.tk.l.length < 1 ∨ (if c.give.ext = true then 32 else 12) < c.tk.l.length
      · rw [if_pos har]
        exact hfail 4 (by omega) (by omega)
      · rw [if_neg har]
        split
        · exact sk_flag c h.ri hon h.gv rfl rfl 5 0 false (by omega) (by omega)
        · rename_i hm
          have hxf : x = false := by
            cases x with
            | false => rfl
            | true => exact absurd (.inl rfl) har
          subst hxf
          -- behind arbitration's bit a plain one was read: it goes on reading
          have hplain : ∃ l, Reading l l.length c.tk ∧ c.tk.p = 0 := by
            have hlen : c.pos ≤ (ackL c.give).length := by unfold ackL; rw [List.length_set, hwl]; omega
            have hR := h3.on h2
            refine ⟨(ackL c.give).take c.pos, ?_, ?_⟩
            · rw [show ((ackL c.give).take c.pos).length = c.pos by rw [List.length_take]; omega]
              exact hR.pre hlen
            · rcases hR with hI | hB
              · exact hI.p
              · exfalso
                apply har
                right; right
                rw [hB.li]
                obtain ⟨_, f2, _⟩ := wire_found hg (ack_take (F := c.give) false) (by rw [List.length_set, hwl]; omega)
                have e : bdL (ackL c.give) = boL c.give := f2
                rw [e, boL_length]
                have : 19 ≤ heN c.give.ext ∧ (c.give.ext = true → heN c.give.ext = 39) := by unfold heN; split <;> simp_all
                split
                · rename_i hx; have := this.2 hx; omega
                · omega
          obtain ⟨l, hl, hp0⟩ := hplain
          have hsaid : (nxT c.tk false).2 = 0 := by
            unfold nxT
            rw [if_pos hp0]
            have := nxt_plain (b := c.tk.b) (x := false) hm
            rw [this]; rfl
          exact ⟨⟨h.ri, h.off, h.le, h.gv, fun e => (by cases e), fun _ => ⟨_, hl.more false (.inl hsaid)⟩⟩, fun e => (by cases e), fun _ => ⟨rfl, rfl⟩, fun e => (by cases e)⟩
end Go.Proofs.YtajdbimdiodalaaGreat

namespace Go.Proofs.YtajdbimdiodalaaGreat
set_option linter.unusedVariables false

theorem no_snd {c : Ct} (h : OnC c) (hp : c.ph ≠ 1) : c.sends = false := by
  cases e : c.sends with
  | false => rfl
  | true => exact absurd (h.snd e).1 hp

/-- The same phase goes on. -/
theorem sk_mk {c : Ct} (d : Ct) (h : OnC c) (hp : c.ph ≠ 1) (e1 : d.ph = c.ph) (e2 : d.has = c.has) (e3 : d.give = c.give) (e4 : d.sends = c.sends) (hr : riC d.cf = true) (ho : d.cf.o = c.cf.o) (w : Nat) (hw : w ≠ 1) (hw2 : w ≠ 2) : StOK c (d, (w, zeroFr)) :=
  ⟨⟨hr, by rw [ho, e1]; exact h.off, by rw [e1]; exact h.le, fun e => by rw [e3]; exact h.gv (by rw [← e2]; exact e), fun e => (by rw [e4, no_snd h hp] at e; cases e), fun e => absurd (e1.symm.trans e) hp⟩, fun e => absurd e hw, fun _ => ⟨e2, e3⟩, fun e => absurd e hw2⟩

theorem ev_on' {c : Cf} (hr : riC c = true) {k : Nat} (hm : ¬ moC (evC c k) = 2) : (evC c k).o = false := by
  cases e : (evC c k).o with
  | false => rfl
  | true => exact absurd ((mo_of_right (ri_ev hr k)).2 e) hm

theorem sk_idle {c : Ct} (h : OnC c) (hp : c.ph = 0) (x : Bool) : StOK c (idleC c x) := by
  have hon := on_off h (by omega)
  unfold idleC
  split
  · split
    · exact sk_flag { c with sender := true } h.ri hon h.gv rfl rfl 4 _ false (by omega) (by omega)
    · exact sk_mk c h (by omega) rfl rfl rfl rfl h.ri rfl 0 (by omega) (by omega)
  · exact sk_beg h hon c.has (fun e => e)

theorem sk_six {c : Ct} (h : OnC c) (hp : c.ph = 2 ∨ c.ph = 4) (x : Bool) : StOK c (sixC c x) := by
  have hon := on_off h (by omega)
  unfold sixC
  obtain ⟨k, hk⟩ : ∃ k, k = if c.sender = true then 6 else 3 := ⟨_, rfl⟩
  rw [← hk]
  have hr := ri_ev h.ri k
  split
  · rename_i hx
    exact sk_off { c with cf := evC c.cf k } hr ((mo_of_right hr).1 hx.2) h.gv rfl rfl
  · rename_i hx
    cases x with
    | true =>
      have ho := ev_on' h.ri (k := k) (fun e => hx ⟨rfl, e⟩)
      dsimp only
      simp only [if_true]
      split
      · exact sk_new { c with cf := evC c.cf k } hr ho h.gv rfl rfl (ph := 5) (by omega) (by omega) (by omega) 0 4 c.err (by omega) (by omega)
      · exact sk_mk { c with cf := evC c.cf k, n := c.n + 1 } h (by omega) rfl rfl rfl rfl hr (by rw [hon]; exact ho) 4 (by omega) (by omega)
    | false =>
      dsimp only
      simp only [Bool.false_eq_true, if_false]
      split
      · exact sk_new c h.ri hon h.gv rfl rfl (ph := 5) (by omega) (by omega) (by omega) 0 0 c.err (by omega) (by omega)
      · exact sk_mk { c with n := c.n + 1 } h (by omega) rfl rfl rfl rfl h.ri rfl 0 (by omega) (by omega)

theorem sk_weak {c : Ct} (h : OnC c) (hp : c.ph = 3) (x : Bool) : StOK c (weakC c x) := by
  have hon := on_off h (by omega)
  have hr := ri_ev h.ri 5
  unfold weakC
  split
  · rename_i hx
    exact sk_off { c with owed := false, cf := evC c.cf 5 } hr ((mo_of_right hr).1 hx.2.2) h.gv rfl rfl
  · rename_i hx
    dsimp only
    obtain ⟨m, hm⟩ : ∃ m, m = if 0 < c.n ∧ c.rl = x then c.n + 1 else 1 := ⟨_, rfl⟩
    rw [← hm]
    cases ho : (c.owed && !x)
    · simp only [Bool.false_eq_true, if_false]
      split
      · exact sk_new c h.ri hon h.gv rfl rfl (ph := 5) (by omega) (by omega) (by omega) 0 0 c.err (by omega) (by omega)
      · exact sk_mk { c with n := m, rl := x } h (by omega) rfl rfl rfl rfl h.ri rfl 0 (by omega) (by omega)
    · simp only [Bool.and_eq_true, Bool.not_eq_true'] at ho
      have hof := ev_on' h.ri (k := 5) (fun e => hx ⟨ho.1, ho.2, e⟩)
      simp only [if_true]
      split
      · exact sk_new { c with owed := false, cf := evC c.cf 5 } hr hof h.gv rfl rfl (ph := 5) (by omega) (by omega) (by omega) 0 0 c.err (by omega) (by omega)
      · exact sk_mk { c with owed := false, cf := evC c.cf 5, n := m, rl := x } h (by omega) rfl rfl rfl rfl hr (by rw [hon]; exact hof) 0 (by omega) (by omega)

theorem sk_wait {c : Ct} (h : OnC c) (hp : c.ph = 5) (x : Bool) : StOK c (waitC c x) := by
  have hon := on_off h (by omega)
  unfold waitC
  split
  · exact sk_new c h.ri hon h.gv rfl rfl (ph := 6) (by omega) (by omega) (by omega) 1 0 c.err (by omega) (by omega)
  · have hr := ri_ev h.ri (waitE c)
    by_cases h0 : waitE c = 0
    · rw [if_neg (fun e => e.2 h0)]
      have : cntC c (waitE c) = c := by unfold cntC; rw [if_pos h0]
      rw [this]
      exact sk_mk { c with n := c.n + 1 } h (by omega) rfl rfl rfl rfl h.ri rfl 0 (by omega) (by omega)
    · have hc : cntC c (waitE c) = { c with cf := evC c.cf (waitE c) } := by unfold cntC; rw [if_neg h0]
      rw [hc]
      split
      · rename_i hx
        exact sk_off { c with cf := evC c.cf (waitE c) } hr ((mo_of_right hr).1 hx.1) h.gv rfl rfl
      · rename_i hx
        have hof := ev_on' h.ri (k := waitE c) (fun e => hx ⟨e, h0⟩)
        exact sk_mk { c with cf := evC c.cf (waitE c), n := c.n + 1 } h (by omega) rfl rfl rfl rfl hr (by rw [hon]; exact hof) 0 (by omega) (by omega)

theorem sk_delim {c : Ct} (h : OnC c) (hp : c.ph = 6) (x : Bool) : StOK c (delimC c x) := by
  have hon := on_off h (by omega)
  unfold delimC
  split
  · split
    · exact sk_new c h.ri hon h.gv rfl rfl (ph := 7) (by omega) (by omega) (by omega) 0 0 c.err (by omega) (by omega)
    · exact sk_mk { c with n := c.n + 1 } h (by omega) rfl rfl rfl rfl h.ri rfl 0 (by omega) (by omega)
  · split
    · exact sk_flag c h.ri hon h.gv rfl rfl 6 _ false (by omega) (by omega)
    · exact sk_new c h.ri hon h.gv rfl rfl (ph := 4) (by omega) (by omega) (by omega) 0 9 false (by omega) (by omega)

theorem sk_inter {c : Ct} (h : OnC c) (hp : c.ph = 7) (x : Bool) : StOK c (interC c x) := by
  have hon := on_off h (by omega)
  unfold interC
  split
  · split
    · cases holdC c
      · exact sk_new c h.ri hon h.gv rfl rfl (ph := 0) (by omega) (by omega) (by omega) 0 0 c.err (by omega) (by omega)
      · exact sk_new c h.ri hon h.gv rfl rfl (ph := 8) (by omega) (by omega) (by omega) 0 0 c.err (by omega) (by omega)
    · exact sk_mk { c with n := c.n + 1 } h (by omega) rfl rfl rfl rfl h.ri rfl 0 (by omega) (by omega)
  · split
    · exact sk_new c h.ri hon h.gv rfl rfl (ph := 4) (by omega) (by omega) (by omega) 0 9 false (by omega) (by omega)
    · exact sk_beg h hon _ (fun e => by simp only [Bool.and_eq_true] at e; exact e.1)

theorem sk_hold {c : Ct} (h : OnC c) (hp : c.ph = 8) (x : Bool) : StOK c (hold8C c x) := by
  have hon := on_off h (by omega)
  unfold hold8C
  split
  · split
    · exact sk_new c h.ri hon h.gv rfl rfl (ph := 0) (by omega) (by omega) (by omega) 0 0 c.err (by omega) (by omega)
    · exact sk_mk { c with n := c.n + 1 } h (by omega) rfl rfl rfl rfl h.ri rfl 0 (by omega) (by omega)
  · exact sk_beg h hon false (fun e => by cases e)

theorem sk_offs {c : Ct} (h : OnC c) (hp : c.ph = 9) (x : Bool) : StOK c (offsC c x) := by
  have ho := h.off.2 hp
  have hr := ri_bit h.ri x
  unfold offsC
  split
  · rename_i hm
    exact sk_mk { c with cf := biC c.cf x } h (by omega) rfl rfl rfl rfl hr (by rw [ho]; exact (mo_of_right hr).1 hm) 0 (by omega) (by omega)
  · rename_i hm
    have hof : (biC c.cf x).o = false := by
      cases e : (biC c.cf x).o with
      | false => rfl
      | true => exact absurd ((mo_of_right hr).2 e) hm
    exact sk_new { c with cf := biC c.cf x } hr hof h.gv rfl rfl (ph := 0) (by omega) (by omega) (by omega) 0 11 c.err (by omega) (by omega)

/-- Whatever bit comes. -/
theorem on_step {c : Ct} (h : OnC c) (x : Bool) : StOK c (stC c x) := by
  have hle := h.le
  unfold stC
  split
  · rename_i hp; exact sk_idle h hp x
  · split
    · rename_i hp
      split
      · rename_i hs; exact sk_snd h hs x
      · rename_i hs; exact sk_rcv h hp (by simpa using hs) x
    · split
      · rename_i hp; exact sk_six h hp x
      · split
        · rename_i hp; exact sk_weak h hp x
        · split
          · rename_i hp; exact sk_wait h hp x
          · split
            · rename_i hp; exact sk_delim h hp x
            · split
              · rename_i hp; exact sk_inter h hp x
              · split
                · rename_i hp; exact sk_hold h hp x
                · exact sk_offs h (by omega) x

/-- A frame that is given, and one that is taken back. -/
theorem on_give {c : Ct} (h : OnC c) {F : Fr} (hg : Good F) (hn : c.has = false) : OnC { c with has := true, give := F } :=
  ⟨h.ri, h.off, h.le, fun _ => hg, fun e => (by have := (h.snd e).2.1; rw [hn] at this; cases this), h.rd⟩

theorem on_drop {c : Ct} (h : OnC c) (hs : c.sends = false) : OnC { c with has := false, give := zeroFr } :=
  ⟨h.ri, h.off, h.le, fun e => (by cases e), fun e => (by have : c.sends = true := e; rw [hs] at this; cases this), h.rd⟩
end Go.Proofs.YtajdbimdiodalaaGreat

namespace Go.Proofs.YtajdbimdiodalaaGreat
open Go.RowKit Go.Sort
set_option linter.unusedVariables false
set_option linter.unusedSectionVars false

/-- Between frames, behind so many recessive bits. -/
def btC (A : Ct) (j : Nat) : Ct := if j < 3 then phC A 7 j false else phC A 0 0 false
end Go.Proofs.YtajdbimdiodalaaGreat

namespace Go.Proofs.YtajdbimdiodalaaGreat
set_option linter.unusedVariables false
set_option linter.unusedSectionVars false

theorem put_less {p : List Bool} (h : 1 ≤ p.length) : 4 * (putL p).length + 1 ≤ 5 * p.length := by
  cases p with
  | nil => simp at h
  | cons x t =>
    have e : putL (x :: t) = x :: putF x 1 t := by unfold putL; rw [putF]; cases x <;> rfl
    have := (putF_len t x 1 (by omega)).2
    rw [e]; simp only [List.length_cons]; omega

theorem bt_drive {A : Ct} {j : Nat} (hj : j < 3) : dvC (btC A j) = true := by
  unfold btC; rw [if_pos hj]; rfl
/-- Two frames of which the first one goes on. -/
structure Pair (F G : Fr) (P Q d : Nat) : Prop where
  f : Good F
  g : Good G
  hP : P = (putL (boL F)).length
  hQ : Q = (putL (boL G)).length
  sp : ∃ p r1 r2, boL F = p ++ false :: r1 ∧ boL G = p ++ true :: r2 ∧ 1 ≤ p.length ∧ (p.length ≤ if G.ext then 32 else 12) ∧ d = (putL p).length

theorem Pair.mk' {F G : Fr} (hf : Good F) (hg : Good G) (h : bfL (conL F.id F.ext F.rem) (conL G.id G.ext G.rem) = true) : ∃ d, Pair F G (putL (boL F)).length (putL (boL G)).length d := by
  obtain ⟨p, r1, r2, e1, e2, e3, e4⟩ := contest_split h
  exact ⟨_, hf, hg, rfl, rfl, p, r1, r2, e1, e2, e3, e4, rfl⟩

section
variable {F G : Fr} {P Q d : Nat} (h : Pair F G P Q d)
include h

theorem Pair.bd : 1 ≤ d ∧ d < 40 ∧ d < P ∧ d < Q ∧ 34 ≤ P ∧ 34 ≤ Q ∧ P ≤ 150 ∧ Q ≤ 150 := by
  obtain ⟨hf, hg, rfl, rfl, p, r1, r2, e1, e2, e3, e4, rfl⟩ := h
  have k1 := put_less e3
  have k2 := (putL_len p).1
  have e5 : p.length ≤ 32 := by split at e4 <;> omega
  exact ⟨by omega, by omega, (wi_split e1).1, (wi_split e2).1, P_pos F, P_pos G, P_top hf, P_top hg⟩

end
end Go.Proofs.YtajdbimdiodalaaGreat

namespace Go.Proofs.YtajdbimdiodalaaGreat
set_option linter.unusedVariables false

/-- Counters of one that is active, and stays so by what goes well. -/
structure CfA (cf : Cf) : Prop where
  m : moC cf = 0
  m8 : moC (evC cf 8) = 0
  m9 : moC (evC cf 9) = 0

theorem CfA.i89 {cf : Cf} (h : CfA cf) (w : Bool) : moC (if w then evC cf 8 else evC cf 9) = 0 := by cases w <;> simp [h.m8, h.m9]
theorem cfA_zero : CfA zeC := ⟨by decide, by decide, by decide⟩

/-- Idle, with a frame or none. -/
def Idl (cf : Cf) (g : Option Fr) (c : Ct) : Prop := ∃ A : Ct, c = phC A 0 0 false ∧ A.cf = cf ∧ A.has = g.isSome ∧ A.give = g.getD zeroFr

theorem bt_step3 {A : Ct} (h : moC A.cf = 0) {j : Nat} (hj : j < 3) : stC (btC A j) true = (btC A (j + 1), noH) := by
  have hh : holdC A = false := by unfold holdC; rw [h]; simp
  match j, hj with
  | 0, _ => rfl
  | 1, _ => rfl
  | 2, _ =>
    show (phC A (if holdC A = true then 8 else 0) 0 false, noH) = _
    rw [hh]; rfl
/-- The bit on the bus, behind i bits of B's frame. -/
def xB (B : Fr) (i : Nat) : Bool := if i < (putL (boL B)).length + 10 then (ackL B)[i]?.getD false else true

/-- A node behind i bits of B's frame: w: it is the one whose frame that is; g: what it had to send. -/
def RoN (B : Fr) (cf : Cf) (i : Nat) (g : Option Fr) (w : Bool) (c : Ct) : Prop :=
  (i = 0 ∧ Idl cf g c) ∨
  (1 ≤ i ∧ i < (putL (boL B)).length + 10 ∧ ∃ s, Rd (ackL B) (putL (boL B)).length i s ∧
    ((w = true ∧ c = sndAt B cf s i) ∨ (w = false ∧ c = rcvH g.isSome (g.getD zeroFr) (if i ≤ (putL (boL B)).length + 8 then cf else evC cf 9) s) ∨
     (w = false ∧ ∃ G d, g = some G ∧ Pair B G (putL (boL B)).length (putL (boL G)).length d ∧ i ≤ d ∧ c = sndAt G cf s i ∧ Rd (ackL G) (putL (boL G)).length i s))) ∨
  ((putL (boL B)).length + 10 ≤ i ∧ i ≤ (putL (boL B)).length + 13 ∧ ∃ A : Ct, c = btC A (i - ((putL (boL B)).length + 10)) ∧ A.cf = (if w then evC cf 8 else evC cf 9) ∧ A.has = (!w && g.isSome) ∧ A.give = if w then zeroFr else g.getD zeroFr)

/-- What a node may have to send beside B. -/
structure NodeOK (B : Fr) (g : Option Fr) (w : Bool) : Prop where
  win : w = true → g = some B
  los : w = false → ∀ G, g = some G → Good G ∧ ∃ d, Pair B G (putL (boL B)).length (putL (boL G)).length d

/-- One bit: where each node stands behind it, what happens at it, what it drives. -/
theorem ro_step {B : Fr} (hB : Good B) {cf : Cf} (hf : CfA cf) {g : Option Fr} {w : Bool} (ho : NodeOK B g w) {i : Nat} (hi : i < (putL (boL B)).length + 13) {c : Ct} (h : RoN B cf i g w c) :
    RoN B cf (i + 1) g w (stC c (xB B i)).1 ∧
    ((stC c (xB B i)).2 = (if w then (if i = (putL (boL B)).length + 9 then (1, B) else noH) else (if i = (putL (boL B)).length + 8 then (2, B) else noH)) ∨ (w = false ∧ i < (putL (boL B)).length ∧ (stC c (xB B i)).2 = (3, zeroFr))) ∧
    (i < (putL (boL B)).length + 10 → if w then dvC c = ((wiL B)[i]?.getD false) else xB B i = (((wiL B)[i]?.getD false) && dvC c)) ∧
    ((putL (boL B)).length + 10 ≤ i → dvC c = true) := by
  have hP := P_pos B
  rcases h with ⟨rfl, A, rfl, a1, a2, a3⟩ | ⟨h1, h2, s, hr, hc⟩ | ⟨h1, h2, A, rfl, a1, a2, a3⟩
  · have hx : xB B 0 = false := by unfold xB; rw [if_pos (by omega), ack_first]; rfl
    have hw0 : (wiL B)[0]?.getD false = false := by rw [wi_first]; rfl
    have hst : stC (phC A 0 0 false) false = (begC (phC A 0 0 false) A.has, noH) := rfl
    rw [hx, hw0, hst]
    refine ⟨.inr (.inl ⟨by omega, by omega, (nxT s0 false).1, rd_one hB, ?_⟩), .inl ?_, fun _ => ?_, fun k => absurd k (by omega)⟩
    · cases w with
      | true =>
        refine .inl ⟨rfl, ?_⟩
        have hg := ho.win rfl
        subst hg
        show (⟨1, 0, A.cf, A.has, A.give, A.has, A.has, if A.has then wiL A.give else [], if A.has then 1 else 0, (nxT s0 false).1, false, 0, false, false⟩ : Ct) = _
        rw [a1, a2, a3]; rfl
      | false =>
        cases hg : g with
        | none =>
          subst hg
          refine .inr (.inl ⟨rfl, ?_⟩)
          rw [if_pos (show 0 + 1 ≤ _ by omega)]
          show (⟨1, 0, A.cf, A.has, A.give, A.has, A.has, if A.has then wiL A.give else [], if A.has then 1 else 0, (nxT s0 false).1, false, 0, false, false⟩ : Ct) = _
          rw [a1, a2, a3]; rfl
        | some G =>
          obtain ⟨_, d, hp⟩ := ho.los rfl G hg
          subst hg
          have hb := hp.bd
          refine .inr (.inr ⟨rfl, G, d, rfl, hp, by omega, ?_, rd_one hp.g⟩)
          show (⟨1, 0, A.cf, A.has, A.give, A.has, A.has, if A.has then wiL A.give else [], if A.has then 1 else 0, (nxT s0 false).1, false, 0, false, false⟩ : Ct) = _
          rw [a1, a2, a3]; rfl
    · cases w with
      | true => rw [if_pos rfl, if_neg (by omega)]
      | false => rw [if_neg Bool.false_ne_true, if_neg (by omega)]
    · cases w with
      | true =>
        rw [if_pos rfl]
        have hg := ho.win rfl
        subst hg
        show (!A.has) = false
        rw [a2]; rfl
      | false => rw [if_neg Bool.false_ne_true]; rfl
  · obtain ⟨x, hx⟩ : ∃ x, (ackL B)[i]? = some x := ⟨(ackL B)[i]'(by unfold ackL; rw [List.length_set, wiL_length]; omega), by simp⟩
    have hxb : xB B i = x := by unfold xB; rw [if_pos h2, hx]; rfl
    rw [hxb]
    obtain ⟨_, _, d3', _, _, hr'⟩ := sends_step hB h1 h2 hr hx cf false zeroFr
    rcases hc with ⟨rfl, rfl⟩ | ⟨rfl, rfl⟩ | ⟨rfl, G, d, rfl, hp, hd, rfl, hr2⟩
    · obtain ⟨d1, _, d3, d4, _, _⟩ := sends_step hB h1 h2 hr hx cf false zeroFr
      rw [d4]
      refine ⟨?_, .inl ?_, fun _ => by rw [if_pos rfl]; exact d1, fun k => absurd k (by omega)⟩
      · by_cases h9 : i + 1 < (putL (boL B)).length + 10
        · rw [if_pos h9]
          exact .inr (.inl ⟨by omega, h9, _, hr', .inl ⟨rfl, rfl⟩⟩)
        · rw [if_neg h9]
          refine .inr (.inr ⟨by omega, by omega, { sndAt B (evC cf 8) s i with has := false, give := zeroFr }, ?_, by rw [if_pos rfl]; rfl, rfl, rfl⟩)
          rw [show i + 1 - ((putL (boL B)).length + 10) = 0 by omega]; rfl
      · rw [if_pos rfl]
        by_cases h9 : i + 1 < (putL (boL B)).length + 10
        · rw [if_pos h9, if_neg (by omega)]
        · rw [if_neg h9, if_pos (by omega)]
    · obtain ⟨cf', hcf'⟩ : ∃ cf', cf' = (if i ≤ (putL (boL B)).length + 8 then cf else evC cf 9) := ⟨_, rfl⟩
      rw [← hcf']
      obtain ⟨_, d2, d3, _, d5, _⟩ := sends_step hB h1 h2 hr hx cf' g.isSome (g.getD zeroFr)
      rw [d5]
      have hdr : i < (putL (boL B)).length + 10 → if false = true then dvC (rcvH g.isSome (g.getD zeroFr) cf' s) = ((wiL B)[i]?.getD false) else x = (((wiL B)[i]?.getD false) && dvC (rcvH g.isSome (g.getD zeroFr) cf' s)) := fun _ => by
        rw [if_neg Bool.false_ne_true, d2]; exact d3
      by_cases h8 : i = (putL (boL B)).length + 8
      · rw [if_pos (show i ≤ _ by omega)] at hcf'
        rw [if_pos h8, hcf']
        refine ⟨.inr (.inl ⟨by omega, by omega, _, hr', .inr (.inl ⟨rfl, ?_⟩)⟩), .inl ?_, by rw [← hcf']; exact hdr, fun k => absurd k (by omega)⟩
        · rw [if_neg (show ¬ i + 1 ≤ _ by omega)]
        · rw [if_neg Bool.false_ne_true, if_pos h8]
      · rw [if_neg h8]
        by_cases h9 : i = (putL (boL B)).length + 9
        · rw [if_neg (show ¬ i ≤ _ by omega)] at hcf'
          rw [if_pos h9, hcf']
          refine ⟨.inr (.inr ⟨by omega, by omega, rcvH g.isSome (g.getD zeroFr) (evC cf 9) s, ?_, by rw [if_neg Bool.false_ne_true]; rfl, by show g.isSome = (!false && g.isSome); simp, by rw [if_neg Bool.false_ne_true]; rfl⟩), .inl ?_, by rw [← hcf']; exact hdr, fun k => absurd k (by omega)⟩
          · rw [show i + 1 - ((putL (boL B)).length + 10) = 0 by omega]; rfl
          · rw [if_neg Bool.false_ne_true, if_neg h8]
        · rw [if_pos (show i ≤ _ by omega)] at hcf'
          rw [if_neg h9, hcf']
          refine ⟨.inr (.inl ⟨by omega, by omega, _, hr', .inr (.inl ⟨rfl, ?_⟩)⟩), .inl ?_, by rw [← hcf']; exact hdr, fun k => absurd k (by omega)⟩
          · rw [if_pos (show i + 1 ≤ _ by omega)]
          · rw [if_neg Bool.false_ne_true, if_neg h8]
    · have hb := hp.bd
      have hgG := hp.g
      obtain ⟨_, _, _, _, p, r1, r2, e1, e2, e3, e4, hdd⟩ := hp
      obtain ⟨aF1, aF2⟩ := ack_split e1
      obtain ⟨aG1, aG2⟩ := ack_split e2
      rw [← hdd] at aF1 aF2 aG1 aG2
      by_cases hid : i = d
      · subst hid
        have hx0 : x = false := by rw [aF2] at hx; cases hx; rfl
        subst hx0
        obtain ⟨w1, _, w3⟩ := wi_split e1
        obtain ⟨v1, _, v3⟩ := wi_split e2
        rw [← hdd] at w1 w3 v1 v3
        have hl : stC (sndAt G cf s i) false = (rcvH true G cf (nxT s false).1, (3, zeroFr)) := by
          have := lost_step hgG e2 (s := s) (by rw [← hdd]; exact hr2) e3 e4 cf
          rw [← hdd] at this; exact this
        rw [hl]
        refine ⟨.inr (.inl ⟨by omega, by omega, _, hr', .inr (.inl ⟨rfl, by rw [if_pos (show i + 1 ≤ _ by omega)]; rfl⟩)⟩), .inr ⟨rfl, by omega, rfl⟩, fun _ => ?_, fun k => absurd k (by omega)⟩
        rw [if_neg Bool.false_ne_true, w3]; rfl
      · have hid' : i < d := by omega
        have hxp : (putL p)[i]? = some x := by
          rw [← aF1, List.getElem?_take, if_pos hid'] ; exact hx
        have xG : (ackL G)[i]? = some x := by
          have : ((ackL G).take d)[i]? = some x := by rw [aG1]; exact hxp
          rw [List.getElem?_take, if_pos hid'] at this; exact this
        obtain ⟨f1, _, f3, f4, _, f6⟩ := sends_step hgG h1 (by omega) hr2 xG cf false zeroFr
        rw [f4, if_pos (by omega)]
        rw [decide_eq_false (by omega)] at f3 d3'
        simp only [Bool.not_false, Bool.and_true] at f3 d3'
        refine ⟨.inr (.inl ⟨by omega, by omega, _, hr', .inr (.inr ⟨rfl, G, d, rfl, ⟨hB, hgG, rfl, rfl, p, r1, r2, e1, e2, e3, e4, hdd⟩, by omega, rfl, f6⟩)⟩), .inl ?_, fun _ => ?_, fun k => absurd k (by omega)⟩
        · rw [if_neg Bool.false_ne_true, if_neg (by omega)]
        · rw [if_neg Bool.false_ne_true, f1, ← f3, ← d3']; simp
  · have hj : i - ((putL (boL B)).length + 10) < 3 := by omega
    have hx : xB B i = true := by unfold xB; rw [if_neg (by omega)]
    rw [hx, bt_step3 (by rw [a1]; exact hf.i89 w) hj]
    refine ⟨.inr (.inr ⟨by omega, by omega, A, ?_, a1, a2, a3⟩), .inl ?_, fun k => absurd k (by omega), fun _ => bt_drive hj⟩
    · rw [show i + 1 - ((putL (boL B)).length + 10) = i - ((putL (boL B)).length + 10) + 1 by omega]
    · cases w with
      | true => rw [if_pos rfl, if_neg (by omega)]
      | false => rw [if_neg Bool.false_ne_true, if_neg (by omega)]

/-- The bus of several of which one sends B: just the bit that all stand for. -/
theorem ro_bus {B : Fr} (hB : Good B) {cf : Nat → Cf} (hf : ∀ j, CfA (cf j)) {l : List Ct} {gs : List (Option Fr)} {jw : Nat} (hl : l.length = gs.length) (hw : jw < l.length) (h2 : 2 ≤ l.length) {i : Nat} (hi : i < (putL (boL B)).length + 13)
    (ho : ∀ j (hj : j < gs.length), NodeOK B gs[j] (decide (j = jw))) (h : ∀ j (hj : j < l.length), RoN B (cf j) i (gs[j]'(hl ▸ hj)) (decide (j = jw)) l[j]) : l.all dvC = xB B i := by
  have key : ∀ j (hj : j < l.length), _ := fun j hj => (ro_step hB (hf j) (ho j (hl ▸ hj)) hi (h j hj)).2.2
  by_cases hlo : i < (putL (boL B)).length + 10
  · have hwin := (key jw hw).1 hlo
    rw [decide_eq_true rfl, if_pos rfl] at hwin
    have hoth : ∀ j (hj : j < l.length), j ≠ jw → xB B i = (((wiL B)[i]?.getD false) && dvC l[j]) := fun j hj hn => by
      have := (key j hj).1 hlo
      rw [decide_eq_false hn, if_neg Bool.false_ne_true] at this
      exact this
    obtain ⟨j1, hj1, hn1⟩ : ∃ j, j < l.length ∧ j ≠ jw := by
      by_cases h0 : jw = 0
      · exact ⟨1, by omega, by omega⟩
      · exact ⟨0, by omega, by omega⟩
    cases hb : (wiL B)[i]?.getD false with
    | false =>
      have hx := hoth j1 hj1 hn1
      rw [hb] at hx hwin
      rw [hx, Bool.false_and]
      rw [List.all_eq_false]
      exact ⟨l[jw], List.getElem_mem hw, by rw [hwin]; simp⟩
    | true =>
      rw [hb] at hwin
      cases hx : xB B i with
      | true =>
        rw [List.all_eq_true]
        intro c hc
        obtain ⟨j, hj, rfl⟩ := List.getElem_of_mem hc
        by_cases hn : j = jw
        · subst hn; exact hwin
        · have := hoth j hj hn
          rw [hx, hb, Bool.true_and] at this
          exact this.symm
      | false =>
        rw [List.all_eq_false]
        have := hoth j1 hj1 hn1
        rw [hx, hb, Bool.true_and] at this
        exact ⟨l[j1], List.getElem_mem hj1, by rw [← this]; simp⟩
  · have hx : xB B i = true := by unfold xB; rw [if_neg hlo]
    rw [hx, List.all_eq_true]
    intro c hc
    obtain ⟨j, hj, rfl⟩ := List.getElem_of_mem hc
    exact (key j hj).2 (by omega)
end Go.Proofs.YtajdbimdiodalaaGreat

namespace Go.Proofs.YtajdbimdiodalaaGreat
set_option linter.unusedVariables false

end Go.Proofs.YtajdbimdiodalaaGreat

namespace Go.Proofs.YtajdbimdiodalaaGreat
set_option linter.unusedVariables false
set_option linter.unusedSectionVars false

/-- What stands in a controller beside what OnC says, behind m bits. -/
structure SmC (m : Nat) (c : Ct) : Prop where
  n : c.n ≤ m
  six : c.ph = 6 → c.n < 8
  gz : c.has = false → c.give = zeroFr
  wl : c.wire.length ≤ 200
  tz : c.ph ≠ 1 → c.tk.l = []
  tl : c.tk.l.length ≤ 1000

theorem mo_le (c : Cf) : moC c ≤ 2 := by
  unfold moC
  split
  · exact Nat.le_refl _
  · split <;> omega

theorem sm_start : SmC 0 c0 := ⟨Nat.le_refl _, fun e => (by cases e), fun _ => rfl, by simp [c0], fun _ => rfl, by simp [c0, s0]⟩

theorem SmC.mono {m m' : Nat} {c : Ct} (h : SmC m c) (hm : m ≤ m') : SmC m' c := ⟨by have := h.n; omega, h.six, h.gz, h.wl, h.tz, h.tl⟩

/-- A phase that begins. -/
theorem sm_new {m : Nat} {c : Ct} (hg : c.has = false → c.give = zeroFr) {ph n : Nat} (hn : n ≤ 1) (hm : 1 ≤ m) (h1 : ph ≠ 1) (e o rl b : Bool) : SmC m { newC c ph with n := n, err := e, owed := o, rl := rl, sender := b } :=
  ⟨by show n ≤ m; omega, fun _ => by show n < 8; omega, hg, by show ([] : List Bool).length ≤ 200; simp, fun _ => rfl, by show ([] : List Bool).length ≤ 1000; simp⟩

section
variable {m : Nat} {c : Ct} (h : OnC c) (k : SmC m c)
include h k

theorem sm_flag {c1 : Ct} (e1 : c1.has = c.has) (e2 : c1.give = c.give) (w q : Nat) (o : Bool) : SmC (m + 1) (flagC c1 w q o).1 := by
  have g1 : (cntC c1 q).has = false → (cntC c1 q).give = zeroFr := by
    have a1 : (cntC c1 q).has = c.has := by unfold cntC; split <;> exact e1
    have a2 : (cntC c1 q).give = c.give := by unfold cntC; split <;> exact e2
    rw [a1, a2]; exact k.gz
  unfold flagC
  split
  · exact sm_new (c := cntC c1 q) g1 (ph := 9) (n := 0) (by omega) (by omega) (by omega) (cntC c1 q).err false false false
  · split
    · exact sm_new (c := cntC c1 q) g1 (ph := 3) (n := 0) (by omega) (by omega) (by omega) true o false (cntC c1 q).sender
    · exact sm_new (c := cntC c1 q) g1 (ph := 2) (n := 0) (by omega) (by omega) (by omega) true o false (cntC c1 q).sender

theorem sm_fresh {c1 : Ct} (e1 : c1.has = c.has) (e2 : c1.give = c.give) {ph n : Nat} (h1 : ph ≠ 1) (hn : n ≤ 1) (e b : Bool) : SmC (m + 1) { newC c1 ph with n := n, err := e, sender := b } :=
  sm_new (c := c1) (by rw [e1, e2]; exact k.gz) hn (by omega) h1 e false false b

theorem sm_off {c1 : Ct} (e1 : c1.has = c.has) (e2 : c1.give = c.give) : SmC (m + 1) (offC c1).1 := sm_fresh h k e1 e2 (ph := 9) (n := 0) (by omega) (by omega) c1.err false
theorem sm_plain {c1 : Ct} (e1 : c1.has = c.has) (e2 : c1.give = c.give) {ph : Nat} (h1 : ph ≠ 1) : SmC (m + 1) (newC c1 ph) := sm_fresh h k e1 e2 (ph := ph) (n := 0) h1 (by omega) c1.err c1.sender

theorem sm_beg (s : Bool) (hs : s = true → c.has = true) : SmC (m + 1) (begC c s) := by
  refine ⟨by show 0 ≤ _; omega, fun e => (by cases e), k.gz, ?_, fun e => absurd rfl e, by show (nxT s0 false).1.l.length ≤ 1000; decide⟩
  show (if s = true then wiL c.give else []).length ≤ 200
  cases s with
  | false => simp
  | true =>
    rw [if_pos rfl, wiL_length]
    have := P_top (h.gv (hs rfl))
    omega

/-- Whatever bit comes. -/
theorem sm_step (x : Bool) : SmC (m + 1) (stC c x).1 := by
  have hon := (on_step h x).on
  have htl : (stC c x).1.ph = 1 → (stC c x).1.tk.l.length ≤ 1000 := fun e => by
    obtain ⟨l, hl⟩ := hon.rd e
    have := hl.short; omega
  have keep : ∀ (c1 : Ct), c1.ph = c.ph → c1.n ≤ c.n + 1 → (c.ph = 6 → c1.n < 8) → c1.has = c.has → c1.give = c.give → c1.wire = c.wire → c1.tk = c.tk → SmC (m + 1) c1 := fun c1 a1 a2 a3 a4 a5 a6 a7 =>
    ⟨by have := k.n; omega, fun e => a3 (by rw [← a1]; exact e), by rw [a4, a5]; exact k.gz, by rw [a6]; exact k.wl, by rw [a1, a7]; exact k.tz, by rw [a7]; exact k.tl⟩
  revert htl
  unfold stC
  split
  · intro _
    unfold idleC
    split
    · split
      · exact sm_flag h k (c1 := { c with sender := true }) rfl rfl 4 5 false
      · exact k.mono (by omega)
    · exact sm_beg h k c.has (fun e => e)
  rename_i n0
  split
  · rename_i n1
    split
    · rename_i hs
      obtain ⟨_, hhas, hw, _⟩ := h.snd hs
      unfold sndC
      split
      · split
        · intro htl
          exact ⟨by have := k.n; show c.n ≤ _; omega, fun e => by have : c.ph = 6 := e; omega, k.gz, k.wl, fun e => absurd n1 e, htl n1⟩
        · intro _
          split
          · exact sm_flag h k rfl rfl 7 0 true
          · exact sm_flag h k rfl rfl 7 _ false
      · split
        · split
          · intro htl
            exact ⟨by have := k.n; show c.n ≤ _; omega, fun e => by have : c.ph = 6 := e; omega, k.gz, k.wl, fun e => absurd n1 e, htl n1⟩
          · intro _
            exact sm_new (c := { c with cf := evC c.cf 8, has := false, give := zeroFr }) (fun _ => rfl) (ph := 7) (n := 0) (by omega) (by omega) (by omega) c.err false false c.sender
        · by_cases c3 : x = true ∨ c.tk.l.length < 1 ∨ (if c.give.ext then 32 else 12) < c.tk.l.length
          · rw [if_pos c3]
            intro _; exact sm_flag h k rfl rfl 4 _ false
          · rw [if_neg c3]
            split
            · intro _; exact sm_flag h k rfl rfl 5 0 false
            · intro htl
              exact ⟨by have := k.n; show c.n ≤ _; omega, fun e => by have : c.ph = 6 := e; omega, k.gz, by show ([] : List Bool).length ≤ 200; simp, fun e => absurd n1 e, htl n1⟩
    · unfold rcvC
      split
      · split
        · intro _; exact sm_flag h k (c1 := { c with tk := (nxT c.tk x).1 }) rfl rfl 4 _ false
        · intro htl
          exact ⟨by have := k.n; show c.n ≤ _; omega, fun e => by have : c.ph = 6 := e; omega, k.gz, k.wl, fun e => absurd n1 e, htl n1⟩
      split
      · intro _; exact sm_flag h k (c1 := { c with tk := (nxT c.tk x).1 }) rfl rfl 5 _ false
      split
      · intro _; exact sm_flag h k (c1 := { c with tk := (nxT c.tk x).1 }) rfl rfl 6 _ false
      split
      · intro _; exact sm_flag h k (c1 := { c with tk := (nxT c.tk x).1 }) rfl rfl 8 _ false
      split
      · intro htl
        exact ⟨by have := k.n; show c.n ≤ _; omega, fun e => by have : c.ph = 6 := e; omega, k.gz, k.wl, fun e => absurd n1 e, htl n1⟩
      split
      · intro _; exact sm_fresh h k rfl rfl (ph := 4) (n := 0) (by omega) (by omega) false c.sender
      · intro _; exact sm_plain h k rfl rfl (by omega)
  rename_i n1
  intro _
  split
  · rename_i n2
    unfold sixC
    generalize (if c.sender = true then 6 else 3) = q
    split
    · exact sm_off h k rfl rfl
    · cases x with
      | true =>
        dsimp only
        rw [if_pos rfl]
        split
        · exact sm_plain h k (c1 := { c with cf := evC c.cf q }) rfl rfl (by omega)
        · exact keep _ rfl (by show c.n + 1 ≤ _; omega) (fun e => by omega) rfl rfl rfl rfl
      | false =>
        dsimp only
        rw [if_neg Bool.false_ne_true]
        split
        · exact sm_plain h k rfl rfl (by omega)
        · exact keep _ rfl (by show c.n + 1 ≤ _; omega) (fun e => by omega) rfl rfl rfl rfl
  split
  · rename_i n3
    unfold weakC
    split
    · exact sm_off h k rfl rfl
    · dsimp only
      obtain ⟨d, hd⟩ : ∃ d : Ct, d = (if (c.owed && !x) = true then { c with owed := false, cf := evC c.cf 5 } else c) := ⟨_, rfl⟩
      rw [← hd]
      have a : d.ph = c.ph ∧ d.has = c.has ∧ d.give = c.give ∧ d.wire = c.wire ∧ d.tk = c.tk := by rw [hd]; split <;> exact ⟨rfl, rfl, rfl, rfl, rfl⟩
      obtain ⟨a1, a2, a3, a4, a5⟩ := a
      have hb : (if 0 < c.n ∧ c.rl = x then c.n + 1 else 1) ≤ c.n + 1 := by split <;> omega
      generalize (if 0 < c.n ∧ c.rl = x then c.n + 1 else 1) = mm at *
      split
      · exact sm_plain h k a2 a3 (by omega)
      · exact keep _ a1 hb (fun e => by omega) a2 a3 a4 a5
  split
  · rename_i n5
    unfold waitC
    split
    · exact sm_fresh h k rfl rfl (ph := 6) (n := 1) (by omega) (by omega) c.err c.sender
    · have a : ∀ q, (cntC c q).ph = c.ph ∧ (cntC c q).has = c.has ∧ (cntC c q).give = c.give ∧ (cntC c q).wire = c.wire ∧ (cntC c q).tk = c.tk := fun q => by unfold cntC; split <;> exact ⟨rfl, rfl, rfl, rfl, rfl⟩
      obtain ⟨a1, a2, a3, a4, a5⟩ := a (waitE c)
      split
      · exact sm_off h k a2 a3
      · exact keep _ a1 (by show c.n + 1 ≤ _; omega) (fun e => by omega) a2 a3 a4 a5
  split
  · rename_i n6
    have h8 := k.six n6
    unfold delimC
    split
    · split
      · exact sm_plain h k rfl rfl (by omega)
      · exact keep _ rfl (by show c.n + 1 ≤ _; omega) (fun e => by show c.n + 1 < 8; omega) rfl rfl rfl rfl
    · split
      · exact sm_flag h k rfl rfl 6 _ false
      · exact sm_fresh h k rfl rfl (ph := 4) (n := 0) (by omega) (by omega) false c.sender
  split
  · rename_i n7
    unfold interC
    split
    · split
      · split
        · exact sm_plain h k rfl rfl (by omega)
        · exact sm_plain h k rfl rfl (by omega)
      · exact keep _ rfl (by show c.n + 1 ≤ _; omega) (fun e => by omega) rfl rfl rfl rfl
    · split
      · exact sm_fresh h k rfl rfl (ph := 4) (n := 0) (by omega) (by omega) false c.sender
      · exact sm_beg h k _ (fun e => by simp at e; exact e.1)
  split
  · rename_i n8
    unfold hold8C
    split
    · split
      · exact sm_plain h k rfl rfl (by omega)
      · exact keep _ rfl (by show c.n + 1 ≤ _; omega) (fun e => by omega) rfl rfl rfl rfl
    · exact sm_beg h k false (fun e => by cases e)
  · unfold offsC
    split
    · exact keep _ rfl (by show c.n ≤ _; omega) (fun e => k.six e) rfl rfl rfl rfl
    · exact sm_plain h k (c1 := { c with cf := biC c.cf x }) rfl rfl (by omega)

theorem sm_ok (hm : m ≤ 1000000000) : StepOK c := by
  refine ⟨by have := h.le; omega, by have := k.n; omega, fun h9 => ?_, h.gv, ?_, by have := k.wl; omega, by have := k.tl; omega, fun h1 => ?_, fun h1 hs => ?_, k.six⟩
  · have ho := on_off h h9
    have h2 : ¬ moC c.cf = 2 := fun e => by
      have := (mo_of_right h.ri).1 e
      rw [ho] at this; cases this
    have := mo_le c.cf
    omega
  · cases hh : c.has with
    | false => rw [k.gz hh]; simp [zeroFr]
    | true => have := good_len (h.gv hh); omega
  · obtain ⟨l, hl⟩ := h.rd h1
    have h118 := hl.short
    rcases hl with hI | hB
    · exact ⟨hI.ri, by omega, by have := hI.p; omega, fun e => by have := hI.p; omega⟩
    · exact ⟨hB.ri, by omega, by have := hB.p; have := hB.hi; omega, fun e => ⟨hB.ok (by omega), hB.m⟩⟩
  · obtain ⟨_, hhas, hw, p1, p2, hr⟩ := h.snd hs
    have hg := h.gv hhas
    have z := (ok_snd hg (cf := zeC) (by decide) p1 p2 hr (rd_len hg p1 p2 hr)).sn rfl rfl
    exact ⟨by rw [hw]; exact z.pos, by rw [hw]; exact z.len, by rw [hw]; exact z.ack, z.one⟩
end
end Go.Proofs.YtajdbimdiodalaaGreat

namespace Go.Proofs.YtajdbimdiodalaaGreat
set_option linter.unusedVariables false

theorem sm_give {m : Nat} {c : Ct} (k : SmC m c) (F : Fr) : SmC m { c with has := true, give := F } := ⟨k.n, k.six, fun e => (by cases e), k.wl, k.tz, k.tl⟩
theorem sm_drop {m : Nat} {c : Ct} (k : SmC m c) : SmC m { c with has := false, give := zeroFr } := ⟨k.n, k.six, fun _ => rfl, k.wl, k.tz, k.tl⟩
end Go.Proofs.YtajdbimdiodalaaGreat

namespace Go.Proofs.YtajdbimdiodalaaGreat
open Go.RowKit Go.Sort
set_option linter.unusedVariables false

/-- A frame that waits, and its number. -/
abbrev Qw := Fr × Nat
/-- A mail without its memory. -/
structure Dq where
  ws : List Qw
  wire : Nat
  ab : Bool
  puts : Nat
  room : Nat

def kyQ (p : Qw) : Nat := keyF p.1.id p.1.ext p.1.rem
def miQ : List Qw → Qw → Qw
  | x :: l, p => if kyQ x < kyQ p then miQ l x else miQ l p
  | [], p => p
def beQ (q : Dq) : Option Qw := match q.ws with | [] => none | p :: l => if q.wire = 0 then some (miQ l p) else q.ws.find? (fun x => decide (x.2 = q.wire))
def rmQ (n : Nat) (l : List Qw) : List Qw := l.eraseP (fun p => decide (p.2 = n))
/-- What is on the wire is lost. -/
def loQ (q : Dq) : Dq := if q.ab then { q with ws := rmQ q.wire q.ws, wire := 0, ab := false } else { q with wire := 0, ab := false }
/-- What is on the wire was sent. -/
def seQ (q : Dq) : Dq := if q.wire = 0 then q else { q with ws := rmQ q.wire q.ws, wire := 0, ab := false }

/-- A driver. -/
structure Dv where
  pass : Fr → Bool
  c : Ct
  q : Dq
  rx : List (Fr × Int)
  keep : Nat
  ov : Bool
  now : Int

def newD (pass : Fr → Bool) (mails keep : Nat) : Dv := ⟨pass, c0, ⟨[], 0, false, 0, mails⟩, [], keep, false, 0⟩

/-- A driver's controller gives back what it does not send. -/
def baD (d : Dv) : Dv := if d.c.has && !d.c.sends then { d with c := { d.c with has := false, give := zeroFr }, q := loQ d.q } else d
/-- The best one goes to the controller, if that has none. -/
def giD (d : Dv) : Dv := if d.c.has then d else match beQ d.q with
  | none => d
  | some p => { d with c := { d.c with has := true, give := p.1 }, q := { d.q with wire := p.2 } }
/-- It is fed. -/
def feD (d : Dv) : Dv := giD (baD d)

/-- A right frame is sent. -/
def snD (d : Dv) (F : Fr) : Dv := if d.q.room ≤ d.q.ws.length then d else feD { d with q := { d.q with ws := d.q.ws ++ [(F, d.q.puts + 1)], puts := d.q.puts + 1 } }
def waD (d : Dv) (n : Nat) : Bool := d.q.ws.any (fun p => decide (p.2 = n))
/-- A number that waits is given up. -/
def abD (d : Dv) (n : Nat) : Dv := feD (if d.q.wire = n then { d with q := { d.q with ab := true } } else { d with q := { d.q with ws := rmQ n d.q.ws } })

/-- What is told: its kind, a number, a frame. -/
abbrev No := Nat × Nat × Fr
def noN : No := (0, 0, zeroFr)
/-- What happened, told; and the mail and the fifo behind it. -/
def hpD (d : Dv) (h : Hp) : Dv × No :=
  if h.1 = 1 then ({ d with q := seQ d.q }, (1, d.q.wire, h.2))
  else if h.1 = 2 then (if d.pass h.2 then (if d.rx.length < d.keep then ({ d with rx := d.rx ++ [(h.2, d.now)] }, (2, 0, h.2)) else ({ d with ov := true }, (3, 0, h.2))) else (d, noN))
  else if h.1 = 10 then (d, (4, 0, zeroFr))
  else if h.1 = 11 then (d, (5, 0, zeroFr))
  else (d, noN)
/-- A step. -/
def stD (d : Dv) (x : Bool) : Dv × No :=
  let r := hpD { d with c := (stC d.c x).1 } (stC d.c x).2
  (feD { r.1 with now := d.now + 1 }, r.2)

/-- What drivers drive at once, and a step of all of them. -/
def buD (l : List Dv) : Bool := l.all (fun d => dvC d.c)
def alD (l : List Dv) : List (Dv × No) := l.map (fun d => stD d (buD l))
/-- The last one that is told that something was sent. -/
def tlD (l : List (Dv × No)) : No := l.foldl (fun z r => if r.2.1 = 1 then r.2 else z) noN
/-- So many steps, or till something was sent. -/
def ruD : Nat → List Dv → List Dv × No × Bool
  | 0, l => (l, noN, false)
  | n + 1, l =>
    let r := alD l
    if (tlD r).1 = 1 then (r.map Prod.fst, tlD r, true) else ruD n (r.map Prod.fst)

/-- A base frame without data. -/
def baF (id : Nat) : Fr := ⟨id, false, false, 0, []⟩
def twD : List Dv := [snD (snD (newD (fun _ => true) 4 4) (baF 5)) (baF 3), newD (fun _ => true) 4 4]
/-- The first example: 3 is sent, then 5, and the other one reads 3 first. -/
def exD1 : Bool :=
  let x := ruD 200 twD
  let y := ruD 200 x.1
  x.2.2 && decide (x.2.1.2.1 = 2) && decide (x.2.1.2.2.id = 3) && y.2.2 && decide (y.2.1.2.1 = 1) && (match y.1 with | [_, b] => (match b.rx with | r :: _ => decide (r.1.id = 3) | [] => false) | _ => false)
/-- The second one: 1 is given up while 2 is on the bus, 2 can't be. -/
def exD2 : Bool :=
  let x := ruD 20 twD
  match x.1 with
  | [a, b] => waD a 1 && waD (abD a 1) 2 && !waD (abD a 1) 1 && waD (abD (abD a 1) 2) 2 && (let z := ruD 200 [abD (abD a 1) 2, b]; z.2.2 && decide (z.2.1.2.1 = 2))
  | _ => false

set_option maxRecDepth 100000 in
theorem exD1_true : exD1 = true := by decide +kernel
set_option maxRecDepth 100000 in
theorem exD2_true : exD2 = true := by decide +kernel
end Go.Proofs.YtajdbimdiodalaaGreat

namespace Go.Proofs.YtajdbimdiodalaaGreat
open Go.RowKit Go.Sort
set_option linter.unusedVariables false
set_option linter.unusedSimpArgs false

/-- A driver, not fed yet. -/
structure DvJ (d : Dv) : Prop where
  on : OnC d.c
  hw : d.c.has = true → 1 ≤ d.q.wire ∧ (d.c.give, d.q.wire) ∈ d.q.ws
  h0 : d.c.has = false → d.q.wire = 0 ∧ d.q.ab = false
  no : ∀ p ∈ d.q.ws, 1 ≤ p.2 ∧ p.2 ≤ d.q.puts ∧ Good p.1
  up : d.q.ws.Pairwise (fun p q => p.2 < q.2)
  rm : d.q.ws.length ≤ d.q.room
  kp : d.rx.length ≤ d.keep
/-- A driver: it is fed. -/
structure DvI (d : Dv) : Prop extends DvJ d where
  fed : d.c.has = false → d.q.ws = []

/-- What a feeding leaves alone. -/
structure Kept (d d' : Dv) : Prop where
  pass : d'.pass = d.pass
  puts : d'.q.puts = d.q.puts
  room : d'.q.room = d.q.room
  rx : d'.rx = d.rx
  keep : d'.keep = d.keep
  ov : d'.ov = d.ov
  now : d'.now = d.now

theorem rmQ_sub (n : Nat) (l : List Qw) : (rmQ n l).Sublist l := List.eraseP_sublist ..
theorem rmQ_mem {n : Nat} {l : List Qw} {p : Qw} (h : p ∈ l) (hp : p.2 ≠ n) : p ∈ rmQ n l := (List.mem_eraseP_of_neg (by simpa using hp)).2 h
theorem rmQ_no {n : Nat} : ∀ {l : List Qw}, l.Pairwise (fun p q => p.2 < q.2) → ∀ p ∈ rmQ n l, p.2 ≠ n := by
  intro l
  induction l with
  | nil => intro _ p hp; cases hp
  | cons x l ih =>
    intro h p hp
    rw [List.pairwise_cons] at h
    unfold rmQ at hp ih
    by_cases hx : x.2 = n
    · rw [List.eraseP_cons_of_pos (by simpa using hx)] at hp
      have := h.1 p hp
      omega
    · rw [List.eraseP_cons_of_neg (by simpa using hx)] at hp
      rcases List.mem_cons.1 hp with rfl | hp
      · exact hx
      · exact ih h.2 p hp

theorem miQ_mem : ∀ (l : List Qw) (p : Qw), miQ l p = p ∨ miQ l p ∈ l := by
  intro l
  induction l with
  | nil => intro p; exact .inl rfl
  | cons x l ih =>
    intro p
    unfold miQ
    split
    · rcases ih x with h | h
      · right; rw [h]; simp
      · right; simp [h]
    · rcases ih p with h | h
      · exact .inl h
      · right; simp [h]
theorem beQ_mem {q : Dq} {p : Qw} (h : beQ q = some p) : p ∈ q.ws := by
  unfold beQ at h
  split at h
  · cases h
  · rename_i x l hl
    split at h
    · have h := Option.some.inj h
      subst h
      rw [hl]
      rcases miQ_mem l x with h | h
      · rw [h]; simp
      · simp [h]
    · exact List.mem_of_find?_eq_some h
theorem beQ_none {q : Dq} (hw : q.wire = 0) (h : beQ q = none) : q.ws = [] := by
  unfold beQ at h
  split at h
  · assumption
  · rw [if_pos hw] at h; cases h

section
variable {d : Dv}
/-- What waits is less, or as it was. -/
theorem DvJ.less (h : DvJ d) {q : Dq} (hs : q.ws.Sublist d.q.ws) (hp : q.puts = d.q.puts) : (∀ p ∈ q.ws, 1 ≤ p.2 ∧ p.2 ≤ q.puts ∧ Good p.1) ∧ q.ws.Pairwise (fun p q => p.2 < q.2) :=
  ⟨fun p hm => by rw [hp]; exact h.no p (hs.mem hm), h.up.sublist hs⟩

theorem loQ_ws (q : Dq) : (loQ q).ws = if q.ab then rmQ q.wire q.ws else q.ws := by unfold loQ; split <;> rfl
theorem loQ_sub (q : Dq) : (loQ q).ws.Sublist q.ws := by
  rw [loQ_ws]; split
  · exact rmQ_sub ..
  · exact List.Sublist.refl _
theorem loQ_rest (q : Dq) : (loQ q).wire = 0 ∧ (loQ q).ab = false ∧ (loQ q).puts = q.puts ∧ (loQ q).room = q.room := by unfold loQ; split <;> exact ⟨rfl, rfl, rfl, rfl⟩

theorem baD_J (h : DvJ d) : DvJ (baD d) ∧ Kept d (baD d) ∧ (baD d).q.ws.Sublist d.q.ws := by
  unfold baD
  split
  · rename_i hb
    have hs : d.c.sends = false := by
      cases e : d.c.sends with
      | false => rfl
      | true => rw [e] at hb; simp at hb
    obtain ⟨l1, l2, l3, l4⟩ := loQ_rest d.q
    obtain ⟨n1, n2⟩ := h.less (loQ_sub d.q) l3
    exact ⟨⟨on_drop h.on hs, fun e => (by cases e), fun _ => ⟨l1, l2⟩, n1, n2, Nat.le_trans (loQ_sub d.q).length_le (by rw [l4]; exact h.rm), h.kp⟩, ⟨rfl, l3, l4, rfl, rfl, rfl, rfl⟩, loQ_sub _⟩
  · exact ⟨h, ⟨rfl, rfl, rfl, rfl, rfl, rfl, rfl⟩, List.Sublist.refl _⟩

theorem giD_I (h : DvJ d) : DvI (giD d) ∧ Kept d (giD d) ∧ (giD d).q.ws = d.q.ws := by
  unfold giD
  split
  · rename_i hh
    exact ⟨⟨h, fun e => by rw [hh] at e; cases e⟩, ⟨rfl, rfl, rfl, rfl, rfl, rfl, rfl⟩, rfl⟩
  · rename_i hh
    have hf : d.c.has = false := by simpa using hh
    obtain ⟨hw0, hab⟩ := h.h0 hf
    split
    · rename_i hb
      exact ⟨⟨h, fun _ => beQ_none hw0 hb⟩, ⟨rfl, rfl, rfl, rfl, rfl, rfl, rfl⟩, rfl⟩
    · rename_i p hb
      have hm := beQ_mem hb
      obtain ⟨p1, p2, p3⟩ := h.no p hm
      exact ⟨⟨⟨on_give h.on p3 hf, fun _ => ⟨p1, hm⟩, fun e => (by cases e), h.no, h.up, h.rm, h.kp⟩, fun e => (by cases e)⟩, ⟨rfl, rfl, rfl, rfl, rfl, rfl, rfl⟩, rfl⟩

theorem Kept.trans {d1 d2 d3 : Dv} (h : Kept d1 d2) (k : Kept d2 d3) : Kept d1 d3 :=
  ⟨k.pass.trans h.pass, k.puts.trans h.puts, k.room.trans h.room, k.rx.trans h.rx, k.keep.trans h.keep, k.ov.trans h.ov, k.now.trans h.now⟩

/-- A feeding. -/
theorem feD_I (h : DvJ d) : DvI (feD d) ∧ Kept d (feD d) ∧ (feD d).q.ws.Sublist d.q.ws := by
  obtain ⟨b1, b2, b3⟩ := baD_J h
  obtain ⟨g1, g2, g3⟩ := giD_I b1
  exact ⟨g1, b2.trans g2, by unfold feD; rw [g3]; exact b3⟩

theorem newD_I (pass : Fr → Bool) (mails keep : Nat) : DvI (newD pass mails keep) :=
  ⟨⟨OnC.start, fun e => (by cases e), fun _ => ⟨rfl, rfl⟩, fun p hp => (by cases hp), List.Pairwise.nil, Nat.zero_le _, Nat.zero_le _⟩, fun _ => rfl⟩

/-- A right frame is sent: it has the next number. -/
theorem snD_I (h : DvI d) {F : Fr} (hF : Good F) (hr : d.q.ws.length < d.q.room) :
    DvI (snD d F) ∧ (snD d F).q.puts = d.q.puts + 1 ∧ (snD d F).q.room = d.q.room ∧ (snD d F).rx = d.rx ∧ (snD d F).keep = d.keep ∧ (snD d F).pass = d.pass ∧ (snD d F).q.ws.Sublist (d.q.ws ++ [(F, d.q.puts + 1)]) := by
  have e : snD d F = feD { d with q := { d.q with ws := d.q.ws ++ [(F, d.q.puts + 1)], puts := d.q.puts + 1 } } := if_neg (by omega)
  rw [e]
  have hJ : DvJ { d with q := { d.q with ws := d.q.ws ++ [(F, d.q.puts + 1)], puts := d.q.puts + 1 } } := by
    refine ⟨h.on, fun hh => ?_, h.h0, fun p hp => ?_, ?_, ?_, h.kp⟩
    · obtain ⟨a, b⟩ := h.hw hh
      exact ⟨a, List.mem_append_left _ b⟩
    · rcases List.mem_append.1 hp with hp | hp
      · obtain ⟨a, b, c⟩ := h.no p hp
        exact ⟨a, by show p.2 ≤ d.q.puts + 1; omega, c⟩
      · rw [List.mem_singleton] at hp; subst hp
        exact ⟨by show 1 ≤ d.q.puts + 1; omega, Nat.le_refl _, hF⟩
    · show (d.q.ws ++ [(F, d.q.puts + 1)]).Pairwise _
      rw [List.pairwise_append]
      refine ⟨h.up, List.pairwise_singleton _ _, fun p hp x hx => ?_⟩
      rw [List.mem_singleton] at hx; subst hx
      have := (h.no p hp).2.1
      show p.2 < d.q.puts + 1
      omega
    · show (d.q.ws ++ [(F, d.q.puts + 1)]).length ≤ d.q.room
      rw [List.length_append, List.length_singleton]; omega
  obtain ⟨f1, f2, f3⟩ := feD_I hJ
  exact ⟨f1, f2.puts, f2.room, f2.rx, f2.keep, f2.pass, f3⟩

/-- A step: the driver is one as before; what waits gets no more; what is told as sent had the wire, was the frame of its number, and waits no more. -/
theorem stD_I (h : DvI d) (x : Bool) :
    DvI (stD d x).1 ∧ (stD d x).1.q.puts = d.q.puts ∧ (stD d x).1.q.room = d.q.room ∧ (stD d x).1.keep = d.keep ∧ (stD d x).1.pass = d.pass ∧ (stD d x).1.now = d.now + 1 ∧ (stD d x).1.q.ws.Sublist d.q.ws
      ∧ ((stD d x).2.1 = 1 → ((stD d x).2.2.2, (stD d x).2.2.1) ∈ d.q.ws ∧ ∀ p ∈ (stD d x).1.q.ws, p.2 ≠ (stD d x).2.2.1) := by
  have hk := on_step h.on x
  unfold stD
  by_cases h1 : (stC d.c x).2.1 = 1
  · obtain ⟨s1, s2, s3⟩ := hk.sent h1
    obtain ⟨w1, w2⟩ := h.hw s1
    have e : hpD { d with c := (stC d.c x).1 } (stC d.c x).2 = ({ d with c := (stC d.c x).1, q := seQ d.q }, (1, d.q.wire, (stC d.c x).2.2)) := if_pos h1
    have eq : seQ d.q = { d.q with ws := rmQ d.q.wire d.q.ws, wire := 0, ab := false } := if_neg (by omega)
    dsimp only
    rw [e, eq]
    obtain ⟨l1, l2⟩ := h.less (q := { d.q with ws := rmQ d.q.wire d.q.ws, wire := 0, ab := false }) (rmQ_sub _ d.q.ws) rfl
    have hJ : DvJ { d with c := (stC d.c x).1, q := { d.q with ws := rmQ d.q.wire d.q.ws, wire := 0, ab := false }, now := d.now + 1 } :=
      ⟨hk.on, fun e => (by have e : (stC d.c x).1.has = true := e; rw [s3] at e; cases e), fun _ => ⟨rfl, rfl⟩, l1, l2, Nat.le_trans (rmQ_sub _ d.q.ws).length_le h.rm, h.kp⟩
    obtain ⟨f1, f2, f3⟩ := feD_I hJ
    refine ⟨f1, f2.puts, f2.room, f2.keep, f2.pass, f2.now, f3.trans (rmQ_sub _ d.q.ws), fun _ => ⟨by rw [s2]; exact w2, fun p hp => rmQ_no h.up p (f3.mem hp)⟩⟩
  · obtain ⟨k1, k2⟩ := hk.keep h1
    have hJ : ∀ (rx : List (Fr × Int)) (ov : Bool), rx.length ≤ d.keep → DvJ { d with c := (stC d.c x).1, rx := rx, ov := ov, now := d.now + 1 } := fun rx ov hl =>
      ⟨hk.on, fun e => by have e : (stC d.c x).1.has = true := e; show 1 ≤ d.q.wire ∧ ((stC d.c x).1.give, d.q.wire) ∈ d.q.ws; rw [k2]; exact h.hw (by rw [← k1]; exact e), fun e => h.h0 (by rw [← k1]; exact e), h.no, h.up, h.rm, hl⟩
    have key : ∃ rx ov t, rx.length ≤ d.keep ∧ t.1 ≠ 1 ∧ hpD { d with c := (stC d.c x).1 } (stC d.c x).2 = ({ d with c := (stC d.c x).1, rx := rx, ov := ov }, t) := by
      unfold hpD
      rw [if_neg h1]
      split
      · split
        · split
          · rename_i hl
            exact ⟨d.rx ++ [((stC d.c x).2.2, d.now)], d.ov, _, by have hl : d.rx.length < d.keep := hl; rw [List.length_append, List.length_singleton]; omega, by show (2 : Nat) ≠ 1; omega, rfl⟩
          · exact ⟨d.rx, true, _, h.kp, by show (3 : Nat) ≠ 1; omega, rfl⟩
        · exact ⟨d.rx, d.ov, _, h.kp, by decide, rfl⟩
      · split
        · exact ⟨d.rx, d.ov, _, h.kp, by decide, rfl⟩
        · split
          · exact ⟨d.rx, d.ov, _, h.kp, by decide, rfl⟩
          · exact ⟨d.rx, d.ov, _, h.kp, by decide, rfl⟩
    obtain ⟨rx, ov, t, hl, ht, e⟩ := key
    dsimp only
    rw [e]
    obtain ⟨f1, f2, f3⟩ := feD_I (hJ rx ov hl)
    exact ⟨f1, f2.puts, f2.room, f2.keep, f2.pass, f2.now, f3, fun e => absurd e ht⟩
end
end Go.Proofs.YtajdbimdiodalaaGreat

namespace Go.Proofs.YtajdbimdiodalaaGreat
open Go.RowKit Go.Sort
set_option linter.unusedVariables false
set_option linter.unusedSimpArgs false

/-- What is on the wire is the best, and is not given up. -/
structure DvB (d : Dv) : Prop where
  ab : d.q.ab = false
  be : d.c.has = true → beQ { d.q with wire := 0 } = some (d.c.give, d.q.wire)

section
variable {d : Dv}
/-- Fed, it is as it was. -/
theorem feD_same (h : DvB d) (hj : DvJ d) (hf : d.c.has = false → d.q.ws = []) : feD d = d := by
  unfold feD baD
  by_cases hh : d.c.has = true
  · by_cases hs : d.c.sends = true
    · rw [if_neg (by rw [hh, hs]; simp)]
      unfold giD
      rw [if_pos hh]
    · have hs : d.c.sends = false := by simpa using hs
      rw [if_pos (by rw [hh, hs]; simp)]
      have e : loQ d.q = { d.q with wire := 0 } := by
        unfold loQ
        rw [if_neg (by rw [h.ab]; simp)]
        simp [h.ab]
      rw [e]
      unfold giD
      rw [if_neg (by simp)]
      dsimp only
      rw [h.be hh]
      dsimp only
      rw [← hh]
  · have hh : d.c.has = false := by simpa using hh
    rw [if_neg (by rw [hh]; simp)]
    unfold giD
    rw [if_neg (by rw [hh]; simp)]
    have : beQ d.q = none := by unfold beQ; rw [hf hh]
    rw [this]

/-- Behind a frame that was sent: the next best one, or none. -/
theorem feD_next (h : d.c.has = false) : feD d = (match beQ d.q with
    | none => d
    | some p => { d with c := { d.c with has := true, give := p.1 }, q := { d.q with wire := p.2 } }) := by
  unfold feD baD
  rw [if_neg (by rw [h]; simp)]
  unfold giD
  rw [if_neg (by rw [h]; simp)]
  all_goals (cases beQ d.q <;> rfl)

/-- A step at which nothing was sent. -/
theorem stD_calm (h : DvI d) (b : DvB d) (x : Bool) (h1 : (stC d.c x).2.1 ≠ 1) :
    ∃ rx ov, (stD d x).1 = { d with c := (stC d.c x).1, rx := rx, ov := ov, now := d.now + 1 } ∧ DvB (stD d x).1 ∧ (stD d x).2.1 ≠ 1
      ∧ (rx, ov) = (if (stC d.c x).2.1 = 2 ∧ d.pass (stC d.c x).2.2 = true then (if d.rx.length < d.keep then (d.rx ++ [((stC d.c x).2.2, d.now)], d.ov) else (d.rx, true)) else (d.rx, d.ov)) := by
  have hk := on_step h.on x
  obtain ⟨k1, k2⟩ := hk.keep h1
  have key : ∃ rx ov t, t.1 ≠ 1 ∧ hpD { d with c := (stC d.c x).1 } (stC d.c x).2 = ({ d with c := (stC d.c x).1, rx := rx, ov := ov }, t)
      ∧ (rx, ov) = (if (stC d.c x).2.1 = 2 ∧ d.pass (stC d.c x).2.2 = true then (if d.rx.length < d.keep then (d.rx ++ [((stC d.c x).2.2, d.now)], d.ov) else (d.rx, true)) else (d.rx, d.ov)) := by
    unfold hpD
    rw [if_neg h1]
    by_cases h2 : (stC d.c x).2.1 = 2
    · rw [if_pos h2]
      by_cases hp : d.pass (stC d.c x).2.2 = true
      · have hh : (stC d.c x).2.1 = 2 ∧ d.pass (stC d.c x).2.2 = true := ⟨h2, hp⟩
        rw [if_pos hp, if_pos hh]
        dsimp only
        by_cases hl : d.rx.length < d.keep
        · rw [if_pos hl, if_pos hl]
          exact ⟨_, _, _, by show (2 : Nat) ≠ 1; omega, rfl, rfl⟩
        · rw [if_neg hl, if_neg hl]
          exact ⟨_, _, _, by show (3 : Nat) ≠ 1; omega, rfl, rfl⟩
      · have hh : ¬ ((stC d.c x).2.1 = 2 ∧ d.pass (stC d.c x).2.2 = true) := fun e => hp e.2
        rw [if_neg hp, if_neg hh]
        exact ⟨_, _, _, by decide, rfl, rfl⟩
    · have hh : ¬ ((stC d.c x).2.1 = 2 ∧ d.pass (stC d.c x).2.2 = true) := fun e => h2 e.1
      rw [if_neg h2, if_neg hh]
      split
      · exact ⟨_, _, _, by show (4 : Nat) ≠ 1; omega, rfl, rfl⟩
      · split
        · exact ⟨_, _, _, by show (5 : Nat) ≠ 1; omega, rfl, rfl⟩
        · exact ⟨_, _, _, by decide, rfl, rfl⟩
  obtain ⟨rx, ov, t, ht, e, er⟩ := key
  refine ⟨rx, ov, ?_⟩
  have hb : ∀ rx ov, DvB { d with c := (stC d.c x).1, rx := rx, ov := ov, now := d.now + 1 } := fun rx ov => ⟨b.ab, fun e => by
    have e : (stC d.c x).1.has = true := e
    show beQ { d.q with wire := 0 } = some ((stC d.c x).1.give, d.q.wire)
    rw [k2]; exact b.be (by rw [← k1]; exact e)⟩
  have hj : rx.length ≤ d.keep → DvJ { d with c := (stC d.c x).1, rx := rx, ov := ov, now := d.now + 1 } := fun hl =>
    ⟨hk.on, fun e => by have e : (stC d.c x).1.has = true := e; show 1 ≤ d.q.wire ∧ ((stC d.c x).1.give, d.q.wire) ∈ d.q.ws; rw [k2]; exact h.hw (by rw [← k1]; exact e), fun e => h.h0 (by rw [← k1]; exact e), h.no, h.up, h.rm, hl⟩
  have hl : rx.length ≤ d.keep := by
    have := congrArg (fun p => p.1.length) er
    have hkp := h.kp
    split at this
    · split at this
      · simp at this; omega
      · simp at this; omega
    · simp at this; omega
  have es : stD d x = ({ d with c := (stC d.c x).1, rx := rx, ov := ov, now := d.now + 1 }, t) := by
    unfold stD
    dsimp only
    rw [e]
    dsimp only
    rw [feD_same (hb rx ov) (hj hl) (fun e => h.fed (by rw [← k1]; exact e))]
  rw [es]
  exact ⟨rfl, hb rx ov, ht, er⟩

/-- A step at which its frame was sent: the next best one is given. -/
theorem stD_sent (h : DvI d) (x : Bool) (h1 : (stC d.c x).2.1 = 1) :
    stD d x = ((match beQ { d.q with ws := rmQ d.q.wire d.q.ws, wire := 0, ab := false } with
      | none => { d with c := (stC d.c x).1, q := { d.q with ws := rmQ d.q.wire d.q.ws, wire := 0, ab := false }, now := d.now + 1 }
      | some p => { d with c := { (stC d.c x).1 with has := true, give := p.1 }, q := { d.q with ws := rmQ d.q.wire d.q.ws, wire := p.2, ab := false }, now := d.now + 1 }), (1, d.q.wire, d.c.give)) := by
  have hk := on_step h.on x
  obtain ⟨s1, s2, s3⟩ := hk.sent h1
  obtain ⟨w1, w2⟩ := h.hw s1
  have e : hpD { d with c := (stC d.c x).1 } (stC d.c x).2 = ({ d with c := (stC d.c x).1, q := seQ d.q }, (1, d.q.wire, (stC d.c x).2.2)) := if_pos h1
  have eq : seQ d.q = { d.q with ws := rmQ d.q.wire d.q.ws, wire := 0, ab := false } := if_neg (by omega)
  unfold stD
  dsimp only
  rw [e, eq, s2]
  dsimp only
  rw [feD_next s3]

/-- What is given next is the best. -/
theorem stD_sent_B (h : DvI d) (x : Bool) (h1 : (stC d.c x).2.1 = 1) : DvB (stD d x).1 := by
  have hk := on_step h.on x
  obtain ⟨s1, s2, s3⟩ := hk.sent h1
  rw [stD_sent h x h1]
  split
  · exact ⟨rfl, fun e => by have e : (stC d.c x).1.has = true := e; rw [s3] at e; cases e⟩
  · rename_i p hp
    exact ⟨rfl, fun _ => hp⟩
end
end Go.Proofs.YtajdbimdiodalaaGreat

namespace Go.Proofs.YtajdbimdiodalaaGreat
open Go.RowKit
set_option linter.unusedVariables false

theorem find1_any (w : World) (p : Wt) (n : Int) (b : Nat) (hb : b < w.heap.size) (hc : w.cell? ⟨b, 0, none⟩ = some (.int .i64 n)) :
    Calls Tryz.prog 114 #[.agg (wtV p), .pointer (some ⟨b, 0, none⟩)] w fun e w' => e = .returned (.bool (decide ((p.2 : Int) = n))) ∧ Below w.heap.size w w' := by
  have hne : b ≠ w.heap.size := by omega
  go_enter Tryz.func114, Tryz.ntmps114
  go_wp2
  all_goals (go_ret; exact ⟨ret_bool (by rw [Bool.eq_iff_iff]; simp), bnew0 w _⟩)

set_option maxHeartbeats 1000000 in
theorem mlIndex_any (w : World) (a : Option Addr) (n c : Nat) (ws : List Wt) (N : Int) (b : Nat) (h : RK enW 6 w a n c ws) (hn : n ≤ 100000) (hb : b < w.heap.size) (hc : w.cell? ⟨b, 0, none⟩ = some (.int .i64 N)) :
    Calls Tryz.prog 113 #[.slice a n c, .func (.func 114) #[] #[.pointer (some ⟨b, 0, none⟩)]] w fun e w' => e = .returned (.int .i64 (fiW N ws)) ∧ Below w.heap.size w w' := by
  have HL := hid h.len
  go_enter Tryz.func113, Tryz.ntmps113
  go_wp2
  go_loopg [8] n (fun gn vi wr => ∃ k : Nat, k ≤ n ∧ gn = n - k ∧ vi = .int .i64 (k : Int) ∧ Hid (∀ j q, j < k → ws[j]? = some q → (q.2 : Int) ≠ N) ∧ Below w.heap.size w wr)
  case atStart => exact ⟨0, by omega, by omega, rfl, fun j q hj => by omega, Below.refl _ _⟩
  case round =>
    obtain ⟨k, hk, rfl, rfl, HF, hbl⟩ := hrel
    by_cases hlt : k < n
    · obtain ⟨p, hp⟩ : ∃ p, ws[k]? = some p := ⟨ws[k]'(by rw [HL.out]; exact hlt), by simp⟩
      obtain ⟨gb, off, rfl, hgb, hr⟩ := (h.below hbl).range hp
      have HP := hid hp; clear hp
      have hcl := find1_any wr p N b (Nat.lt_of_lt_of_le hb hbl.size) ((hbl.cell (p := ⟨b, 0, none⟩) hb).trans hc)
      by_cases he : (p.2 : Int) = N
      · rw [decide_eq_true he] at hcl
        have HE := hid he; clear he
        go_wp2_with (first
          | (with_reducible refine wpList_loadM rowW rfl _ rfl _ _ rfl (wtV p) hr rfl ?_)
          | (go_at_call 114; (with_reducible refine hcl.mono ?_); rintro e w1 ⟨rfl, g1⟩))
        go_ret
        exact ⟨ret_int (fiW_at HP.out HE.out HF.out).symm, bstep hbl g1⟩
      · rw [decide_eq_false he] at hcl
        have HE := hid he; clear he
        go_wp2_with (first
          | (with_reducible refine wpList_loadM rowW rfl _ rfl _ _ rfl (wtV p) hr rfl ?_)
          | (go_at_call 114; (with_reducible refine hcl.mono ?_); rintro e w1 ⟨rfl, g1⟩))
        go_roundg (n - (k + 1))
        case measure => omega
        case rel => exact ⟨k + 1, by omega, rfl, by go_num, fun j q hj hq => by
          by_cases e : j = k
          · subst e; rw [HP.out] at hq; simp at hq; rw [← hq]; exact HE.out
          · exact HF.out j q (by omega) hq, bstep hbl g1⟩
    · obtain rfl : k = n := by omega
      go_wp2
      go_ret
      exact ⟨ret_int (fiW_no (fun q hq => by
        obtain ⟨j, hj, rfl⟩ := List.mem_iff_getElem.1 hq
        exact HF.out j _ (by rw [HL.out] at hj; exact hj) (by simp))).symm, hbl⟩
end Go.Proofs.YtajdbimdiodalaaGreat

namespace Go.Proofs.YtajdbimdiodalaaGreat
open Go.RowKit
set_option linter.unusedVariables false

theorem or_plus {a b k : Nat} (hb : b < 2 ^ k) (ha : a % 2 ^ k = 0) : a ||| b = a + b := by
  have h := Nat.two_pow_add_eq_or_of_lt hb (a / 2 ^ k)
  have e : 2 ^ k * (a / 2 ^ k) = a := by have := Nat.div_add_mod a (2 ^ k); omega
  rw [e] at h
  exact h.symm

theorem kb1 (id : Nat) : (id : Int) * 2097152 % 4294967296 = ((keyF id false false : Nat) : Int) := by rw [key_base]; simp; omega
theorem kb2 (id : Nat) : bits .or .u32 ((id : Int) * 2097152 % 4294967296) 1048576 = ((keyF id false true : Nat) : Int) := by
  have h1 : (id : Int) * 2097152 % 4294967296 = ((id % 2048 * 2097152 : Nat) : Int) := by omega
  have h2 := (u32_bits (id % 2048 * 2097152) 1048576 (by omega) (by omega)).2
  have h3 : (1048576 : Int) = ((1048576 : Nat) : Int) := rfl
  rw [h1, h3, h2, or_plus (k := 21) (by omega) (by omega), key_base]; simp; omega
theorem ke0 (id : Nat) (hi : id < 4294967296) : bits .or .u32 (bits .or .u32 ((id : Int) / 262144 * 2097152 % 4294967296) 1572864) (bits .and .u32 (id : Int) 262143 * 2 % 4294967296) = ((id / 262144 % 2048 * 2097152 + 1572864 + id % 262144 * 2 : Nat) : Int) := by
  have h1 : (id : Int) / 262144 * 2097152 % 4294967296 = ((id / 262144 % 2048 * 2097152 : Nat) : Int) := by omega
  have h2 := (u32_bits (id / 262144 % 2048 * 2097152) 1572864 (by omega) (by omega)).2
  have h3 : (1572864 : Int) = ((1572864 : Nat) : Int) := rfl
  have h4 := (u32_bits id 262143 hi (by omega)).1
  have h5 : (262143 : Int) = ((262143 : Nat) : Int) := rfl
  have h6 : id &&& 262143 = id % 262144 := Nat.and_two_pow_sub_one_eq_mod id 18
  have h7 : ((id % 262144 : Nat) : Int) * 2 % 4294967296 = ((id % 262144 * 2 : Nat) : Int) := by omega
  rw [h1, h3, h2, h5, h4, h6, h7, or_plus (k := 21) (a := id / 262144 % 2048 * 2097152) (by omega) (by omega)]
  have h8 := (u32_bits (id / 262144 % 2048 * 2097152 + 1572864) (id % 262144 * 2) (by omega) (by omega)).2
  rw [h8, or_plus (k := 19) (by omega) (by omega)]
theorem ke1 (id : Nat) (hi : id < 4294967296) : bits .or .u32 (bits .or .u32 ((id : Int) / 262144 * 2097152 % 4294967296) 1572864) (bits .and .u32 (id : Int) 262143 * 2 % 4294967296) = ((keyF id true false : Nat) : Int) := by
  rw [ke0 id hi, key_ext]; simp; omega
theorem ke2 (id : Nat) (hi : id < 4294967296) : bits .or .u32 (bits .or .u32 (bits .or .u32 ((id : Int) / 262144 * 2097152 % 4294967296) 1572864) (bits .and .u32 (id : Int) 262143 * 2 % 4294967296)) 1 = ((keyF id true true : Nat) : Int) := by
  rw [ke0 id hi]
  have h8 := (u32_bits (id / 262144 % 2048 * 2097152 + 1572864 + id % 262144 * 2) 1 (by omega) (by omega)).2
  have h3 : (1 : Int) = ((1 : Nat) : Int) := rfl
  rw [h3, h8, or_plus (k := 1) (by omega) (by omega), key_ext]; simp; omega

set_option maxHeartbeats 1000000 in
theorem key_any (w : World) (id : Nat) (ext rem : Bool) (dlc : Nat) (a : Option Addr) (n c : Nat) (hi : id < 4294967296) :
    Calls Tryz.prog 24 #[.agg #[.int .u32 (id : Int), .bool ext, .bool rem, .int .u8 (dlc : Int), .slice a n c]] w fun e w' => e = .returned (.int .u32 (keyF id ext rem : Int)) ∧ Below w.heap.size w w' := by
  cases ext <;> cases rem
  all_goals
    go_enter Tryz.func24, Tryz.ntmps24
    go_wp2
    go_ret
    exact ⟨ret_int (by first | exact kb1 id | exact kb2 id | exact ke1 id hi | exact ke2 id hi), bnew0 w _⟩

theorem isNaN_u32 (a : Int) (w : World) : Calls Tryz.prog 181 #[.int .u32 a] w fun e w' => e = .returned (.bool false) ∧ w = w' := by
  go_enter Tryz.func181, Tryz.ntmps181
  go_wp2
  go_ret
  exact ⟨ret_bool (by simp), rfl⟩

/-- Comparing two numbers. -/
def cmpV (a b : Nat) : Int := if a < b then -1 else if b < a then 1 else 0
theorem cmp_u32 (a b : Nat) (w : World) : Calls Tryz.prog 164 #[.int .u32 (a : Int), .int .u32 (b : Int)] w fun e w' => e = .returned (.int .i64 (cmpV a b)) ∧ w = w' := by
  unfold cmpV
  by_cases h1 : a < b
  · rw [if_pos h1]
    have d1 : (a : Int) < b := by omega
    have d2 : decide (a < b) = true := decide_eq_true h1
    clear h1
    go_enter Tryz.func164, Tryz.ntmps164
    go_wp2_with (go_at_call 181; refine (isNaN_u32 _ _).mono ?_; rintro e w' ⟨rfl, rfl⟩)
    go_ret
    exact ⟨rfl, rfl⟩
  · rw [if_neg h1]
    by_cases h2 : b < a
    · rw [if_pos h2]
      have d1 : ¬ (a : Int) < b := by omega
      have d2 : decide (a < b) = false := decide_eq_false h1
      have d3 : (b : Int) < a := by omega
      have d4 : decide (b < a) = true := decide_eq_true h2
      clear h1 h2
      go_enter Tryz.func164, Tryz.ntmps164
      go_wp2_with (go_at_call 181; refine (isNaN_u32 _ _).mono ?_; rintro e w' ⟨rfl, rfl⟩)
      go_ret
      exact ⟨rfl, rfl⟩
    · rw [if_neg h2]
      have d1 : ¬ (a : Int) < b := by omega
      have d2 : decide (a < b) = false := decide_eq_false h1
      have d3 : ¬ (b : Int) < a := by omega
      have d4 : decide (b < a) = false := decide_eq_false h2
      clear h1 h2
      go_enter Tryz.func164, Tryz.ntmps164
      go_wp2_with (go_at_call 181; refine (isNaN_u32 _ _).mono ?_; rintro e w' ⟨rfl, rfl⟩)
      go_ret
      exact ⟨rfl, rfl⟩
end Go.Proofs.YtajdbimdiodalaaGreat

namespace Go.Proofs.YtajdbimdiodalaaGreat
open Go.RowKit Go.Sort
set_option linter.unusedVariables false

/-- A box of six cells. -/
theorem bx6r {w : World} {g : Nat} {E : TypeId} {v0 v1 v2 v3 v4 v5 : Value} (h : w.heap[g]? = some (.cells #[v0, v1, v2, v3, v4, v5] E (0, 0))) :
    (∀ d os, (grow (redrawn w d) os).cell? ⟨g, 0, none⟩ = some v0) ∧ (∀ d os, (grow (redrawn w d) os).cell? ⟨g, 1, none⟩ = some v1) ∧ (∀ d os, (grow (redrawn w d) os).cell? ⟨g, 2, none⟩ = some v2) ∧
    (∀ d os, (grow (redrawn w d) os).cell? ⟨g, 3, none⟩ = some v3) ∧ (∀ d os, (grow (redrawn w d) os).cell? ⟨g, 4, none⟩ = some v4) ∧ (∀ d os, (grow (redrawn w d) os).cell? ⟨g, 5, none⟩ = some v5) := by
  obtain ⟨k0, k1, k2, k3, k4, k5⟩ := bx6 h
  exact ⟨fun d os => cell_regrown k0 d os, fun d os => cell_regrown k1 d os, fun d os => cell_regrown k2 d os, fun d os => cell_regrown k3 d os, fun d os => cell_regrown k4 d os, fun d os => cell_regrown k5 d os⟩

set_option maxRecDepth 100000 in
set_option maxHeartbeats 2000000 in
theorem compare_any (w : World) (p q : Wt) (hp : p.1.1.id < 4294967296) (hq : q.1.1.id < 4294967296) :
    Calls Tryz.prog 144 #[.agg (wtV p), .agg (wtV q)] w fun e w' => e = .returned (.int .i64 (cmpV (kyW p) (kyW q))) ∧ Below w.heap.size w w' := by
  obtain ⟨w0, hw0, hbx, hby, gg0⟩ := boxed2 w 164 (wtV p) (wtV q)
  obtain ⟨x0, x1, x2, x3, x4, x5⟩ := bx6r hbx
  obtain ⟨y0, y1, y2, y3, y4, y5⟩ := bx6r hby
  have kA : ∀ d os, Calls Tryz.prog 24 #[.agg #[.int .u32 (p.1.1.id : Int), .bool p.1.1.ext, .bool p.1.1.rem, .int .u8 (p.1.1.dlc : Int), .slice p.1.2.1 p.1.1.data.length p.1.2.2]] (grow (redrawn w0 d) os) fun e w'' => e = .returned (.int .u32 (kyW p : Int)) ∧ ∃ r : Regrown, w'' = grow (redrawn w0 r.d) r.os := fun d os =>
    Calls.regrown_of (key_any _ _ _ _ _ _ _ _ hp)
  have kB : ∀ d os, Calls Tryz.prog 24 #[.agg #[.int .u32 (q.1.1.id : Int), .bool q.1.1.ext, .bool q.1.1.rem, .int .u8 (q.1.1.dlc : Int), .slice q.1.2.1 q.1.1.data.length q.1.2.2]] (grow (redrawn w0 d) os) fun e w'' => e = .returned (.int .u32 (kyW q : Int)) ∧ ∃ r : Regrown, w'' = grow (redrawn w0 r.d) r.os := fun d os =>
    Calls.regrown_of (key_any _ _ _ _ _ _ _ _ hq)
  have kC : ∀ d os, Calls Tryz.prog 164 #[.int .u32 (kyW p : Int), .int .u32 (kyW q : Int)] (grow (redrawn w0 d) os) fun e w'' => e = .returned (.int .i64 (cmpV (kyW p) (kyW q))) ∧ ∃ r : Regrown, w'' = grow (redrawn w0 r.d) r.os := fun d os =>
    Calls.regrown_of ((cmp_u32 _ _ _).mono fun e w' he => ⟨he.1, he.2 ▸ Below.refl _ _⟩)
  generalize cmpV (kyW p) (kyW q) = cv at *
  generalize kyW p = kp at *
  generalize kyW q = kq at *
  go_enter Tryz.func144, Tryz.ntmps144
  go_wp2
  rw [hw0.out]
  refine wp_region_quiet_below (by kernel_rfl) (by kernel_rfl) ?_
  repeat (go_big_quiet_step (first | (go_at_call 24; with_reducible exact kA _ _) | (go_at_call 24; with_reducible exact kB _ _) | (go_at_call 164; with_reducible exact kC _ _)))
  refine wpQuiet_nil ?_
  intro w9 hw9
  have g9 : Below w0.heap.size w0 w9 := by obtain ⟨p9, rfl⟩ := hw9; exact below_regrown _ _ _
  clear hw9 kA kB kC x0 x1 x2 x3 x4 x5 y0 y1 y2 y3 y4 y5
  go_wp2
  go_ret
  exact ⟨rfl, bstep gg0 g9⟩
end Go.Proofs.YtajdbimdiodalaaGreat

namespace Go.Proofs.YtajdbimdiodalaaGreat
open Go.RowKit Go.Sort
set_option linter.unusedVariables false

theorem rg6r {w : World} {b o : Nat} {p : Wt} (h : w.rangeAt b o (enW p)) :
    (∀ d os, (grow (redrawn w d) os).cell? ⟨b, o, none⟩ = some (.int .u32 (p.1.1.id : Int))) ∧ (∀ d os, (grow (redrawn w d) os).cell? ⟨b, o + 1, none⟩ = some (.bool p.1.1.ext)) ∧ (∀ d os, (grow (redrawn w d) os).cell? ⟨b, o + 2, none⟩ = some (.bool p.1.1.rem)) ∧
    (∀ d os, (grow (redrawn w d) os).cell? ⟨b, o + 3, none⟩ = some (.int .u8 (p.1.1.dlc : Int))) ∧ (∀ d os, (grow (redrawn w d) os).cell? ⟨b, o + 4, none⟩ = some (.slice p.1.2.1 p.1.1.data.length p.1.2.2)) ∧ (∀ d os, (grow (redrawn w d) os).cell? ⟨b, o + 5, none⟩ = some (.int .i64 (p.2 : Int))) := by
  have k0 := h 0 _ rfl
  rw [Nat.add_zero] at k0
  exact ⟨fun d os => cell_regrown k0 d os, fun d os => cell_regrown (h 1 _ rfl) d os, fun d os => cell_regrown (h 2 _ rfl) d os, fun d os => cell_regrown (h 3 _ rfl) d os, fun d os => cell_regrown (h 4 _ rfl) d os, fun d os => cell_regrown (h 5 _ rfl) d os⟩

theorem cmpV_lt {a b : Nat} (h : a < b) : cmpV a b < 0 := by unfold cmpV; rw [if_pos h]; omega
theorem cmpV_ge {a b : Nat} (h : ¬ a < b) : ¬ cmpV a b < 0 := by unfold cmpV; rw [if_neg h]; split <;> omega

set_option maxRecDepth 100000 in
set_option maxHeartbeats 4000000 in
theorem minFunc_any (w : World) (a : Option Addr) (n c : Nat) (hd : Wt) (tl : List Wt) (h : RK enW 6 w a n c (hd :: tl)) (hn : n ≤ 100000) (hid' : ∀ p ∈ hd :: tl, p.1.1.id < 4294967296) :
    Calls Tryz.prog 143 #[.slice a n c, .func (.func 144) #[] #[]] w fun e w' => e = .returned (.agg (wtV (miW tl hd))) ∧ Below w.heap.size w w' := by
  have HL := hid h.len
  have HI := hid hid'; clear hid'
  have hn1 : 1 ≤ n := by rw [← HL.out]; simp
  obtain ⟨R, hR⟩ : ∃ R, R = miW tl hd := ⟨_, rfl⟩
  rw [← hR]
  have HR := hid hR; clear hR
  have z0 : ((w.alloc (.cells wtZ 164)).alloc (.cells wtZ 164)).heap.size = w.heap.size + 2 := by simp
  have b1 : ((w.alloc (.cells wtZ 164)).alloc (.cells wtZ 164)).heap[w.heap.size]? = some (.cells wtZ 164 (0, 0)) := bx_alloc _ (heap_alloc_new w _)
  have b2 : ((w.alloc (.cells wtZ 164)).alloc (.cells wtZ 164)).heap[w.heap.size + 1]? = some (.cells wtZ 164 (0, 0)) := by
    have := heap_alloc_new (w.alloc (.cells wtZ 164)) (.cells wtZ 164); rwa [heap_size_alloc] at this
  obtain ⟨gb0, off0, ha0, hgb0, hr0⟩ := (h.below (bnew0 w (.cells wtZ 164))).range (i := 0) (x := hd) (by simp)
  rw [Nat.zero_mul, Nat.add_zero] at hr0
  subst ha0
  go_enter Tryz.func143, Tryz.ntmps143
  go_wp2_with (first
    | (with_reducible refine wpList_loadM rowW rfl _ rfl _ _ rfl (wtV hd) hr0 rfl ?_)
    | (with_reducible refine wpList_storeR rowW rfl _ _ rfl _ _ rfl rfl b2 rfl rfl (wt_ones _) ?_))
  have b3 := setRow_heap _ _ _ (wtV hd) _ _ b2
  have b4 := (setRow_other _ (w.heap.size + 1) w.heap.size (wtV hd) (by omega)).trans b1
  have gg : Below w.heap.size w (((w.alloc (.cells wtZ 164)).alloc (.cells wtZ 164)).setRow (w.heap.size + 1) (wtV hd)) := below_setRow (bnew (bnew0 w _) _) (by omega) _
  clear hr0 hgb0 b1 b2 z0
  go_loopg [6] (n - 1) (fun gn vi wr => ∃ (k : Nat) (p : Wt), 1 ≤ k ∧ k ≤ n ∧ gn = n - k ∧ vi = .int .i64 (k : Int) ∧ Hid (miW ((hd :: tl).drop k) p = R) ∧ p.1.1.id < 4294967296 ∧ wr.heap[w.heap.size + 1]? = some (.cells (wtV p) 164 (0, 0)) ∧ wr.heap[w.heap.size]? = some (.cells wtZ 164 (0, 0)) ∧ Below w.heap.size w wr)
  case atStart => exact ⟨1, hd, by omega, by omega, by omega, rfl, HR.out.symm, HI.out hd (by simp), b3, b4, gg⟩
  case round =>
    obtain ⟨k, p, hk1, hk, rfl, rfl, HM, hpi, c1, c2, hb⟩ := hrel
    clear b3 b4 gg
    by_cases hlt : k < n
    · obtain ⟨x, hx⟩ : ∃ x, (hd :: tl)[k]? = some x := ⟨(hd :: tl)[k]'(by rw [HL.out]; exact hlt), by simp⟩
      obtain ⟨gb, off, ha, hgb, hr⟩ := (h.below hb).range hx
      simp only [Option.some.injEq, Addr.mk.injEq, and_true] at ha
      obtain ⟨rfl, rfl⟩ := ha
      have hxi : x.1.1.id < 4294967296 := HI.out x (List.mem_of_getElem? hx)
      have hdr : (hd :: tl).drop k = x :: (hd :: tl).drop (k + 1) := by
        have := List.getElem?_eq_some_iff.1 hx
        rw [← this.2]; exact List.drop_eq_getElem_cons this.1
      have HX := hid hx; clear hx
      obtain ⟨x0, x1, x2, x3, x4, x5⟩ := rg6r hr
      obtain ⟨y0, y1, y2, y3, y4, y5⟩ := bx6r c1
      have kC : ∀ d os, Calls Tryz.prog 144 #[.agg (wtV x), .agg (wtV p)] (grow (redrawn wr d) os) fun e w'' => e = .returned (.int .i64 (cmpV (kyW x) (kyW p))) ∧ ∃ r : Regrown, w'' = grow (redrawn wr r.d) r.os := fun d os =>
        Calls.regrown_of (compare_any _ x p hxi hpi)
      by_cases hc : kyW x < kyW p
      · have hcv := cmpV_lt hc
        have HM2 : Hid (miW ((hd :: tl).drop (k + 1)) x = R) := by
          have := HM.out; rw [hdr] at this; unfold miW at this; rw [if_pos hc] at this; exact this
        clear hc hdr HM
        generalize cmpV (kyW x) (kyW p) = cv at *
        go_wp2
        refine wp_region_quiet_below (by kernel_rfl) (by kernel_rfl) ?_
        repeat (go_big_quiet_step (first | (go_at_call 144; with_reducible exact kC _ _)))
        refine wpQuiet_nil ?_
        intro w9 hw9
        have g9 : Below wr.heap.size wr w9 := by obtain ⟨p9, rfl⟩ := hw9; exact below_regrown _ _ _
        clear hw9 kC x0 x1 x2 x3 x4 x5 y0 y1 y2 y3 y4 y5
        have hr9 : w9.rangeAt gb0 (off0 + k * 6) (enW x) := fun j v hj => (g9.cell (p := ⟨gb0, _, none⟩) hgb).trans (hr j v hj)
        have d1 := bx_below c1 g9
        have d2 := bx_below c2 g9
        go_wp2_with (first
          | (with_reducible refine wpList_loadM rowW rfl _ rfl _ _ rfl (wtV x) hr9 rfl ?_)
          | (with_reducible refine wpList_storeR rowW rfl _ _ rfl _ _ rfl rfl d1 rfl rfl (wt_ones _) ?_))
        go_roundg (n - (k + 1))
        case measure => omega
        case rel => exact ⟨k + 1, x, by omega, by omega, rfl, by go_num, HM2, hxi, setRow_heap _ _ _ _ _ _ d1, (setRow_other _ _ _ _ (by omega)).trans d2, below_setRow (bstep hb g9) (by omega) _⟩
      · have hcv := cmpV_ge hc
        have HM2 : Hid (miW ((hd :: tl).drop (k + 1)) p = R) := by
          have := HM.out; rw [hdr] at this; unfold miW at this; rw [if_neg hc] at this; exact this
        clear hc hdr HM
        have hcv' : decide (cmpV (kyW x) (kyW p) < 0) = false := decide_eq_false hcv
        clear hcv
        generalize cmpV (kyW x) (kyW p) = cv at *
        go_wp2
        refine wp_region_quiet_below (by kernel_rfl) (by kernel_rfl) ?_
        repeat (go_big_quiet_step (first | (go_at_call 144; with_reducible exact kC _ _)))
        refine wpQuiet_nil ?_
        intro w9 hw9
        have g9 : Below wr.heap.size wr w9 := by obtain ⟨p9, rfl⟩ := hw9; exact below_regrown _ _ _
        clear hw9 kC x0 x1 x2 x3 x4 x5 y0 y1 y2 y3 y4 y5
        have d1 := bx_below c1 g9
        have d2 := bx_below c2 g9
        go_wp2
        go_roundg (n - (k + 1))
        case measure => omega
        case rel => exact ⟨k + 1, p, by omega, by omega, rfl, by go_num, HM2, hpi, d1, d2, bstep hb g9⟩
    · obtain rfl : k = n := by omega
      have hRp : R = p := by
        have := HM.out; rw [List.drop_eq_nil_of_le (by rw [HL.out]; exact Nat.le_refl _)] at this; exact this.symm
      subst hRp
      clear HM
      go_wp2_with (first
        | (with_reducible refine wpList_loadR rowW rfl _ rfl _ rfl c1 rfl ?_)
        | (with_reducible refine wpList_storeR rowW rfl _ _ rfl _ _ rfl rfl c2 rfl rfl (wt_ones _) ?_))
      exact bodyPost_ret (v := .agg (wtV R)) (results_row rowW rfl _ _ _ rfl (setRow_heap _ _ _ _ _ _ c2) rfl) rfl ⟨rfl, below_setRow hb (Nat.le_refl _) _⟩

end Go.Proofs.YtajdbimdiodalaaGreat

namespace Go.Proofs.YtajdbimdiodalaaGreat
open Go.RowKit Go.Sort
set_option linter.unusedVariables false

theorem mfind_any {B : Nat} {w : World} {g : Nat} {m : Ml} {a : Option Addr} {c : Nat} {S : Nat → Prop} (h : MlO B w g m a c S) (N : Int) :
    Calls Tryz.prog 78 #[.pointer (some ⟨g, 0, none⟩), .int .i64 N] w fun e w' => e = .returned (.int .i64 (fiW N m.ws)) ∧ Below w.heap.size w w' := by
  have h0 := h.alloc (.cells #[.int .i64 N] 3)
  have q3 := (bx6 h0.box).2.2.2.1
  have hx : (w.alloc (.cells #[.int .i64 N] 3)).cell? ⟨w.heap.size, 0, none⟩ = some (.int .i64 N) := by rw [cell_of_row _ _ 0 _ _ _ (heap_alloc_new w _)]; rfl
  have hn : m.ws.length ≤ 100000 := by have := h.rm; have := h.le; omega
  have hrow := h0.row.rk enW_k
  clear h0
  go_enter Tryz.func78, Tryz.ntmps78
  go_wp2_with (go_at_call 113; (with_reducible refine (mlIndex_any _ _ _ _ _ _ _ hrow hn (by simp) hx).mono ?_); rintro e w1 ⟨rfl, g1⟩)
  go_ret
  exact ⟨rfl, (bnew0 w _).trans (g1.mono (by simp))⟩

theorem eqMl (w : World) (g : Nat) : (binOp .eql 93 (.pointer (some ⟨g, 0, none⟩)) (.pointer (some ⟨g, 0, none⟩))).run Tryz.prog w = .ok (.bool true) w := by
  obtain ⟨j, hj⟩ := Option.isSome_iff_exists.1 (show (Tryz.prog.info? 138).isSome = true by kernel_rfl)
  exact run_eql_ptr_same w _ (by kernel_rfl) hj

set_option maxRecDepth 100000 in
theorem mlMade_any {B : Nat} {w : World} {g : Nat} {m : Ml} {a : Option Addr} {c : Nat} {S : Nat → Prop} (h : MlO B w g m a c S) :
    Calls Tryz.prog 76 #[.pointer (some ⟨g, 0, none⟩)] w fun e w' => e = .returned (.bool true) ∧ w = w' := by
  have q0 := (bx6 h.box).1
  have qe := fun w => eqMl w g
  go_enter Tryz.func76, Tryz.ntmps76
  go_wp2
  go_ret
  exact ⟨rfl, rfl⟩

theorem find_fi {ws : List Wt} {W : Nat} {p : Wt} (hpe : ws.find? (fun q => decide (q.2 = W)) = some p) : ∃ k : Nat, ws[k]? = some p ∧ p.2 = W ∧ fiW (W : Int) ws = (k : Int) := by
  rcases fiW_or (W : Int) ws with ⟨_, h2⟩ | ⟨k, q, h1, h2, h3, h4⟩
  · have := List.find?_some hpe
    have h5 := h2 p (List.mem_of_find?_eq_some hpe)
    simp at this; omega
  · have e : p = q := by
      obtain ⟨h6, l1, l2, h7, h8⟩ := List.find?_eq_some_iff_append.1 hpe
      have hk : k = l1.length := by
        rcases Nat.lt_trichotomy k l1.length with hlt | he | hgt
        · rw [h7, List.getElem?_append_left hlt] at h1
          have := h8 q (List.mem_of_getElem? h1)
          simp at this; omega
        · exact he
        · have := h4 l1.length p hgt (by rw [h7]; simp)
          simp at h6; omega
      rw [hk, h7] at h1
      simpa using h1
    subst e
    exact ⟨k, h1, by omega, h3⟩

/-- A box of six cells, all stored. -/
theorem set6_same {w1 : World} {g : Nat} {T : TypeId} {u0 u1 u2 u3 u4 u5 : Value} (h : w1.heap[g]? = some (.cells #[u0, u1, u2, u3, u4, u5] T (0, 0))) (v0 v1 v2 v3 v4 v5 : Value) :
    ((((((w1.setCell ⟨g, 0, none⟩ v0).setCell ⟨g, 1, none⟩ v1).setCell ⟨g, 2, none⟩ v2).setCell ⟨g, 3, none⟩ v3).setCell ⟨g, 4, none⟩ v4).setCell ⟨g, 5, none⟩ v5).heap[g]? = some (.cells #[v0, v1, v2, v3, v4, v5] T (0, 0)) :=
  heap_setCell_same _ g 5 _ _ _ (heap_setCell_same _ g 4 _ _ _ (heap_setCell_same _ g 3 _ _ _ (heap_setCell_same _ g 2 _ _ _ (heap_setCell_same _ g 1 _ _ _ (heap_setCell_same _ g 0 _ _ _ h)))))
theorem set6_below {B : Nat} {w w1 : World} {g : Nat} (h : Below B w w1) (hg : B ≤ g) (v0 v1 v2 v3 v4 v5 : Value) :
    Below B w ((((((w1.setCell ⟨g, 0, none⟩ v0).setCell ⟨g, 1, none⟩ v1).setCell ⟨g, 2, none⟩ v2).setCell ⟨g, 3, none⟩ v3).setCell ⟨g, 4, none⟩ v4).setCell ⟨g, 5, none⟩ v5) :=
  (((((h.setCell hg _).setCell hg _).setCell hg _).setCell hg _).setCell hg _).setCell hg _

/-- What a region that looks for one of those that wait reads. -/
theorem heldM {B : Nat} {w w' : World} {g : Nat} {m : Ml} {a : Option Addr} {c : Nat} {S : Nat → Prop} {b o : Nat} {p : Wt} (h : MlO B w g m a c S) (hb : b < w.heap.size) (hr : w.rangeAt b o (enW p)) (k : Below w.heap.size w w') :
    w'.cell? ⟨g, 3, none⟩ = some (.slice a m.ws.length c) ∧ w'.cell? ⟨g, 4, none⟩ = some (.int .i64 (m.wire : Int)) ∧
    w'.cell? ⟨b, o, none⟩ = some (.int .u32 (p.1.1.id : Int)) ∧ w'.cell? ⟨b, o + 1, none⟩ = some (.bool p.1.1.ext) ∧ w'.cell? ⟨b, o + 2, none⟩ = some (.bool p.1.1.rem) ∧ w'.cell? ⟨b, o + 3, none⟩ = some (.int .u8 (p.1.1.dlc : Int)) ∧ w'.cell? ⟨b, o + 4, none⟩ = some (.slice p.1.2.1 p.1.1.data.length p.1.2.2) ∧ w'.cell? ⟨b, o + 5, none⟩ = some (.int .i64 (p.2 : Int)) ∧ Below w.heap.size w w' := by
  have hr' : w'.rangeAt b o (enW p) := fun j v hj => (k.cell (p := ⟨b, _, none⟩) hb).trans (hr j v hj)
  have k0 := hr' 0 _ rfl
  rw [Nat.add_zero] at k0
  obtain ⟨_, _, _, q3, q4, _⟩ := bx6 (h.below k).box
  exact ⟨q3, q4, k0, hr' 1 _ rfl, hr' 2 _ rfl, hr' 3 _ rfl, hr' 4 _ rfl, hr' 5 _ rfl, k⟩

set_option maxRecDepth 100000 in
set_option maxHeartbeats 4000000 in
theorem first_any {B : Nat} {w : World} {g : Nat} {m : Ml} {a : Option Addr} {c : Nat} {S : Nat → Prop} (h : MlO B w g m a c S) (p : Wt) (hp : beM m = some p) :
    Calls Tryz.prog 116 #[.pointer (some ⟨g, 0, none⟩)] w fun e w' => e = .returned (.agg (wtV p)) ∧ Below w.heap.size w w' := by
  obtain ⟨w0, hw0, h0, hb, gg⟩ : ∃ w0, Hid (w.alloc (.cells wtZ 164) = w0) ∧ MlO B w0 g m a c S ∧ w0.heap[w.heap.size]? = some (.cells wtZ 164 (0, 0)) ∧ Below w.heap.size w w0 := ⟨_, rfl, h.alloc _, heap_alloc_new w _, bnew0 w _⟩
  obtain ⟨q0, q1, q2, q3, q4, q5⟩ := bx6 h0.box
  have hn : m.ws.length ≤ 100000 := by have := h.rm; have := h.le; omega
  cases hw : m.ws with
  | nil => unfold beM at hp; rw [hw] at hp; cases hp
  | cons x l =>
    by_cases h00 : m.wire = 0
    · have hpe : p = miW l x := by unfold beM at hp; rw [hw] at hp; simp only [h00, if_true, Option.some.injEq] at hp; exact hp.symm
      have hi : ∀ q ∈ x :: l, q.1.1.id < 4294967296 := fun q hq => (h.wt q (by rw [hw]; exact hq)).id
      have hrow := h0.row.rk enW_k
      rw [hw] at hrow
      rw [hw] at q3
      have q4' : w0.cell? ⟨g, 4, none⟩ = some (.int .i64 0) := by rw [q4, h00]; rfl
      rw [hw] at hn
      have hmin := minFunc_any w0 a _ c x l hrow hn hi
      rw [← hpe] at hmin
      clear hw hp hpe h00 q4 h0 h
      go_enter Tryz.func116, Tryz.ntmps116
      go_wp2_with (first
        | (rw [hw0.out])
        | (go_at_call 143; (refine hmin.mono ?_); rintro e w1 ⟨rfl, g1⟩; have hb1 := bx_below hb g1)
        | (with_reducible refine wpList_storeR rowW rfl _ _ rfl _ _ rfl rfl hb1 rfl rfl (wt_ones _) ?_))
      exact bodyPost_ret (v := .agg (wtV p)) (results_row rowW rfl _ _ _ rfl (setRow_heap _ _ _ _ _ _ hb1) rfl) rfl ⟨rfl, below_setRow (bstep gg g1) (Nat.le_refl _) _⟩
    · have hpe : (x :: l).find? (fun q => decide (q.2 = m.wire)) = some p := by unfold beM at hp; rw [hw] at hp; simp only [h00, if_false] at hp; exact hp
      rw [← hw] at hpe
      obtain ⟨k, hk⟩ := find_fi hpe
      obtain ⟨hk1, hk2, hk3⟩ := hk
      obtain ⟨gb, off, ha, hgb, hr⟩ := (h.row.rk enW_k).range hk1
      subst ha
      have hkl : (k : Int) < (m.ws.length : Int) := by have := (List.getElem?_eq_some_iff.1 hk1).1; omega
      have hne : ((m.wire : Int) != 0) = true := by rw [bne_iff_ne]; omega
      have hd1 : Below w0.heap.size w0 w0.drew := (Below.refl _ _).drew
      have hd0 : Below w.heap.size w w0.drew := gg.drew
      have hfd := fun w1 (g1 : Below w0.heap.size w0 w1) => mfind_any (h0.below g1) (m.wire : Int)
      rw [hk3] at hfd
      clear hw hp hpe hk3 hk1 hk2
      have H0 := hid h00; clear h00
      go_enter Tryz.func116, Tryz.ntmps116
      go_wp2_with (rw [hw0.out])
      clear q0 q1 q2 q3 q4 q5 hw0
      go_region_held3 (fun w' => w'.cell? ⟨g, 3, none⟩ = some (.slice (some ⟨gb, off, none⟩) m.ws.length c) ∧ w'.cell? ⟨g, 4, none⟩ = some (.int .i64 (m.wire : Int)) ∧
        w'.cell? ⟨gb, off + k * 6, none⟩ = some (.int .u32 (p.1.1.id : Int)) ∧ w'.cell? ⟨gb, off + k * 6 + 1, none⟩ = some (.bool p.1.1.ext) ∧ w'.cell? ⟨gb, off + k * 6 + 2, none⟩ = some (.bool p.1.1.rem) ∧ w'.cell? ⟨gb, off + k * 6 + 3, none⟩ = some (.int .u8 (p.1.1.dlc : Int)) ∧ w'.cell? ⟨gb, off + k * 6 + 4, none⟩ = some (.slice p.1.2.1 p.1.1.data.length p.1.2.2) ∧ w'.cell? ⟨gb, off + k * 6 + 5, none⟩ = some (.int .i64 (p.2 : Int)) ∧ Below w.heap.size w w')
        (first
          | with_reducible exact heldM h hgb hr hd0
          | with_reducible exact heldM h hgb hr gg5
          | with_reducible exact heldM h hgb hr (set6_below gg5 (Nat.le_refl _) _ _ _ _ _ _))
        (first
          | (go_simp; go_at_call 78; refine Calls.mono (hfd w0.drew hd1) ?_; rintro e w5 ⟨rfl, g5⟩; have g15 : Below w0.heap.size w0 w5 := hd1.trans g5; have hb5 := bx_below hb g15; have hf5 := bx_thaw hb5; have gg5 := bstep gg g15; obtain ⟨c0, c1, c2, c3, c4, c5⟩ := bx6 hb5))
      all_goals
        go_wp2
        exact bodyPost_ret (v := .agg (wtV p)) (results_row rowW rfl _ _ _ rfl (set6_same hb5 _ _ _ _ _ _) rfl) rfl ⟨rfl, set6_below gg5 (Nat.le_refl _) _ _ _ _ _ _⟩
end Go.Proofs.YtajdbimdiodalaaGreat

namespace Go.Proofs.YtajdbimdiodalaaGreat
open Go.RowKit Go.Sort
set_option linter.unusedVariables false

theorem run_clearW (w : World) (ty : TypeId) (b o c : Nat) (hc : ∀ j, j < 6 → (w.cell? ⟨b, o + j, none⟩).isSome = true) (hf : ∀ j, j < 6 → w.frozen? ⟨b, o + j, none⟩ = false) :
    (Builtin.clear_ #[136] ty #[.slice (some ⟨b, o, none⟩) 1 c]).run Tryz.prog w = .ok (.tuple #[]) (w.setCells b o (enW w0W)) := by
  obtain ⟨i, hi, hz0, hz1, hz2⟩ := info_parts elW.info
  have hst := run_storeCells_cells (P := Tryz.prog) b o (enW w0W) 0 w (by simpa [enW, w0W] using hc) (by simpa [enW, w0W] using hf) (fun v hv => enW_k.one _ v hv)
  simp only [Nat.add_zero] at hst
  have hzc : (Builtin.zeroCells (Value.agg wtZ).cells 1).toList = enW w0W := by kernel_rfl
  simp [Builtin.clear_, run_underlying elW.und, zeroValue, typeInfo, hi, hz0, hzc, hst]

theorem flat_take {α : Type} {enc : α → List Value} {k : Nat} (hk : EnK enc k) (l : List α) (i : Nat) (hi : i ≤ l.length) : (l.flatMap enc).take (i * k) = (l.take i).flatMap enc := by
  have h1 : l.flatMap enc = (l.take i).flatMap enc ++ (l.drop i).flatMap enc := by rw [← List.flatMap_append, List.take_append_drop]
  have h2 : ((l.take i).flatMap enc).length = i * k := by rw [flat_len hk, List.length_take, Nat.min_eq_left hi]
  rw [h1, ← h2, List.take_left]

theorem del_list {cur : List Value} {ws : List Wt} {n c k : Nat} (hl : ws.length = n) (hk : k < n) (hnc : n ≤ c) (hcl : cur.length = c * 6) (ht : cur.take (n * 6) = ws.flatMap enW) (Z : List Value) (rest : List Value) :
    ((cur.take (k * 6) ++ (ws.drop (k + 1)).flatMap enW ++ rest).take ((n - 1) * 6) ++ Z).take ((n - 1) * 6) = (ws.take k ++ ws.drop (k + 1)).flatMap enW := by
  have h1 : cur.take (k * 6) = (ws.take k).flatMap enW := by
    rw [← flat_take enW_k ws k (by omega), ← ht, List.take_take, Nat.min_eq_left (by omega)]
  have h2 : ((ws.take k ++ ws.drop (k + 1)).flatMap enW).length = (n - 1) * 6 := by
    rw [flat_len enW_k, List.length_append, List.length_take, List.length_drop, hl, Nat.min_eq_left (by omega)]; omega
  rw [h1, ← List.flatMap_append, List.take_append_of_le_length (by rw [List.length_take, List.length_append, h2]; omega), ← h2, List.take_left, List.take_of_length_le (Nat.le_refl _)]

set_option maxRecDepth 100000 in
set_option maxHeartbeats 4000000 in
theorem delete_any (w : World) (B : Nat) (g n c : Nat) (ws : List Wt) (k : Nat) (hk : k < n) (hO : OK enW 6 164 B w (some ⟨g, 0, none⟩) n c ws) (hn : n ≤ 100000) :
    Calls Tryz.prog 126 #[.slice (some ⟨g, 0, none⟩) n c, .int .i64 (k : Int), .int .i64 ((k : Int) + 1)] w fun e w' => e = .returned (.slice (some ⟨g, 0, none⟩) (n - 1) c) ∧ OK enW 6 164 B w' (some ⟨g, 0, none⟩) (n - 1) c (ws.take k ++ ws.drop (k + 1)) ∧ Wr g w w' := by
  have hcap := hO.cap
  have hlen := hO.len
  rcases hO.ex with ⟨h0, _⟩ | ⟨g', cur, hg, hBg, hh, hcs, htk, hcm⟩
  · cases h0
  simp only [Option.some.injEq, Addr.mk.injEq, and_true] at hg
  subst hg
  -- the cells that are moved to the left
  obtain ⟨news, hnews⟩ : ∃ news, news = (ws.drop (k + 1)).flatMap enW := ⟨_, rfl⟩
  have hnl : news.length = (n - (k + 1)) * 6 := by rw [hnews, flat_len enW_k, List.length_drop, hlen]
  have hone : Hid (∀ u ∈ news, u.oneCell' = true) := by rw [hnews]; exact flat_one enW_k _
  have hcell : ∀ p, p < c * 6 → (w.cell? ⟨g, p, none⟩).isSome = true ∧ w.frozen? ⟨g, p, none⟩ = false := fun p hp => by
    refine ⟨?_, frozen_of_row w g p _ _ hh⟩
    rw [cell_of_row w g p _ _ _ hh, Array.getElem?_eq_getElem (by omega)]; rfl
  obtain ⟨A, hA, hsrc⟩ : ∃ A : Addr, (if c = k + 1 then some (⟨g, 0, none⟩ : Addr) else some ⟨g, (k + 1) * 6, none⟩) = some A ∧ Hid (∀ t u, news[t]? = some u → w.drew.cell? (A.add t) = some u) := by
    by_cases h : c = k + 1
    · refine ⟨⟨g, 0, none⟩, by simp [h], fun t u hu => ?_⟩
      have h0 : news.length = 0 := by rw [hnl]; omega
      rw [List.length_eq_zero_iff.1 h0] at hu
      simp at hu
    · refine ⟨⟨g, (k + 1) * 6, none⟩, by simp [h], fun t u hu => ?_⟩
      rw [hnews] at hu
      obtain ⟨i, j, x, h1, h2, h3⟩ := flat_back enW_k _ t u hu
      rw [List.getElem?_drop] at h1
      have := hO.range enW_k h1
      rw [Addr.add_lit]
      have h4 := this j u h2
      show w.cell? _ = _
      rw [← h4]; congr 2; omega
  have s1 : Hid (news.length = (n - (k + 1)) * 6) := hnl
  have s3 : Hid (∀ t, t < news.length → (w.drew.cell? ⟨g, 0 + k * 6 + t, none⟩).isSome = true ∧ w.drew.frozen? ⟨g, 0 + k * 6 + t, none⟩ = false) := fun t ht => by
    have := hcell (0 + k * 6 + t) (by rw [hnl] at ht; omega)
    exact this
  obtain ⟨W1, hW1⟩ : ∃ W1, W1 = w.drew.setCells g (0 + k * 6) news := ⟨_, rfl⟩
  have hW : Hid (W1 = w.drew.setCells g (0 + k * 6) news) := hW1
  have hkc : k ≤ c := by omega
  have hkc1 : k + 1 ≤ c := by omega
  have hi1 : 0 ≤ (k : Int) + 1 := by omega
  have hi2 : (k : Int) + 1 ≤ (n : Int) := by omega
  obtain ⟨i0, hi0, hz0, hz1, hz2⟩ := info_parts elW.info
  have hh1 : W1.heap[g]? = some (.cells (wrC cur (0 + k * 6) news) 164 (0, 0)) := by rw [hW1]; exact heap_setCells_same g _ news _ w.drew cur hh
  have hs1 : (wrC cur (0 + k * 6) news).size = c * 6 := by rw [wrC_size, hcs]
  have hcl : ∀ ty, (Builtin.clear_ #[136] ty #[.slice (some ⟨g, (k + (n - (k + 1))) * 6, none⟩) (n - (k + (n - (k + 1)))) (c - (k + (n - (k + 1))))]).run Tryz.prog W1 = .ok (.tuple #[]) (W1.setCells g ((k + (n - (k + 1))) * 6) (enW w0W)) := fun ty => by
    rw [show n - (k + (n - (k + 1))) = 1 by omega]
    refine run_clearW W1 ty g _ _ (fun j hj => ?_) (fun j hj => frozen_of_row W1 g _ _ _ hh1)
    rw [cell_of_row W1 g _ _ _ _ hh1, Array.getElem?_eq_getElem (by rw [hs1]; omega)]; rfl
  obtain ⟨W2, hW2⟩ : ∃ W2, W2 = W1.setCells g ((k + (n - (k + 1))) * 6) (enW w0W) := ⟨_, rfl⟩
  rw [← hW2] at hcl
  have hh2 : W2.heap[g]? = some (.cells (wrC (wrC cur (0 + k * 6) news) ((k + (n - (k + 1))) * 6) (enW w0W)) 164 (0, 0)) := by rw [hW2]; exact heap_setCells_same g _ _ _ W1 _ hh1
  have hwr : Wr g w W2 := by
    have h1 : Wr g w.drew W1 := by rw [hW1]; exact wr_setCells g news _ _
    have h2 : Wr g W1 W2 := by rw [hW2]; exact wr_setCells g _ _ _
    exact ((Wr.refl g w).drew.trans h1).trans h2
  have hfin : OK enW 6 164 B W2 (some ⟨g, 0, none⟩) (n - 1) c (ws.take k ++ ws.drop (k + 1)) := by
    refine ⟨by rw [List.length_append, List.length_take, List.length_drop, hlen, Nat.min_eq_left (by omega)]; omega, by omega, ?_⟩
    refine ⟨by rw [flat_len enW_k, List.length_append, List.length_take, List.length_drop, hlen, Nat.min_eq_left (by omega)]; omega, .inr ⟨g, c, _, rfl, hBg, hh2, by omega, hcm, by rw [wrC_size, hs1], ?_⟩⟩
    have e1 : (k + (n - (k + 1))) * 6 = (n - 1) * 6 := by omega
    have e2 : (enW w0W).length = 6 := rfl
    rw [wrC_list _ _ _ (by rw [hs1, e2]; omega), wrC_list _ _ _ (by rw [hnl, hcs]; omega), e1, Nat.zero_add, hnews, List.append_assoc]
    exact del_list hlen hk hcap (by rw [Array.length_toList, hcs]) htk _ _
  have HF := hid hfin
  have HW := hid hwr
  have hi3 : (k : Int) + ((n - (k + 1) : Nat) : Int) ≤ (n : Int) := by omega
  clear hW1 hnews hnl hO hlen htk hcm hcs hh hcell hh1 hs1 hh2 hwr hfin hW2
  go_enter Tryz.func126, Tryz.ntmps126
  go_wp2_with fail
  go_region_law (refine step_append_room rfl (.tmp 22) (.tmp 25) 136 rfl 164 i0 6 elW.und hi0 hz1 g 0 k c (by simp [Act.eval, Act.put]) A (n - (k + 1)) (c - (k + 1)) news (by simp [Act.eval, Act.put]) s1.out hsrc.out hone.out (by omega) s3.out ?_; rw [← hW.out])
  go_wp2
  go_ret
  exact ⟨by rw [show n - 1 = k + (n - (k + 1)) by omega]; rfl, HF.out, HW.out⟩
end Go.Proofs.YtajdbimdiodalaaGreat

namespace Go.Proofs.YtajdbimdiodalaaGreat
open Go.RowKit Go.Sort
set_option linter.unusedVariables false

section
variable {B : Nat} {w w1 : World} {g : Nat} {m : Ml} {a : Option Addr} {c : Nat} {S : Nat → Prop}

theorem MlO.thaw (h : MlO B w g m a c S) (i : Nat) : w.frozen? ⟨g, i, none⟩ = false := bx_thaw h.box i

/-- One cell of a mail's box, stored. -/
theorem MlO.cell (h : MlO B w g m a c S) (i : Nat) (v : Value) (m' : Ml) (hc : (mlV g m a c).setIfInBounds i v = mlV g m' a c) (hw : m'.ws = m.ws) (hr : m'.room = m.room) (hp : m'.puts < 4611686018427387904) (hwi : m'.wire < 4611686018427387904) :
    MlO B (w.setCell ⟨g, i, none⟩ v) g m' a c S := by
  have k : Ch S w (w.setCell ⟨g, i, none⟩ v) := (Ch.refl S w).setCell (p := ⟨g, i, none⟩) (.inl h.sg) v
  have e : ∀ b, b ≠ g → (w.setCell ⟨g, i, none⟩ v).heap[b]? = w.heap[b]? := fun b hb => Below.heap_setCell _ _ _ _ hb
  refine ⟨?_, ?_, ?_, h.hB, h.sg, h.sr, by rw [hw]; exact h.sd, h.sB, h.ng, by rw [hw]; exact h.nd, by rw [hr]; exact h.rm, by rw [hw, hr]; exact h.le, hp, hwi, fun q hq => Nat.lt_of_lt_of_le (h.sL q hq) k.size⟩
  · rw [heap_setCell_same w g i _ _ v h.box, hc]
  · rw [hw]; exact h.row.kept fun b hb => e b (by have := h.ng; subst hb; exact this.block)
  · rw [hw]
    exact fun p hp' => ⟨(h.wt p hp').dat.ch (S := fun b => b = g) (Ch.setCell (S := fun b => b = g) (Ch.refl _ w) (p := ⟨g, i, none⟩) (.inl rfl) v) (fun q hq e => (h.nd p hp').1 q hq e), (h.wt p hp').id, (h.wt p hp').dl, (h.wt p hp').len, (h.wt p hp').num⟩

theorem rm_len {n : Nat} {ws : List Wt} (h : ∃ p ∈ ws, p.2 = n) : (rmW n ws).length + 1 = ws.length := by
  obtain ⟨p, hp, he⟩ := h
  unfold rmW
  have := List.length_eraseP_of_mem (p := fun q => decide (q.2 = n)) hp (by simpa using he)
  have h0 : 0 < ws.length := List.length_pos_of_mem hp
  omega
theorem rm_sub {n : Nat} {ws : List Wt} : ∀ p ∈ rmW n ws, p ∈ ws := fun p hp => List.mem_of_mem_eraseP hp

set_option maxRecDepth 100000 in
set_option maxHeartbeats 4000000 in
theorem remove_any (h : MlO B w g m a c S) (N : Nat) (hN : ∃ p ∈ m.ws, p.2 = N) :
    Calls Tryz.prog 89 #[.pointer (some ⟨g, 0, none⟩), .int .i64 (N : Int)] w fun e w' => e = .returned (.tuple #[]) ∧ MlO B w' g { m with ws := rmW N m.ws } a c S ∧ Ch S w w' := by
  obtain ⟨k, p, hk, hp, hf, hlo⟩ : ∃ (k : Nat) (p : Wt), m.ws[k]? = some p ∧ p.2 = N ∧ fiW (N : Int) m.ws = (k : Int) ∧ ∀ (j : Nat) (q : Wt), j < k → m.ws[j]? = some q → q.2 ≠ N := by
    obtain ⟨p, hp, he⟩ := hN
    rcases fiW_or (N : Int) m.ws with ⟨_, h2⟩ | ⟨k, q, h1, h2, h3, h4⟩
    · exact absurd (by omega) (h2 p hp)
    · exact ⟨k, q, h1, by omega, h3, fun j q hj hq e => h4 j q hj hq (by omega)⟩
  have hfd := mfind_any h (N : Int)
  rw [hf] at hfd
  have hrm := rmW_at hk hp hlo
  have hkl := (List.getElem?_eq_some_iff.1 hk).1
  obtain ⟨gr, hgr, hgB, hgl⟩ := h.row.addr (by omega)
  have hng : gr ≠ g := by have := h.ng; subst hgr; exact this.block
  have hn : m.ws.length ≤ 100000 := by have := h.rm; have := h.le; omega
  have hl1 := rm_len hN
  clear hf hk hp hlo
  subst hgr
  go_enter Tryz.func89, Tryz.ntmps89
  go_wp2_with (first
    | (go_at_call 78; (refine hfd.mono ?_); rintro e w1 ⟨rfl, g1⟩
       have h1 := h.below g1
       have q3 := (bx6 h1.box).2.2.2.1
       have hz := h1.thaw 3)
    | (go_at_call 126; (refine (delete_any _ B gr m.ws.length c m.ws k hkl h1.row hn).mono ?_); rintro e w2 ⟨rfl, o2, r2⟩
       have hb2 : w2.heap[g]? = some (.cells (mlV g m (some ⟨gr, 0, none⟩) c) 138 (0, 0)) := (r2.block g h1.lt (Ne.symm hng)).trans h1.box
       have hz2 := bx_thaw hb2
       have q32 := (bx6 hb2).2.2.2.1))
  have hb3 : (w2.setCell ⟨g, 3, none⟩ (.slice (some ⟨gr, 0, none⟩) (m.ws.length - 1) c)).heap[g]? = some (.cells (mlV g { m with ws := rmW N m.ws } (some ⟨gr, 0, none⟩) c) 138 (0, 0)) := by
    rw [heap_setCell_same w2 g 3 _ _ _ hb2]
    show some (Obj.cells #[_, _, _, Value.slice _ (m.ws.length - 1) c, _, _] _ _) = some (Obj.cells #[_, _, _, Value.slice _ (rmW N m.ws).length c, _, _] _ _)
    rw [show m.ws.length - 1 = (rmW N m.ws).length by omega]
  have hch : Ch S w (w2.setCell ⟨g, 3, none⟩ (.slice (some ⟨gr, 0, none⟩) (m.ws.length - 1) c)) := by
    have k1 : Ch S w1 w2 := ⟨r2.os, r2.tape, r2.output, r2.size, fun b hb hs => r2.block b hb (fun e => hs (by rw [e]; exact h.sr _ rfl))⟩
    exact (((Ch.refl S w).call g1).trans k1 (fun b hb => .inl hb)).setCell (p := ⟨g, 3, none⟩) (.inl h.sg) _
  have hrow : OK enW 6 164 B (w2.setCell ⟨g, 3, none⟩ (.slice (some ⟨gr, 0, none⟩) (m.ws.length - 1) c)) (some ⟨gr, 0, none⟩) (rmW N m.ws).length c (rmW N m.ws) := by
    rw [hrm, show (m.ws.take k ++ m.ws.drop (k + 1)).length = m.ws.length - 1 by rw [← hrm]; omega]
    exact o2.kept fun b hb => Below.heap_setCell _ _ _ _ (by cases hb; exact hng)
  have hwt : ∀ p ∈ rmW N m.ws, WtR (w2.setCell ⟨g, 3, none⟩ (.slice (some ⟨gr, 0, none⟩) (m.ws.length - 1) c)) p := fun p hp => by
    have hm := rm_sub p hp
    have hd := h1.nd p hm
    have hw2 : WtR w2 p := (h1.wt p hm).ch (S := fun b => b = gr) ⟨r2.os, r2.tape, r2.output, r2.size, fun b hb hs => r2.block b hb hs⟩ (fun q hq e => hd.2 _ rfl q hq e)
    exact hw2.ch (S := fun b => b = g) (Ch.setCell (S := fun b => b = g) (Ch.refl _ w2) (p := ⟨g, 3, none⟩) (.inl rfl) _) (fun q hq e => hd.1 q hq e)
  exact bodyPost_end (v := .tuple #[]) (by simp [results, Tryz.results89, go_sem]) rfl ⟨rfl, ⟨hb3, hrow, hwt, h.hB, h.sg, h.sr, fun p hp => h.sd p (rm_sub p hp), h.sB, h.ng, fun p hp => h.nd p (rm_sub p hp), h.rm, by show (rmW N m.ws).length ≤ m.room; have := h.le; omega, h.pu, h.wi, fun q hq => Nat.lt_of_lt_of_le (h.sL q hq) hch.size⟩, hch⟩
end
end Go.Proofs.YtajdbimdiodalaaGreat

namespace Go.Proofs.YtajdbimdiodalaaGreat
open Go.RowKit Go.Sort
set_option linter.unusedVariables false

/-- Does a number wait? -/
def hasW (n : Int) (ws : List Wt) : Bool := decide (0 ≤ fiW n ws)
theorem hasW_yes {n : Int} {ws : List Wt} (h : hasW n ws = true) : ∃ p ∈ ws, (p.2 : Int) = n := by
  rcases fiW_or n ws with ⟨h1, _⟩ | ⟨k, p, h1, h2, _, _⟩
  · unfold hasW at h; rw [h1] at h; simp at h
  · exact ⟨p, List.mem_of_getElem? h1, h2⟩
section
variable {B : Nat} {w w1 : World} {g : Nat} {m : Ml} {a : Option Addr} {c : Nat} {S : Nat → Prop}

/-- What is left behind a method that keeps the row's place. -/
def Mle (B : Nat) (w : World) (g : Nat) (m' : Ml) (a : Option Addr) (c : Nat) (S : Nat → Prop) (w' : World) : Prop := MlO B w' g m' a c S ∧ Ch S w w'

/-- The mail as free leaves it. -/
def frM (m : Ml) : Ml := { m with wire := 0, ab := false }

set_option maxRecDepth 100000 in
theorem free_any (h : MlO B w g m a c S) :
    Calls Tryz.prog 90 #[.pointer (some ⟨g, 0, none⟩)] w fun e w' => e = .returned (.tuple #[]) ∧ Mle B w g (frM m) a c S w' := by
  have q4 := (bx6 h.box).2.2.2.2.1
  have q5 := (bx6 h.box).2.2.2.2.2
  have hf := h.thaw
  go_enter Tryz.func90, Tryz.ntmps90
  go_wp2
  have h1 := h.cell 4 (.int .i64 0) { m with wire := 0 } rfl rfl rfl h.pu (by show 0 < _; omega)
  have h2 := h1.cell 5 (.bool false) (frM m) rfl rfl rfl h.pu (by show 0 < _; omega)
  exact bodyPost_end (v := .tuple #[]) (by simp [results, Tryz.results90, go_sem]) rfl ⟨rfl, h2, ((Ch.refl S w).setCell (p := ⟨g, 4, none⟩) (.inl h.sg) _).setCell (p := ⟨g, 5, none⟩) (.inl h.sg) _⟩

set_option maxRecDepth 100000 in
theorem mlen_any (h : MlO B w g m a c S) :
    Calls Tryz.prog 47 #[.pointer (some ⟨g, 0, none⟩)] w fun e w' => e = .returned (.int .i64 (m.ws.length : Int)) ∧ w = w' := by
  have q3 := (bx6 h.box).2.2.2.1
  have hm := mlMade_any h
  go_enter Tryz.func47, Tryz.ntmps47
  go_wp2_with (go_at_call 76; (refine hm.mono ?_); rintro e w1 ⟨rfl, rfl⟩)
  go_ret
  exact ⟨rfl, rfl⟩

set_option maxRecDepth 100000 in
theorem waits_any (h : MlO B w g m a c S) (N : Int) :
    Calls Tryz.prog 50 #[.pointer (some ⟨g, 0, none⟩), .int .i64 N] w fun e w' => e = .returned (.bool (hasW N m.ws)) ∧ Below w.heap.size w w' := by
  have hm := mlMade_any h
  have hf := mfind_any h N
  unfold hasW
  generalize fiW N m.ws = z at *
  go_enter Tryz.func50, Tryz.ntmps50
  go_wp2_with (first
    | (go_at_call 76; (refine hm.mono ?_); rintro e w1 ⟨rfl, rfl⟩)
    | (go_at_call 78; (refine hf.mono ?_); rintro e w1 ⟨rfl, g1⟩))
  go_ret
  exact ⟨rfl, g1⟩
end
end Go.Proofs.YtajdbimdiodalaaGreat

namespace Go.Proofs.YtajdbimdiodalaaGreat
open Go.RowKit Go.Sort
set_option linter.unusedVariables false

/-- The mail behind Lost, Sent, Start, Abort. -/
def rmM (n : Nat) (m : Ml) : Ml := { m with ws := rmW n m.ws }
def loM (m : Ml) : Ml := if m.ab then frM (rmM m.wire m) else frM m
def seM (m : Ml) : Ml := if m.wire = 0 then m else frM (rmM m.wire m)
section
variable {B : Nat} {w w1 w2 w3 : World} {g : Nat} {m m1 m2 : Ml} {a : Option Addr} {c : Nat} {S : Nat → Prop}

theorem Mle.refl (h : MlO B w g m a c S) : Mle B w g m a c S w := ⟨h, Ch.refl S w⟩
theorem Mle.call (h : Mle B w g m a c S w1) (k : Below w1.heap.size w1 w2) : Mle B w g m a c S w2 := ⟨h.1.below k, h.2.call k⟩
theorem Mle.trans (h : Mle B w g m a c S w1) (k : Mle B w1 g m1 a c S w2) : Mle B w g m1 a c S w2 := ⟨k.1, h.2.trans k.2 fun b hb => .inl hb⟩

set_option maxRecDepth 100000 in
set_option maxHeartbeats 1000000 in
theorem lost_any (h : MlO B w g m a c S) (hI : MlI m) :
    Calls Tryz.prog 83 #[.pointer (some ⟨g, 0, none⟩)] w fun e w' => e = .returned (.tuple #[]) ∧ Mle B w g (loM m) a c S w' := by
  have q4 := (bx6 h.box).2.2.2.2.1
  have q5 := (bx6 h.box).2.2.2.2.2
  have hm := mlMade_any h
  cases hab : m.ab
  · have hF : loM m = frM m := by unfold loM; rw [hab]; rfl
    rw [hF]; clear hF
    rw [hab] at q5
    have hf := free_any h
    clear hab
    go_enter Tryz.func83, Tryz.ntmps83
    go_wp2_with (first
      | (go_at_call 76; (refine hm.mono ?_); rintro e w1 ⟨rfl, rfl⟩)
      | (go_at_call 90; (refine hf.mono ?_); rintro e w1 ⟨rfl, o1⟩))
    exact bodyPost_end (v := .tuple #[]) (by simp [results, Tryz.results83, go_sem]) rfl ⟨rfl, o1⟩
  · have hF : loM m = frM (rmM m.wire m) := by unfold loM; rw [hab]; rfl
    rw [hF]; clear hF
    rw [hab] at q5
    have hN : ∃ p ∈ m.ws, p.2 = m.wire := hI.wr.resolve_left (hI.aw hab)
    have hr := remove_any h m.wire hN
    clear hab hN
    go_enter Tryz.func83, Tryz.ntmps83
    go_wp2_with (first
      | (go_at_call 76; (refine hm.mono ?_); rintro e w1 ⟨rfl, rfl⟩)
      | (go_at_call 89; (refine hr.mono ?_); rintro e w1 ⟨rfl, o1, k1⟩)
      | (go_at_call 90; (refine (free_any o1).mono ?_); rintro e w2 ⟨rfl, o2, k2⟩))
    exact bodyPost_end (v := .tuple #[]) (by simp [results, Tryz.results83, go_sem]) rfl ⟨rfl, o2, k1.trans k2 fun b hb => .inl hb⟩

set_option maxRecDepth 100000 in
set_option maxHeartbeats 1000000 in
theorem sent_any (h : MlO B w g m a c S) (hI : MlI m) :
    Calls Tryz.prog 60 #[.pointer (some ⟨g, 0, none⟩)] w fun e w' => e = .returned (.tuple #[.int .i64 (m.wire : Int), .bool (decide (m.wire ≠ 0))]) ∧ Mle B w g (seM m) a c S w' := by
  have q4 := (bx6 h.box).2.2.2.2.1
  have hm := mlMade_any h
  by_cases h0 : m.wire = 0
  · have hF : seM m = m := by unfold seM; rw [if_pos h0]
    rw [hF, h0]; clear hF
    rw [h0] at q4
    go_enter Tryz.func60, Tryz.ntmps60
    go_wp2_with (go_at_call 76; (refine hm.mono ?_); rintro e w1 ⟨rfl, rfl⟩)
    go_ret2
    exact ⟨rfl, Mle.refl h⟩
  · have hF : seM m = frM (rmM m.wire m) := by unfold seM; rw [if_neg h0]
    rw [hF, show decide (m.wire ≠ 0) = true by simpa using h0]; clear hF
    have hN : ∃ p ∈ m.ws, p.2 = m.wire := hI.wr.resolve_left h0
    have hr := remove_any h m.wire hN
    have hne : ((m.wire : Int) == 0) = false := by rw [beq_eq_false_iff_ne]; omega
    clear hN h0
    go_enter Tryz.func60, Tryz.ntmps60
    go_wp2_with (first
      | (go_at_call 76; (refine hm.mono ?_); rintro e w1 ⟨rfl, rfl⟩)
      | (go_at_call 89; (refine hr.mono ?_); rintro e w1 ⟨rfl, o1, k1⟩)
      | (go_at_call 90; (refine (free_any o1).mono ?_); rintro e w2 ⟨rfl, o2, k2⟩))
    go_ret2
    exact ⟨rfl, o2, k1.trans k2 fun b hb => .inl hb⟩

set_option maxRecDepth 100000 in
set_option maxHeartbeats 1000000 in
theorem start_no (h : MlO B w g m a c S) (h0 : m.ws = []) :
    Calls Tryz.prog 84 #[.pointer (some ⟨g, 0, none⟩)] w fun e w' => e = .returned (.tuple #[.int .i64 0, .bool false]) ∧ w = w' := by
  have q3 := (bx6 h.box).2.2.2.1
  have hm := mlMade_any h
  rw [h0] at q3
  clear h0
  go_enter Tryz.func84, Tryz.ntmps84
  go_wp2_with (go_at_call 76; (refine hm.mono ?_); rintro e w1 ⟨rfl, rfl⟩)
  go_ret2
  exact ⟨rfl, rfl⟩

theorem fieldW (v0 v1 v2 v3 v4 v5 : Value) (w : World) : (Instr.field 164 (.agg #[v0, v1, v2, v3, v4, v5]) 1).run Tryz.prog w = .ok v5 w := by kernel_rfl
theorem beM_num {m : Ml} {p : Wt} (h : beM m = some p) : p ∈ m.ws := by
  unfold beM at h
  cases hw : m.ws with
  | nil => rw [hw] at h; cases h
  | cons x l =>
    rw [hw] at h
    simp only at h
    split at h
    · simp only [Option.some.injEq] at h
      rcases miW_mem l x with e | e
      · rw [← h, e]; simp
      · rw [← h]; simp [e]
    · exact List.mem_of_find?_eq_some h

set_option maxRecDepth 100000 in
set_option maxHeartbeats 1000000 in
theorem start_any (h : MlO B w g m a c S) (p : Wt) (hp : beM m = some p) :
    Calls Tryz.prog 84 #[.pointer (some ⟨g, 0, none⟩)] w fun e w' => e = .returned (.tuple #[.int .i64 (p.2 : Int), .bool true]) ∧ Mle B w g { m with wire := p.2 } a c S w' := by
  have q3 := (bx6 h.box).2.2.2.1
  have hm := mlMade_any h
  have hmem := beM_num hp
  have hl := List.length_pos_of_mem hmem
  have hne : ((m.ws.length : Int) == 0) = false := by rw [beq_eq_false_iff_ne]; omega
  have hf := first_any h p hp
  have hpn := (h.wt p hmem).num
  have hfw := fun v0 v1 v2 v3 v4 v5 w => fieldW v0 v1 v2 v3 v4 v5 w
  clear hp
  go_enter Tryz.func84, Tryz.ntmps84
  go_wp2_with (first
    | (go_at_call 76; (refine hm.mono ?_); rintro e w1 ⟨rfl, rfl⟩)
    | (go_at_call 116; (refine hf.mono ?_); rintro e w1 ⟨rfl, g1⟩
       have h1 := h.below g1
       have hz := h1.thaw
       have h2 := h1.cell 4 (.int .i64 (p.2 : Int)) { m with wire := p.2 } rfl rfl rfl h.pu hpn
       have q4 := (bx6 h1.box).2.2.2.2.1))
  go_ret2
  exact ⟨rfl, h2, ((Ch.refl S w).call g1).setCell (p := ⟨g, 4, none⟩) (.inl h.sg) _⟩
end
end Go.Proofs.YtajdbimdiodalaaGreat
