/-
  The statements' own controller that samples what it drives (hears).
  Plain mathematics of layer 8: flags and what comes behind them, the tail of a frame, a sender that fails. Nothing of the program is spoken of here.
  Plain mathematics of layer 8: one bit turned about in the tail of a frame, or behind arbitration; a sender that nobody hears. Nothing of the program is spoken of here.
  Plain mathematics of layer 8: the chapter's examples.
-/
import Derived.Test.YtgpmhmdofefdcaaGreatB8u
import Derived.Deep.LoopGhost
import Derived.Deep.Light
import Derived.Deep.DeepCutAuto
import Derived.Test.YtgpmhmdofefdcaaGreatM8
namespace Go.Proofs.YtgpmhmdofefdcaaGreat
open Go.RowKit Go.Sort
set_option linter.unusedVariables false

/-- What it samples. -/
def heB (c : Ct) (ack : Bool) : Bool := if c.ph = 1 ∧ c.sends = true ∧ c.pos + 9 = c.wire.length then ack else dvC c
/-- A controller that samples what it drives, behind so many bits, and what happened last. -/
def heC (c : Ct) (ack : Bool) : Nat → Ct × Nat
  | 0 => (c, 0)
  | n + 1 => ((stC (heC c ack n).1 (heB (heC c ack n).1 ack)).1, (stC (heC c ack n).1 (heB (heC c ack n).1 ack)).2.1)

/-- Behind a step: a box for the controller, one for what happened, both new. -/
structure Two8 (w1 : World) (r : Ct × Hp) (s : Sl) (a : Option Addr) (n : Nat) : Prop where
  z : (w1.alloc (.cells ctZ 54)).heap[w1.heap.size]? = some (.cells ctZ 54 (0, 0))
  z1 : ((w1.alloc (.cells ctZ 54)).alloc (.cells hap0 63)).heap[w1.heap.size]? = some (.cells ctZ 54 (0, 0))
  h1 : (((w1.alloc (.cells ctZ 54)).alloc (.cells hap0 63)).setRow w1.heap.size (ctA r.1 s)).heap[w1.heap.size + 1]? = some (.cells hap0 63 (0, 0))
  c2 : ((((w1.alloc (.cells ctZ 54)).alloc (.cells hap0 63)).setRow w1.heap.size (ctA r.1 s)).setRow (w1.heap.size + 1) (hapA r.2 a n)).heap[w1.heap.size]? = some (.cells (ctA r.1 s) 54 (0, 0))
  h2 : ((((w1.alloc (.cells ctZ 54)).alloc (.cells hap0 63)).setRow w1.heap.size (ctA r.1 s)).setRow (w1.heap.size + 1) (hapA r.2 a n)).heap[w1.heap.size + 1]? = some (.cells (hapA r.2 a n) 63 (0, 0))
  b : Below w1.heap.size w1 ((((w1.alloc (.cells ctZ 54)).alloc (.cells hap0 63)).setRow w1.heap.size (ctA r.1 s)).setRow (w1.heap.size + 1) (hapA r.2 a n))

theorem two8 (w1 : World) (r : Ct × Hp) (s : Sl) (a : Option Addr) (n : Nat) : Two8 w1 r s a n := by
  have z := heap_alloc_new w1 (.cells ctZ 54)
  have z1 := bx_alloc (.cells hap0 63) z
  have k1 : ((w1.alloc (.cells ctZ 54)).alloc (.cells hap0 63)).heap[w1.heap.size + 1]? = some (.cells hap0 63 (0, 0)) := by
    have := heap_alloc_new (w1.alloc (.cells ctZ 54)) (.cells hap0 63); rwa [heap_size_alloc] at this
  have h1 := (setRow_other ((w1.alloc (.cells ctZ 54)).alloc (.cells hap0 63)) w1.heap.size (w1.heap.size + 1) (ctA r.1 s) (by omega)).trans k1
  have c1 := setRow_heap _ w1.heap.size ctZ (ctA r.1 s) 54 (0, 0) z1
  exact ⟨z, z1, h1, (setRow_other _ (w1.heap.size + 1) w1.heap.size (hapA r.2 a n) (by omega)).trans c1, setRow_heap _ _ _ _ _ _ h1, below_setRow (below_setRow (bnew (bnew0 w1 _) _) (Nat.le_refl _) _) (by omega) _⟩

end Go.Proofs.YtgpmhmdofefdcaaGreat

namespace Go.Proofs.YtgpmhmdofefdcaaGreat
set_option linter.unusedVariables false

/-- A controller in a phase that is no frame: nothing is kept but how it is trusted, what it was given, and whether it was the sender. -/
def phC (c : Ct) (ph n : Nat) (e : Bool) : Ct := ⟨ph, n, c.cf, c.has, c.give, false, c.sender, [], 0, s0, false, 0, e, false⟩

/-- An active flag (an error's, or an overload's), and what comes behind it if the bus is recessive then: the state behind j bits. -/
def flSt (c : Ct) (ph : Nat) (e : Bool) (j : Nat) : Ct :=
  if j < 6 then phC c ph j e else if j = 6 then phC c 5 0 e else if j < 14 then phC c 6 (j - 6) e else phC c 7 (j - 14) e

theorem fl_step (c : Ct) {ph : Nat} (hp : ph = 2 ∨ ph = 4) (e : Bool) {j : Nat} (hj : j < 16) : stC (flSt c ph e j) (decide (6 ≤ j)) = (flSt c ph e (j + 1), noH) ∧ dvC (flSt c ph e j) = decide (6 ≤ j) := by
  rcases hp with rfl | rfl <;>
  (match j, hj with
    | 0, _ => exact ⟨rfl, rfl⟩
    | 1, _ => exact ⟨rfl, rfl⟩
    | 2, _ => exact ⟨rfl, rfl⟩
    | 3, _ => exact ⟨rfl, rfl⟩
    | 4, _ => exact ⟨rfl, rfl⟩
    | 5, _ => exact ⟨rfl, rfl⟩
    | 6, _ => exact ⟨rfl, rfl⟩
    | 7, _ => exact ⟨rfl, rfl⟩
    | 8, _ => exact ⟨rfl, rfl⟩
    | 9, _ => exact ⟨rfl, rfl⟩
    | 10, _ => exact ⟨rfl, rfl⟩
    | 11, _ => exact ⟨rfl, rfl⟩
    | 12, _ => exact ⟨rfl, rfl⟩
    | 13, _ => exact ⟨rfl, rfl⟩
    | 14, _ => exact ⟨rfl, rfl⟩
    | 15, _ => exact ⟨rfl, rfl⟩
    | n + 16, h => exact absurd h (by omega))

/-- The third bit between. -/
theorem fl_last (c : Ct) (ph : Nat) (e : Bool) : stC (flSt c ph e 16) true = (phC c (if holdC c then 8 else 0) 0 e, noH) ∧ dvC (flSt c ph e 16) = true := ⟨rfl, rfl⟩

/-- A passive flag, when all is recessive: the state behind j bits; then eight bits more are held back. -/
def wkSt (c : Ct) (o : Bool) (j : Nat) : Ct :=
  if j = 0 then { phC c 3 0 true with owed := o } else if j < 6 then { phC c 3 j true with rl := true, owed := o } else if j = 6 then phC c 5 0 true else if j < 14 then phC c 6 (j - 6) true else if j < 17 then phC c 7 (j - 14) true else phC c 8 (j - 17) true

theorem wk_step (c : Ct) (o : Bool) {j : Nat} (hj : j < 16) : stC (wkSt c o j) true = (wkSt c o (j + 1), noH) ∧ dvC (wkSt c o j) = true := by
  cases o <;>
  (match j, hj with
    | 0, _ => exact ⟨rfl, rfl⟩
    | 1, _ => exact ⟨rfl, rfl⟩
    | 2, _ => exact ⟨rfl, rfl⟩
    | 3, _ => exact ⟨rfl, rfl⟩
    | 4, _ => exact ⟨rfl, rfl⟩
    | 5, _ => exact ⟨rfl, rfl⟩
    | 6, _ => exact ⟨rfl, rfl⟩
    | 7, _ => exact ⟨rfl, rfl⟩
    | 8, _ => exact ⟨rfl, rfl⟩
    | 9, _ => exact ⟨rfl, rfl⟩
    | 10, _ => exact ⟨rfl, rfl⟩
    | 11, _ => exact ⟨rfl, rfl⟩
    | 12, _ => exact ⟨rfl, rfl⟩
    | 13, _ => exact ⟨rfl, rfl⟩
    | 14, _ => exact ⟨rfl, rfl⟩
    | 15, _ => exact ⟨rfl, rfl⟩
    | n + 16, h => exact absurd h (by omega))

theorem wk_hold (c : Ct) (o : Bool) (h : holdC c = true) : stC (wkSt c o 16) true = (wkSt c o 17, noH) ∧ dvC (wkSt c o 16) = true := by
  refine ⟨?_, rfl⟩
  have h2 : holdC (wkSt c o 16) = true := h
  show (newC (wkSt c o 16) (if holdC (wkSt c o 16) = true then 8 else 0), noH) = _
  rw [h2]
  rfl

theorem wk_held (c : Ct) (o : Bool) {j : Nat} (h17 : 17 ≤ j) (hj : j < 24) : stC (wkSt c o j) true = (wkSt c o (j + 1), noH) ∧ dvC (wkSt c o j) = true := by
  obtain ⟨i, rfl⟩ : ∃ i, j = 17 + i := ⟨j - 17, by omega⟩
  match i, hj with
    | 0, _ => exact ⟨rfl, rfl⟩
    | 1, _ => exact ⟨rfl, rfl⟩
    | 2, _ => exact ⟨rfl, rfl⟩
    | 3, _ => exact ⟨rfl, rfl⟩
    | 4, _ => exact ⟨rfl, rfl⟩
    | 5, _ => exact ⟨rfl, rfl⟩
    | 6, _ => exact ⟨rfl, rfl⟩
    | n + 7, h => exact absurd h (by omega)

theorem wk_end (c : Ct) (o : Bool) : stC (wkSt c o 24) true = (phC c 0 0 true, noH) ∧ dvC (wkSt c o 24) = true := ⟨rfl, rfl⟩

/-- Runs are not so long that fewer than so many bits would be plain. -/
theorem putL_len1' {l : List Bool} (h : 1 ≤ l.length) : (putL l).length - l.length ≤ (l.length - 1) / 4 := by
  cases l with
  | nil => simp at h
  | cons x l =>
    have h1 : putL (x :: l) = x :: putF x 1 l := by
      unfold putL
      rw [putF]
      have e : (nxt false 0 x).1 = (x, 1) := by cases x <;> rfl
      rw [e]; simp
    rw [h1]
    have := putF_len l x 1 (by omega)
    simp only [List.length_cons]
    omega

/-- Behind forty bits of a wire more than 32 are plain. -/
theorem plain_forty {l : List Bool} {k : Nat} {s : Tk} (h : Reading l k s) (hk : 40 ≤ k) (hbn : 34 ≤ (bdL l).length) : 32 < s.l.length := by
  rcases h with h | h
  · have hp := put_at h.tk
    have hl : k ≤ (putL s.l).length := by
      rw [hp]; have := h.kl; split <;> simp <;> omega
    by_cases h0 : s.l.length = 0
    · have := (putL_len s.l).2
      omega
    · have := putL_len1' (l := s.l) (by omega)
      omega
  · rw [h.li]; omega
end Go.Proofs.YtgpmhmdofefdcaaGreat

namespace Go.Proofs.YtgpmhmdofefdcaaGreat
set_option linter.unusedVariables false

/-- The counters of a sender behind so many errors, none else. -/
def cfT (t : Int) : Cf := ⟨t, 0, false, 0, 0⟩
def cfR (r : Int) : Cf := ⟨0, r, false, 0, 0⟩

theorem mo_T {t : Int} (h0 : 0 ≤ t) (h1 : t ≤ 255) : moC (cfT t) = if t > 127 then 1 else 0 := by
  have hr : riC (cfT t) = true := by unfold riC cfT wi; simp; omega
  have ho : ¬ ((cfT t).o || !riC (cfT t)) = true := by rw [hr]; simp [cfT]
  by_cases h : t > 127
  · rw [if_pos h]
    unfold moC
    refine (if_neg ho).trans ?_
    exact if_pos (Or.inl h)
  · rw [if_neg h]
    unfold moC
    refine (if_neg ho).trans ?_
    refine if_neg (fun hh => ?_)
    rcases hh with hh | hh
    · exact h hh
    · have h0r : (cfT t).r = 0 := rfl
      rw [h0r] at hh; omega

theorem ev_T {t : Int} (h0 : 0 ≤ t) (h1 : t ≤ 247) : evC (cfT t) 5 = cfT (t + 8) := by
  have hr : riC (cfT t) = true := by unfold riC cfT wi; simp; omega
  unfold evC
  rw [hr]
  simp only [cfT, Bool.true_eq_false, false_or, Bool.false_eq_true, if_false]
  rw [if_neg (by omega)]
  unfold evO teA reA
  simp
  omega

theorem tail_at {F : Fr} (hg : Good F) {k : Nat} {s : Tk} (h0 : (putL (boL F)).length ≤ k) (hk : k < (putL (boL F)).length + 10) (h : Rd (ackL F) (putL (boL F)).length k s) : s.p = 1 + (k - (putL (boL F)).length) ∧ s.fi = true := by
  have hwl := wiL_length F
  obtain ⟨f1, f2, f3⟩ := wire_found hg (ack_take (F := F) false) (by rw [List.length_set, hwl]; omega)
  have hP := P_pos F
  have hB := BeB.of (h.on hk) (show bdN (ackL F) ≠ 0 by unfold ackL; rw [f1]; omega) (show bdN (ackL F) ≤ k by unfold ackL; rw [f1]; exact h0)
  have hp := hB.p
  have hf := hB.fi
  unfold ackL at hp hf
  rw [f1] at hp
  rw [f3] at hf
  exact ⟨hp, hf⟩

theorem ack_at {F : Fr} {j : Nat} (hj : j < 10) : (ackL F)[(putL (boL F)).length + j]? = some (!decide (j = 1)) := by
  unfold ackL
  by_cases h1 : j = 1
  · subst h1
    rw [List.getElem?_set_self (by rw [wiL_length]; omega)]; rfl
  · rw [List.getElem?_set_ne (by omega), wi_at hj, decide_eq_false h1]; rfl

/-- A receiver that samples one bit of the tail turned about. -/
theorem tail_turn {F : Fr} (hg : Good F) {j : Nat} {s : Tk} (hj : j < 10) (h : Rd (ackL F) (putL (boL F)).length ((putL (boL F)).length + j) s) :
    stC (rcvAt zeC s) (decide (j = 1)) = if j = 9 then (phC (rcvAt zeC s) 4 0 false, (9, zeroFr)) else (phC (rcvAt (cfR 1) s) 2 0 true, (if j = 1 then 4 else 6, zeroFr)) := by
  obtain ⟨hp, hf⟩ := tail_at hg (by omega) (by omega) h
  rw [Nat.add_sub_cancel_left] at hp
  show rcvC (rcvAt zeC s) (decide (j = 1)) = _
  have hT : (rcvAt zeC s).tk = s := rfl
  have hc : ∀ (t : Tk) (w : Nat), failC { rcvAt zeC s with tk := t } w = (phC (rcvAt (cfR 1) s) 2 0 true, (w, zeroFr)) := fun t w => rfl
  unfold rcvC
  rw [hT]
  by_cases h1 : j = 1
  · have hd : drT s.p s.fi = false := by rw [hp, hf, h1]; rfl
    have hn : nxT s (decide (j = 1)) = (⟨s.b, s.m, s.l, 3, s.fi⟩, 0) := nx_two (by omega)
    rw [hn]
    refine (if_pos rfl).trans ?_
    rw [hd, decide_eq_true h1]
    rw [if_neg (show ¬ j = 9 by omega), if_pos h1]
    exact hc _ _
  · rw [decide_eq_false h1]
    by_cases h9 : j = 9
    · have hn : nxT s false = (⟨s.b, s.m, s.l, 11, s.fi⟩, 5) := nx_ten (by omega)
      rw [hn, if_pos h9]; rfl
    · have hn : nxT s false = (⟨s.b, s.m, s.l, 11, s.fi⟩, 2) := nx_dom (by omega) (by omega) (by omega)
      rw [hn, if_neg h9, if_neg h1]
      exact hc _ _

/-- A sender, acknowledged, that samples one bit from the 41st on turned about. -/
theorem break_turn {F : Fr} (hg : Good F) {k : Nat} {s : Tk} (h40 : 40 ≤ k) (hk : k < (putL (boL F)).length + 10) (h : Rd (ackL F) (putL (boL F)).length k s) {x : Bool} (hx : (ackL F)[k]? = some x) :
    stC (sndAt F zeC s k) (!x) = (phC (sndAt F (cfT 8) s k) 2 0 true, (if k = (putL (boL F)).length + 1 then 7 else 4, zeroFr)) := by
  have hwl := wiL_length F
  have hP := P_pos F
  have hc : ∀ (w : Nat), failC (sndAt F zeC s k) w = (phC (sndAt F (cfT 8) s k) 2 0 true, (w, zeroFr)) := fun w => rfl
  show sndC (sndAt F zeC s k) (!x) = _
  unfold sndC
  by_cases h9 : k = (putL (boL F)).length + 1
  · have hxf : x = false := by rw [h9, ack_at (by omega)] at hx; simpa using hx.symm
    subst hxf
    refine (if_pos (show k + 9 = (wiL F).length by rw [hwl]; omega)).trans ?_
    rw [if_pos h9]
    exact hc 7
  · have hxw : (wiL F)[k]?.getD false = x := by
      unfold ackL at hx
      rw [List.getElem?_set_ne (Ne.symm h9)] at hx
      rw [hx]; rfl
    refine (if_neg (show ¬ k + 9 = (wiL F).length by rw [hwl]; omega)).trans ?_
    refine (if_neg (show ¬ (wiL F)[k]?.getD false = !x by rw [hxw]; cases x <;> simp)).trans ?_
    rw [if_neg h9]
    have hpl : 32 < s.l.length := by
      obtain ⟨f1, f2, f3⟩ := wire_found hg (ack_take (F := F) false) (by rw [List.length_set, hwl]; omega)
      refine plain_forty (h.on hk) h40 ?_
      unfold ackL
      rw [f2, boL_length]
      have : 19 ≤ heN F.ext := by unfold heN; split <;> omega
      omega
    refine (if_pos ?_).trans (hc 4)
    right; right
    show (if F.ext = true then 32 else 12) < s.l.length
    split <;> omega

/-- A bit of the wire ahead of the acknowledgement, for a sender that is alone. -/
theorem alone_step {F : Fr} (hg : Good F) {k : Nat} {s : Tk} (h1 : 1 ≤ k) (hk : k < (putL (boL F)).length + 1) (h : Rd (ackL F) (putL (boL F)).length k s) (cf : Cf) :
    stC (sndAt F cf s k) ((wiL F)[k]?.getD false) = (sndAt F cf (nxT s ((wiL F)[k]?.getD false)).1 (k + 1), noH) ∧ Rd (ackL F) (putL (boL F)).length (k + 1) (nxT s ((wiL F)[k]?.getD false)).1 := by
  have hx : (ackL F)[k]? = some ((wiL F)[k]?.getD false) := by
    unfold ackL
    rw [List.getElem?_set_ne (by omega)]
    have : k < (wiL F).length := by rw [wiL_length]; omega
    rw [List.getElem?_eq_getElem this]; rfl
  obtain ⟨_, _, _, e1, _, e2⟩ := sends_step hg h1 (by omega) h hx cf false zeroFr
  rw [if_pos (by omega)] at e1
  exact ⟨e1, e2⟩

/-- Nobody acknowledges: an active sender, and a passive one. -/
theorem unheard_active {F : Fr} {s : Tk} {t : Int} (h0 : 0 ≤ t) (h1 : t ≤ 127) : stC (sndAt F (cfT t) s ((putL (boL F)).length + 1)) true = (phC (sndAt F (cfT (t + 8)) s ((putL (boL F)).length + 1)) 2 0 true, (7, zeroFr)) := by
  have hwl := wiL_length F
  have hm := mo_T h0 (show t ≤ 255 by omega)
  have hm8 := mo_T (t := t + 8) (by omega) (by omega)
  have he := ev_T h0 (show t ≤ 247 by omega)
  rw [if_neg (by omega)] at hm
  show sndC _ true = _
  unfold sndC
  refine (if_pos (show (putL (boL F)).length + 1 + 9 = (wiL F).length by rw [hwl])).trans ?_
  refine (if_neg (by simp)).trans ?_
  have hm' : ¬ moC (cfT t) = 1 := by rw [hm]; omega
  refine (if_neg hm').trans ?_
  show flagC _ 7 5 false = _
  unfold flagC
  have hc : (cntC (sndAt F (cfT t) s ((putL (boL F)).length + 1)) 5) = sndAt F (cfT (t + 8)) s ((putL (boL F)).length + 1) := by
    show ({ sndAt F (cfT t) s ((putL (boL F)).length + 1) with cf := evC (cfT t) 5 } : Ct) = _
    rw [he]; rfl
  rw [hc]
  have h2 : ¬ moC (sndAt F (cfT (t + 8)) s ((putL (boL F)).length + 1)).cf = 2 := by
    show ¬ moC (cfT (t + 8)) = 2
    rw [hm8]; split <;> omega
  have h3 : ¬ moC (sndAt F (cfT t) s ((putL (boL F)).length + 1)).cf = 1 := hm'
  rw [if_neg h2, if_neg h3]
  rfl

theorem unheard_passive {F : Fr} {s : Tk} {t : Int} (h0 : 127 < t) (h1 : t ≤ 255) : stC (sndAt F (cfT t) s ((putL (boL F)).length + 1)) true = (wkSt (sndAt F (cfT t) s ((putL (boL F)).length + 1)) true 0, (7, zeroFr)) := by
  have hwl := wiL_length F
  have hm := mo_T (show 0 ≤ t by omega) h1
  rw [if_pos (by omega)] at hm
  show sndC _ true = _
  unfold sndC
  refine (if_pos (show (putL (boL F)).length + 1 + 9 = (wiL F).length by rw [hwl])).trans ?_
  refine (if_neg (by simp)).trans ?_
  refine (if_pos (show moC (cfT t) = 1 from hm)).trans ?_
  unfold flagC
  have hc : (cntC (sndAt F (cfT t) s ((putL (boL F)).length + 1)) 0) = sndAt F (cfT t) s ((putL (boL F)).length + 1) := rfl
  rw [hc]
  have h2 : ¬ moC (sndAt F (cfT t) s ((putL (boL F)).length + 1)).cf = 2 := by
    show ¬ moC (cfT t) = 2
    rw [hm]; omega
  have h3 : moC (sndAt F (cfT t) s ((putL (boL F)).length + 1)).cf = 1 := hm
  rw [if_neg h2, if_pos h3]
  rfl
end Go.Proofs.YtgpmhmdofefdcaaGreat

namespace Go.Proofs.YtgpmhmdofefdcaaGreat
set_option linter.unusedVariables false
def F1 : Fr := ⟨1, false, false, 0, []⟩
theorem aw8_a : (List.range 47).all (fun k => okB (heC (giC F1) false k).1) = true := by decide +kernel
theorem aw8_b : (List.range 39).all (fun k => okB (heC (giC F1) true k).1) = true := by decide +kernel
theorem aw8_c : (heC (giC F1) false 47).2 = 1 ∧ (heC (giC F1) false 47).1.ph = 7 ∧ (heC (giC F1) false 47).1.has = false := by decide +kernel
theorem aw8_d : (heC (giC F1) true 39).2 = 7 ∧ (heC (giC F1) true 39).1.ph = 2 ∧ (heC (giC F1) true 39).1.has = true ∧ (heC (giC F1) true 39).1.cf.t = 8 := by decide +kernel
/-- A controller that has nothing, and dominant bits. -/
def doL : Nat → Ct × Hp
  | 0 => (c0, noH)
  | n + 1 => stC (doL n).1 false
theorem aw8_e : (List.range 6).all (fun k => okB (doL k).1) = true := by decide +kernel
theorem aw8_f : (doL 6).2.1 = 5 ∧ (doL 6).1.cf.r = 1 := by decide +kernel
theorem range_all {p : Nat → Bool} {n : Nat} (h : (List.range n).all p = true) (k : Nat) (hk : k < n) : p k = true := List.all_eq_true.1 h k (List.mem_range.2 hk)
end Go.Proofs.YtgpmhmdofefdcaaGreat
