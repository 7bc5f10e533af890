/-
  Plain mathematics of layer 9: a node that samples each start of its own turned about, till it is off the bus, and back (NetOff).
  Plain mathematics of layer 9: NetOff's cycles, one behind the other.
  Plain mathematics of layer 9: NetOff's cycles with a passive flag; the node that is off, and comes back.
  Plain mathematics of layer 9: NetOff from its first bit to its last: the cycles one behind the other, off the bus, on again, the frame, rest.
-/
import Derived.Test.YtgpmhmdofefdcaaGreatM9c
import Derived.Test.YtgpmhmdofefdcaaGreatM8m
import Derived.Test.YtgpmhmdofefdcaaGreatM8k
namespace Go.Proofs.YtgpmhmdofefdcaaGreat
set_option linter.unusedVariables false

theorem mo_R {r : Int} (h0 : 0 ≤ r) (h1 : r ≤ 127) : moC (cfR r) = 0 := by
  have hr : riC (cfR r) = true := by unfold riC cfR wi; simp; omega
  have ho : ¬ ((cfR r).o || !riC (cfR r)) = true := by rw [hr]; simp [cfR]
  unfold moC
  refine (if_neg ho).trans (if_neg ?_)
  rintro (h | h)
  · revert h; show ¬ (0 : Int) > 127; omega
  · revert h; show ¬ r > 127; omega

theorem ev_R {r : Int} (h0 : 0 ≤ r) (h1 : r ≤ 254) : evC (cfR r) 1 = cfR (r + 1) := by
  have hr : riC (cfR r) = true := by unfold riC cfR wi; simp; omega
  unfold evC
  rw [if_neg (by rw [hr]; simp), if_neg (by simp [cfR])]
  have e : reA r 1 = r + 1 := by unfold reA; rw [if_pos rfl]; omega
  show (⟨teA 0 1, reA r 1, decide (teA 0 1 > 255), 0, 0⟩ : Cf) = _
  rw [e]; rfl

/-- The node that fails: its counters behind so many errors. -/
def zC (F : Fr) (k : Nat) (b : Bool) : Ct := ⟨0, 0, cfT (8 * (k : Int)), true, F, false, b, [], 0, s0, false, 0, false, false⟩
/-- Another one. -/
def yC (k : Nat) : Ct := rcvAt (cfR (k : Int)) s0
/-- What is read: so many dominant bits; one dominant one, and recessive ones behind it. -/
def dT : Nat → Tk
  | 0 => s0
  | n + 1 => (nxT (dT n) false).1
def rT : Nat → Tk
  | 0 => (nxT s0 false).1
  | n + 1 => (nxT (rT n) true).1

theorem d_nx {n : Nat} (h : n < 5) : nxT (dT n) false = (dT (n + 1), 0) := by
  match n, h with
  | 0, _ => exact rfl
  | 1, _ => exact rfl
  | 2, _ => exact rfl
  | 3, _ => exact rfl
  | 4, _ => exact rfl
theorem d_err : (nxT (dT 5) false).2 = 1 := rfl
theorem r_nx {n : Nat} (h : n < 5) : nxT (rT n) true = (rT (n + 1), 0) ∧ drT (rT n).p (rT n).fi = true := by
  match n, h with
  | 0, _ => exact ⟨rfl, rfl⟩
  | 1, _ => exact ⟨rfl, rfl⟩
  | 2, _ => exact ⟨rfl, rfl⟩
  | 3, _ => exact ⟨rfl, rfl⟩
  | 4, _ => exact ⟨rfl, rfl⟩
theorem r_err : (nxT (rT 5) true).2 = 1 := rfl

/-- How a node that is idle with a frame fails at the start of its own. -/
theorem z_fail {F : Fr} {k : Nat} (hk : k ≤ 30) (b e : Bool) :
    stC (phC (zC F k b) 0 0 e) true = (if k ≤ 15 then flSt (zC F (k + 1) true) 2 true 0 else wkSt (zC F (k + 1) true) false 0, (4, zeroFr)) := by
  have h8 : (0 : Int) ≤ 8 * (k : Int) := by omega
  have hm := mo_T h8 (show 8 * (k : Int) ≤ 255 by omega)
  have hm8 := mo_T (t := 8 * (k : Int) + 8) (by omega) (by omega)
  have he := ev_T h8 (show 8 * (k : Int) ≤ 247 by omega)
  have ek : 8 * (k : Int) + 8 = 8 * ((k + 1 : Nat) : Int) := by omega
  rw [ek] at hm8 he
  obtain ⟨c1, hc1⟩ : ∃ c1 : Ct, c1 = { phC (zC F k b) 0 0 e with sender := true } := ⟨_, rfl⟩
  have hst : stC (phC (zC F k b) 0 0 e) true = flagC c1 4 5 false := by rw [hc1]; rfl
  rw [hst]
  unfold flagC
  have hcn : cntC c1 5 = { c1 with cf := cfT (8 * ((k + 1 : Nat) : Int)) } := by
    rw [hc1]
    show ({ phC (zC F k b) 0 0 e with sender := true, cf := evC (cfT (8 * (k : Int))) 5 } : Ct) = _
    rw [he]
  rw [hcn]
  have h2 : ¬ moC ({ c1 with cf := cfT (8 * ((k + 1 : Nat) : Int)) } : Ct).cf = 2 := by
    show ¬ moC (cfT (8 * ((k + 1 : Nat) : Int))) = 2
    rw [hm8]; split <;> omega
  rw [if_neg h2]
  have hcf : c1.cf = cfT (8 * (k : Int)) := by rw [hc1]; rfl
  rw [hcf, hm]
  by_cases h15 : k ≤ 15
  · rw [if_pos h15, if_neg (show ¬ 8 * (k : Int) > 127 by omega), if_neg (by omega), hc1]; rfl
  · rw [if_neg h15, if_pos (show 8 * (k : Int) > 127 by omega), if_pos rfl, hc1]; rfl

theorem hold_z {F : Fr} {k : Nat} (hk : k ≤ 31) : holdC (zC F k true) = decide (16 ≤ k) := by
  have hm := mo_T (t := 8 * (k : Int)) (by omega) (by omega)
  unfold holdC
  show (true && decide (moC (cfT (8 * (k : Int))) = 1)) = _
  rw [hm]
  by_cases h : 16 ≤ k
  · rw [if_pos (by omega)]; simp [h]
  · rw [if_neg (by omega)]; simp [h]

/-- One that reads: its first bit, and an error of stuffing. -/
theorem y_beg {k : Nat} (e : Bool) : stC (phC (yC k) 0 0 e) false = (wE (rcvAt (cfR (k : Int)) (dT 1)) e, noH) := rfl
theorem y_err {k : Nat} (hk : k ≤ 32) {s : Tk} {x e : Bool} (hs : (nxT s x).2 = 1) : stC (wE (rcvAt (cfR (k : Int)) s) e) x = (flSt (yC (k + 1)) 2 true 0, (5, zeroFr)) := by
  have hm := mo_R (r := (k : Int)) (by omega) (by omega)
  have hm1 := mo_R (r := ((k + 1 : Nat) : Int)) (by omega) (by omega)
  have he := ev_R (r := (k : Int)) (by omega) (by omega)
  rw [show (k : Int) + 1 = ((k + 1 : Nat) : Int) by omega] at he
  show rcvC (wE (rcvAt (cfR (k : Int)) s) e) x = _
  unfold rcvC
  have ht : (wE (rcvAt (cfR (k : Int)) s) e).tk = s := rfl
  rw [ht, if_neg (by omega), if_pos hs]
  obtain ⟨c1, hc1⟩ : ∃ c1 : Ct, c1 = { wE (rcvAt (cfR (k : Int)) s) e with tk := (nxT s x).1 } := ⟨_, rfl⟩
  have hst : failC { wE (rcvAt (cfR (k : Int)) s) e with tk := (nxT s x).1 } 5 = flagC c1 5 1 false := by rw [hc1]; rfl
  rw [hst]
  unfold flagC
  have hcn : cntC c1 1 = { c1 with cf := cfR ((k + 1 : Nat) : Int) } := by
    rw [hc1]
    show ({ wE (rcvAt (cfR (k : Int)) s) e with tk := (nxT s x).1, cf := evC (cfR (k : Int)) 1 } : Ct) = _
    rw [he]
  rw [hcn]
  have h2 : ¬ moC ({ c1 with cf := cfR ((k + 1 : Nat) : Int) } : Ct).cf = 2 := by
    show ¬ moC (cfR ((k + 1 : Nat) : Int)) = 2
    rw [hm1]; omega
  have hcf : c1.cf = cfR (k : Int) := by rw [hc1]; rfl
  rw [if_neg h2, hcf, hm, if_neg (by omega), hc1]; rfl
theorem y_on {k : Nat} {s t : Tk} {x e : Bool} (hs : nxT s x = (t, 0)) (hd : x = true → drT s.p s.fi = true) : stC (wE (rcvAt (cfR (k : Int)) s) e) x = (wE (rcvAt (cfR (k : Int)) t) e, noH) := by
  show rcvC (wE (rcvAt (cfR (k : Int)) s) e) x = _
  unfold rcvC
  have ht : (wE (rcvAt (cfR (k : Int)) s) e).tk = s := rfl
  rw [ht, hs, if_pos rfl]
  have : (x && !drT s.p s.fi) = false := by
    cases x with
    | false => rfl
    | true => rw [hd rfl]; rfl
  rw [this]; rfl

/-- Eight bits held back. -/
theorem hold_step (c : Ct) {n : Nat} (hn : n < 8) (e : Bool) : stC (phC c 8 n e) true = (if n = 7 then phC c 0 0 e else phC c 8 (n + 1) e, noH) := by
  show hold8C (phC c 8 n e) true = _
  unfold hold8C
  rw [if_pos rfl]
  by_cases h : n = 7
  · rw [if_pos h, if_pos (show (phC c 8 n e).n + 1 = 8 from by show n + 1 = 8; omega)]; rfl
  · rw [if_neg h, if_neg (show ¬ (phC c 8 n e).n + 1 = 8 from by show ¬ n + 1 = 8; omega)]; rfl
end Go.Proofs.YtgpmhmdofefdcaaGreat

namespace Go.Proofs.YtgpmhmdofefdcaaGreat
set_option linter.unusedVariables false

/-- What happens is nothing that the statement asks of the others. -/
def calm (h : Hp) : Prop := h.1 ≠ 2 ∧ h.1 ≠ 10

theorem calm_no : calm noH := ⟨by decide, by decide⟩
theorem calm_five : calm (5, zeroFr) := ⟨by decide, by decide⟩

/-- A cycle whose flag is active: the failing node and another one, behind o bits. -/
def CyA (F : Fr) (k o : Nat) (z y : Ct) : Prop :=
  (o = 0 ∧ ∃ b e e', z = phC (zC F k b) 0 0 e ∧ y = phC (yC k) 0 0 e') ∨
  (1 ≤ o ∧ o ≤ 5 ∧ z = flSt (zC F (k + 1) true) 2 true (o - 1) ∧ ∃ e', y = wE (rcvAt (cfR (k : Int)) (dT o)) e') ∨
  (6 ≤ o ∧ o ≤ 7 ∧ z = flSt (zC F (k + 1) true) 2 true (o - 1) ∧ y = flSt (yC (k + 1)) 2 true (o - 6)) ∨
  (8 ≤ o ∧ o ≤ 12 ∧ z = phC (zC F (k + 1) true) 5 (o - 7) true ∧ y = flSt (yC (k + 1)) 2 true (o - 6)) ∨
  (13 ≤ o ∧ o ≤ 22 ∧ z = flSt (zC F (k + 1) true) 2 true (o - 6) ∧ y = flSt (yC (k + 1)) 2 true (o - 6)) ∨
  (k = 15 ∧ 23 ≤ o ∧ o ≤ 30 ∧ z = phC (zC F (k + 1) true) 8 (o - 23) true ∧ y = phC (yC (k + 1)) 0 0 true)

/-- One whose flag is passive. -/
def CyB (F : Fr) (k o : Nat) (z y : Ct) : Prop :=
  (o = 0 ∧ ∃ b e e', z = phC (zC F k b) 0 0 e ∧ y = phC (yC k) 0 0 e') ∨
  (1 ≤ o ∧ o ≤ 6 ∧ z = wkSt (zC F (k + 1) true) false (o - 1) ∧ ∃ e', y = wE (rcvAt (cfR (k : Int)) (rT (o - 1))) e') ∨
  (7 ≤ o ∧ o ≤ 13 ∧ z = phC (zC F (k + 1) true) 5 (o - 7) true ∧ y = flSt (yC (k + 1)) 2 true (o - 7)) ∨
  (14 ≤ o ∧ o ≤ 23 ∧ z = flSt (zC F (k + 1) true) 2 true (o - 7) ∧ y = flSt (yC (k + 1)) 2 true (o - 7)) ∨
  (24 ≤ o ∧ o ≤ 31 ∧ z = phC (zC F (k + 1) true) 8 (o - 24) true ∧ y = phC (yC (k + 1)) 0 0 true)

/-- How long a cycle is. -/
def cyN (k : Nat) : Nat := if k ≤ 14 then 23 else if k = 15 then 31 else 32

/-- The bus in a cycle. -/
def cyX (k o : Nat) : Bool := if k ≤ 15 then decide (12 ≤ o) else (decide (1 ≤ o ∧ o ≤ 6) || decide (13 ≤ o))

theorem y_idle (k : Nat) (e : Bool) : stC (phC (yC k) 0 0 e) true = (phC (yC k) 0 0 e, noH) ∧ dvC (phC (yC k) 0 0 e) = true := ⟨rfl, rfl⟩

theorem cyA_step {F : Fr} {k o : Nat} (hk : k ≤ 15) (ho : o < cyN k) {z y : Ct} (h : CyA F k o z y) :
    (dvC z && dvC y) = cyX k o ∧ (z.ph = 0 ↔ o = 0) ∧ z.has = true ∧
    (if o + 1 = cyN k then (∃ b e e', (stC z (if o = 0 then true else cyX k o)).1 = phC (zC F (k + 1) b) 0 0 e ∧ (stC y (cyX k o)).1 = phC (yC (k + 1)) 0 0 e') else CyA F k (o + 1) (stC z (if o = 0 then true else cyX k o)).1 (stC y (cyX k o)).1) ∧
    (stC z (if o = 0 then true else cyX k o)).2 = (if o = 0 then (4, zeroFr) else noH) ∧ calm (stC y (cyX k o)).2 := by
  have hx : cyX k o = decide (12 ≤ o) := if_pos hk
  rw [hx]
  have hn : cyN k = if k = 15 then 31 else 23 := by unfold cyN; split <;> split <;> omega
  rw [hn] at ho ⊢
  have fz := fun (j : Nat) (hj : j < 16) => fl_step (zC F (k + 1) true) (ph := 2) (.inl rfl) true (j := j) hj
  have fy := fun (j : Nat) (hj : j < 16) => fl_step (yC (k + 1)) (ph := 2) (.inl rfl) true (j := j) hj
  rcases h with ⟨rfl, b, e, e', rfl, rfl⟩ | ⟨h1, h2, rfl, e', rfl⟩ | ⟨h1, h2, rfl, rfl⟩ | ⟨h1, h2, rfl, rfl⟩ | ⟨h1, h2, rfl, rfl⟩ | ⟨h0, h1, h2, rfl, rfl⟩
  · rw [if_pos rfl, if_pos rfl, z_fail (by omega), if_pos hk, decide_eq_false (by omega), y_beg, if_neg (by split <;> omega)]
    exact ⟨rfl, ⟨fun _ => rfl, fun _ => rfl⟩, rfl, .inr (.inl ⟨by omega, by omega, rfl, e', rfl⟩), rfl, calm_no⟩
  · obtain ⟨g1, g2⟩ := fz (o - 1) (by omega)
    rw [decide_eq_false (by omega)] at g1 g2
    rw [if_neg (show ¬ o = 0 by omega), if_neg (show ¬ o = 0 by omega), decide_eq_false (show ¬ 12 ≤ o by omega), g1, g2, if_neg (by split <;> omega)]
    have hph : (flSt (zC F (k + 1) true) 2 true (o - 1)).ph ≠ 0 := fl_ph _ (by omega)
    have hhas : (flSt (zC F (k + 1) true) 2 true (o - 1)).has = true := by unfold flSt; split <;> (try split) <;> (try split) <;> rfl
    refine ⟨rfl, ⟨fun e => absurd e hph, fun e => by omega⟩, hhas, ?_, rfl, ?_⟩
    · by_cases h5 : o = 5
      · subst h5
        rw [y_err (by omega) d_err]
        exact .inr (.inr (.inl ⟨by omega, by omega, rfl, rfl⟩))
      · rw [y_on (d_nx (show o < 5 by omega)) (fun e => by cases e)]
        exact .inr (.inl ⟨by omega, by omega, by rw [show o + 1 - 1 = o - 1 + 1 by omega], e', rfl⟩)
    · by_cases h5 : o = 5
      · subst h5
        rw [y_err (by omega) d_err]; exact calm_five
      · rw [y_on (d_nx (show o < 5 by omega)) (fun e => by cases e)]; exact calm_no
  · obtain ⟨f1, f2⟩ := fy (o - 6) (by omega)
    rw [decide_eq_false (by omega)] at f1 f2
    rw [if_neg (show ¬ o = 0 by omega), if_neg (show ¬ o = 0 by omega), decide_eq_false (show ¬ 12 ≤ o by omega), f1, f2, if_neg (by split <;> omega), Bool.and_false]
    have hph : (flSt (zC F (k + 1) true) 2 true (o - 1)).ph ≠ 0 := fl_ph _ (by omega)
    have hhas : (flSt (zC F (k + 1) true) 2 true (o - 1)).has = true := by unfold flSt; split <;> (try split) <;> (try split) <;> rfl
    refine ⟨rfl, ⟨fun e => absurd e hph, fun e => by omega⟩, hhas, ?_, ?_, calm_no⟩
    · by_cases h6 : o = 6
      · subst h6
        obtain ⟨g1, _⟩ := fz 5 (by omega)
        rw [decide_eq_false (by omega)] at g1
        rw [show 6 - 1 = 5 by omega, g1]
        exact .inr (.inr (.inl ⟨by omega, by omega, rfl, rfl⟩))
      · obtain rfl : o = 7 := by omega
        have e6 : flSt (zC F (k + 1) true) 2 true (7 - 1) = phC (zC F (k + 1) true) 5 0 true := rfl
        rw [e6, wait_on (c := zC F (k + 1) true) rfl (n := 0) (by omega) true]
        exact .inr (.inr (.inr (.inl ⟨by omega, by omega, rfl, rfl⟩)))
    · by_cases h6 : o = 6
      · subst h6
        obtain ⟨g1, _⟩ := fz 5 (by omega)
        rw [decide_eq_false (by omega)] at g1
        rw [show 6 - 1 = 5 by omega, g1]
      · obtain rfl : o = 7 := by omega
        have e6 : flSt (zC F (k + 1) true) 2 true (7 - 1) = phC (zC F (k + 1) true) 5 0 true := rfl
        rw [e6, wait_on (c := zC F (k + 1) true) rfl (n := 0) (by omega) true]
  · rw [if_neg (show ¬ o = 0 by omega), if_neg (show ¬ o = 0 by omega), if_neg (by split <;> omega)]
    by_cases h12 : o = 12
    · subst h12
      obtain ⟨f1, f2⟩ := fy (12 - 6) (by omega)
      rw [decide_eq_true (by omega)] at f1 f2
      rw [decide_eq_true (by omega), f1, f2, (wait_end (zC F (k + 1) true) (12 - 7) true).1]
      exact ⟨rfl, ⟨fun e => (by cases e), fun e => by omega⟩, rfl, .inr (.inr (.inr (.inr (.inl ⟨by omega, by omega, rfl, rfl⟩)))), rfl, calm_no⟩
    · obtain ⟨f1, f2⟩ := fy (o - 6) (by omega)
      rw [decide_eq_false (by omega)] at f1 f2
      rw [decide_eq_false (show ¬ 12 ≤ o by omega), f1, f2, wait_on (c := zC F (k + 1) true) rfl (n := o - 7) (by omega) true, Bool.and_false]
      refine ⟨rfl, ⟨fun e => (by cases e), fun e => by omega⟩, rfl, .inr (.inr (.inr (.inl ⟨by omega, by omega, ?_, ?_⟩))), rfl, calm_no⟩
      · rw [show o + 1 - 7 = o - 7 + 1 by omega]
      · rw [show o + 1 - 6 = o - 6 + 1 by omega]
  · rw [if_neg (show ¬ o = 0 by omega), if_neg (show ¬ o = 0 by omega), decide_eq_true (show 12 ≤ o by omega)]
    have hph : (flSt (zC F (k + 1) true) 2 true (o - 6)).ph ≠ 0 := fl_ph _ (by omega)
    have hhas : (flSt (zC F (k + 1) true) 2 true (o - 6)).has = true := by unfold flSt; split <;> (try split) <;> (try split) <;> rfl
    by_cases h22 : o = 22
    · subst h22
      obtain ⟨g1, g2⟩ := fl_last (zC F (k + 1) true) 2 true
      obtain ⟨f1, f2⟩ := fl_last (yC (k + 1)) 2 true
      rw [show 22 - 6 = 16 by omega] at hph ⊢
      rw [g1, g2, f1, f2, hold_z (by omega)]
      refine ⟨rfl, ⟨fun e => absurd e hph, fun e => by omega⟩, hhas, ?_, rfl, calm_no⟩
      by_cases h15 : k = 15
      · rw [if_pos h15, if_neg (by omega)]
        refine .inr (.inr (.inr (.inr (.inr ⟨h15, by omega, by omega, ?_, rfl⟩))))
        rw [decide_eq_true (by omega)]; rfl
      · rw [if_neg h15, if_pos rfl, decide_eq_false (by omega)]
        exact ⟨true, true, true, rfl, rfl⟩
    · obtain ⟨g1, g2⟩ := fz (o - 6) (by omega)
      obtain ⟨f1, f2⟩ := fy (o - 6) (by omega)
      rw [decide_eq_true (by omega)] at g1 g2 f1 f2
      rw [g1, g2, f1, f2, if_neg (by split <;> omega)]
      refine ⟨rfl, ⟨fun e => absurd e hph, fun e => by omega⟩, hhas, .inr (.inr (.inr (.inr (.inl ⟨by omega, by omega, ?_, ?_⟩)))), rfl, calm_no⟩
      · rw [show o + 1 - 6 = o - 6 + 1 by omega]
      · rw [show o + 1 - 6 = o - 6 + 1 by omega]
  · rw [if_neg (show ¬ o = 0 by omega), if_neg (show ¬ o = 0 by omega), decide_eq_true (show 12 ≤ o by omega), if_pos h0, hold_step _ (show o - 23 < 8 by omega), (y_idle _ _).1]
    refine ⟨rfl, ⟨fun e => (by cases e), fun e => by omega⟩, rfl, ?_, rfl, calm_no⟩
    by_cases h30 : o = 30
    · rw [if_pos (by omega), if_pos (show o - 23 = 7 by omega)]
      exact ⟨true, true, true, rfl, rfl⟩
    · rw [if_neg (by omega), if_neg (show ¬ o - 23 = 7 by omega)]
      refine .inr (.inr (.inr (.inr (.inr ⟨h0, by omega, by omega, ?_, rfl⟩))))
      rw [show o + 1 - 23 = o - 23 + 1 by omega]
end Go.Proofs.YtgpmhmdofefdcaaGreat

namespace Go.Proofs.YtgpmhmdofefdcaaGreat
set_option linter.unusedVariables false

theorem wk_flags (C : Ct) {j : Nat} (hj : j ≤ 5) : (wkSt C false j).ph = 3 ∧ (wkSt C false j).has = C.has := by
  unfold wkSt
  split
  · exact ⟨rfl, rfl⟩
  · rw [if_pos (by omega)]; exact ⟨rfl, rfl⟩

theorem fl_has (C : Ct) (j : Nat) : (flSt C 2 true j).has = C.has := by unfold flSt; split <;> (try split) <;> (try split) <;> rfl

theorem cyB_step {F : Fr} {k o : Nat} (hk : 16 ≤ k) (hk2 : k ≤ 30) (ho : o < cyN k) {z y : Ct} (h : CyB F k o z y) :
    (dvC z && dvC y) = cyX k o ∧ (z.ph = 0 ↔ o = 0) ∧ z.has = true ∧
    (if o + 1 = cyN k then (∃ b e e', (stC z (if o = 0 then true else cyX k o)).1 = phC (zC F (k + 1) b) 0 0 e ∧ (stC y (cyX k o)).1 = phC (yC (k + 1)) 0 0 e') else CyB F k (o + 1) (stC z (if o = 0 then true else cyX k o)).1 (stC y (cyX k o)).1) ∧
    (stC z (if o = 0 then true else cyX k o)).2 = (if o = 0 then (4, zeroFr) else noH) ∧ calm (stC y (cyX k o)).2 := by
  have hx : cyX k o = (decide (1 ≤ o ∧ o ≤ 6) || decide (13 ≤ o)) := if_neg (by omega)
  rw [hx]
  have hn : cyN k = 32 := by unfold cyN; rw [if_neg (by omega), if_neg (by omega)]
  rw [hn] at ho ⊢
  have fz := fun (j : Nat) (hj : j < 16) => fl_step (zC F (k + 1) true) (ph := 2) (.inl rfl) true (j := j) hj
  have fy := fun (j : Nat) (hj : j < 16) => fl_step (yC (k + 1)) (ph := 2) (.inl rfl) true (j := j) hj
  rcases h with ⟨rfl, b, e, e', rfl, rfl⟩ | ⟨h1, h2, rfl, e', rfl⟩ | ⟨h1, h2, rfl, rfl⟩ | ⟨h1, h2, rfl, rfl⟩ | ⟨h1, h2, rfl, rfl⟩
  · have hf : (decide (1 ≤ 0 ∧ 0 ≤ 6) || decide (13 ≤ 0)) = false := by decide
    rw [if_pos rfl, if_pos rfl, z_fail hk2, if_neg (by omega), hf, y_beg, if_neg (by omega)]
    exact ⟨rfl, ⟨fun _ => rfl, fun _ => rfl⟩, rfl, .inr (.inl ⟨by omega, by omega, rfl, e', rfl⟩), rfl, calm_no⟩
  · have hf : (decide (1 ≤ o ∧ o ≤ 6) || decide (13 ≤ o)) = true := by rw [decide_eq_true (show 1 ≤ o ∧ o ≤ 6 from ⟨h1, h2⟩)]; rfl
    obtain ⟨g1, g2⟩ := wk_step (zC F (k + 1) true) false (j := o - 1) (by omega)
    obtain ⟨a1, a2⟩ := wk_flags (zC F (k + 1) true) (j := o - 1) (by omega)
    rw [if_neg (show ¬ o = 0 by omega), if_neg (show ¬ o = 0 by omega), hf, g1, g2, if_neg (by omega)]
    have hy : dvC (wE (rcvAt (cfR (k : Int)) (rT (o - 1))) e') = true := by
      show drT (rT (o - 1)).p (rT (o - 1)).fi = true
      by_cases h6 : o = 6
      · subst h6; rfl
      · exact (r_nx (show o - 1 < 5 by omega)).2
    refine ⟨by rw [hy]; rfl, ⟨fun e => (by rw [a1] at e; cases e), fun e => by omega⟩, a2, ?_, rfl, ?_⟩
    · by_cases h6 : o = 6
      · subst h6
        rw [y_err (by omega) r_err]
        exact .inr (.inr (.inl ⟨by omega, by omega, rfl, rfl⟩))
      · rw [y_on (r_nx (show o - 1 < 5 by omega)).1 (fun _ => (r_nx (show o - 1 < 5 by omega)).2)]
        exact .inr (.inl ⟨by omega, by omega, by rw [show o + 1 - 1 = o - 1 + 1 by omega], e', by rw [show o + 1 - 1 = o - 1 + 1 by omega]⟩)
    · by_cases h6 : o = 6
      · subst h6
        rw [y_err (by omega) r_err]; exact calm_five
      · rw [y_on (r_nx (show o - 1 < 5 by omega)).1 (fun _ => (r_nx (show o - 1 < 5 by omega)).2)]; exact calm_no
  · rw [if_neg (show ¬ o = 0 by omega), if_neg (show ¬ o = 0 by omega), if_neg (by omega)]
    by_cases h13 : o = 13
    · subst h13
      obtain ⟨f1, f2⟩ := fy (13 - 7) (by omega)
      rw [decide_eq_true (by omega)] at f1 f2
      have hf : (decide (1 ≤ 13 ∧ 13 ≤ 6) || decide (13 ≤ 13)) = true := by decide
      rw [hf, f1, f2, (wait_end (zC F (k + 1) true) (13 - 7) true).1]
      exact ⟨rfl, ⟨fun e => (by cases e), fun e => by omega⟩, rfl, .inr (.inr (.inr (.inl ⟨by omega, by omega, rfl, rfl⟩))), rfl, calm_no⟩
    · obtain ⟨f1, f2⟩ := fy (o - 7) (by omega)
      rw [decide_eq_false (by omega)] at f1 f2
      have hf : (decide (1 ≤ o ∧ o ≤ 6) || decide (13 ≤ o)) = false := by rw [decide_eq_false (by omega), decide_eq_false (by omega)]; rfl
      rw [hf, f1, f2, wait_on (c := zC F (k + 1) true) rfl (n := o - 7) (by omega) true, Bool.and_false]
      refine ⟨rfl, ⟨fun e => (by cases e), fun e => by omega⟩, rfl, .inr (.inr (.inl ⟨by omega, by omega, ?_, ?_⟩)), rfl, calm_no⟩
      · rw [show o + 1 - 7 = o - 7 + 1 by omega]
      · rw [show o + 1 - 7 = o - 7 + 1 by omega]
  · have hf : (decide (1 ≤ o ∧ o ≤ 6) || decide (13 ≤ o)) = true := by rw [decide_eq_true (show 13 ≤ o by omega), Bool.or_true]
    rw [if_neg (show ¬ o = 0 by omega), if_neg (show ¬ o = 0 by omega), hf, if_neg (by omega)]
    have hph : (flSt (zC F (k + 1) true) 2 true (o - 7)).ph ≠ 0 := fl_ph _ (by omega)
    have hhas := fl_has (zC F (k + 1) true) (o - 7)
    by_cases h23 : o = 23
    · subst h23
      obtain ⟨g1, g2⟩ := fl_last (zC F (k + 1) true) 2 true
      obtain ⟨f1, f2⟩ := fl_last (yC (k + 1)) 2 true
      rw [show 23 - 7 = 16 by omega] at hph hhas ⊢
      rw [g1, g2, f1, f2, hold_z (by omega), decide_eq_true (by omega)]
      exact ⟨rfl, ⟨fun e => absurd e hph, fun e => by omega⟩, hhas, .inr (.inr (.inr (.inr ⟨by omega, by omega, rfl, rfl⟩))), rfl, calm_no⟩
    · obtain ⟨g1, g2⟩ := fz (o - 7) (by omega)
      obtain ⟨f1, f2⟩ := fy (o - 7) (by omega)
      rw [decide_eq_true (by omega)] at g1 g2 f1 f2
      rw [g1, g2, f1, f2]
      refine ⟨rfl, ⟨fun e => absurd e hph, fun e => by omega⟩, hhas, .inr (.inr (.inr (.inl ⟨by omega, by omega, ?_, ?_⟩))), rfl, calm_no⟩
      · rw [show o + 1 - 7 = o - 7 + 1 by omega]
      · rw [show o + 1 - 7 = o - 7 + 1 by omega]
  · have hf : (decide (1 ≤ o ∧ o ≤ 6) || decide (13 ≤ o)) = true := by rw [decide_eq_true (show 13 ≤ o by omega), Bool.or_true]
    rw [if_neg (show ¬ o = 0 by omega), if_neg (show ¬ o = 0 by omega), hf, hold_step _ (show o - 24 < 8 by omega), (y_idle _ _).1]
    refine ⟨rfl, ⟨fun e => (by cases e), fun e => by omega⟩, rfl, ?_, rfl, calm_no⟩
    by_cases h31 : o = 31
    · rw [if_pos (by omega), if_pos (show o - 24 = 7 by omega)]
      exact ⟨true, true, true, rfl, rfl⟩
    · rw [if_neg (by omega), if_neg (show ¬ o - 24 = 7 by omega)]
      refine .inr (.inr (.inr (.inr ⟨by omega, by omega, ?_, rfl⟩)))
      rw [show o + 1 - 24 = o - 24 + 1 by omega]

/-- One that is off, behind so many recessive bits in a row and so many runs. -/
def zO (F : Fr) (n m : Nat) (e : Bool) : Ct := ⟨9, 0, ⟨256, 0, true, (n : Int), (m : Int)⟩, true, F, false, false, [], 0, s0, false, 0, e, false⟩

theorem z_off {F : Fr} (b e : Bool) : stC (phC (zC F 31 b) 0 0 e) true = (zO F 0 0 e, (10, zeroFr)) := by
  have he : evC (cfT (8 * ((31 : Nat) : Int))) 5 = ⟨256, 0, true, 0, 0⟩ := by decide
  obtain ⟨c1, hc1⟩ : ∃ c1 : Ct, c1 = { phC (zC F 31 b) 0 0 e with sender := true } := ⟨_, rfl⟩
  have hst : stC (phC (zC F 31 b) 0 0 e) true = flagC c1 4 5 false := by rw [hc1]; rfl
  rw [hst]
  unfold flagC
  have hcn : cntC c1 5 = { c1 with cf := ⟨256, 0, true, 0, 0⟩ } := by
    rw [hc1]
    show ({ phC (zC F 31 b) 0 0 e with sender := true, cf := evC (cfT (8 * ((31 : Nat) : Int))) 5 } : Ct) = _
    rw [he]
  rw [hcn, if_pos (by show moC ⟨256, 0, true, 0, 0⟩ = 2; decide), hc1]; rfl

theorem ri_offN {n m : Nat} (hn : n ≤ 10) (hm : m ≤ 127) : riC ⟨256, 0, true, (n : Int), (m : Int)⟩ = true := by unfold riC wi; simp; omega

/-- A bit of one that is off. -/
theorem zO_dom {F : Fr} {n m : Nat} (hn : n ≤ 10) (hm : m ≤ 127) (e : Bool) : stC (zO F n m e) false = (zO F 0 m e, noH) := by
  have hb : biC ⟨256, 0, true, (n : Int), (m : Int)⟩ false = ⟨256, 0, true, 0, (m : Int)⟩ := by
    unfold biC; rw [if_neg (by rw [ri_offN hn hm]; simp)]; rfl
  show offsC (zO F n m e) false = _
  unfold offsC
  have hc : (zO F n m e).cf = ⟨256, 0, true, (n : Int), (m : Int)⟩ := rfl
  rw [hc, hb, if_pos (by unfold moC; rfl)]; rfl

theorem zO_rec {F : Fr} {n m : Nat} (hn : n ≤ 10) (hm : m ≤ 127) (e : Bool) :
    stC (zO F n m e) true = if n < 10 then (zO F (n + 1) m e, noH) else if m < 127 then (zO F 0 (m + 1) e, noH) else (wE (phC (giC F) 0 0 false) e, (11, zeroFr)) := by
  have hr := ri_offN hn hm
  have hb : biC ⟨256, 0, true, (n : Int), (m : Int)⟩ true = upC ⟨256, 0, true, (n : Int), (m : Int)⟩ := by
    unfold biC; rw [if_neg (by rw [hr]; simp), if_pos rfl]
  show offsC (zO F n m e) true = _
  unfold offsC
  have hc : (zO F n m e).cf = ⟨256, 0, true, (n : Int), (m : Int)⟩ := rfl
  rw [hc, hb]
  unfold upC
  by_cases h10 : n < 10
  · rw [if_pos h10, if_pos (show (n : Int) + 1 < 11 by omega), if_pos (by unfold moC; rfl)]
    show (({ zO F n m e with cf := ⟨256, 0, true, (n : Int) + 1, (m : Int)⟩ } : Ct), noH) = _
    rw [show (n : Int) + 1 = ((n + 1 : Nat) : Int) by omega]; rfl
  · rw [if_neg h10, if_neg (show ¬ (n : Int) + 1 < 11 by omega)]
    by_cases h127 : m < 127
    · rw [if_pos h127, if_neg (show ¬ (m : Int) + 1 = 128 by omega), if_pos (by unfold moC; rfl)]
      show (({ zO F n m e with cf := ⟨256, 0, true, 0, (m : Int) + 1⟩ } : Ct), noH) = _
      rw [show (m : Int) + 1 = ((m + 1 : Nat) : Int) by omega]; rfl
    · rw [if_neg h127, if_pos (show (m : Int) + 1 = 128 by omega), if_neg (by decide)]; rfl

/-- The node that goes off, and another one, behind o bits. -/
def CyC (F : Fr) (o : Nat) (z y : Ct) : Prop :=
  (o = 0 ∧ ∃ b e e', z = phC (zC F 31 b) 0 0 e ∧ y = phC (yC 31) 0 0 e') ∨
  (1 ≤ o ∧ o ≤ 6 ∧ ∃ e e', z = zO F (o - 1) 0 e ∧ y = wE (rcvAt (cfR ((31 : Nat) : Int)) (rT (o - 1))) e') ∨
  (7 ≤ o ∧ o ≤ 13 ∧ ∃ e, z = zO F (if o = 7 then 6 else 0) 0 e ∧ y = flSt (yC 32) 2 true (o - 7)) ∨
  (14 ≤ o ∧ o ≤ 23 ∧ ∃ e, z = zO F ((o - 13) % 11) ((o - 13) / 11) e ∧ y = flSt (yC 32) 2 true (o - 7)) ∨
  (24 ≤ o ∧ o ≤ 1420 ∧ ∃ e, z = zO F ((o - 13) % 11) ((o - 13) / 11) e ∧ y = phC (yC 32) 0 0 true) ∨
  (o = 1421 ∧ ∃ e, z = wE (phC (giC F) 0 0 false) e ∧ y = phC (yC 32) 0 0 true)

def cyO (o : Nat) : Bool := decide (1 ≤ o ∧ o ≤ 6) || decide (13 ≤ o)

theorem cyC_step {F : Fr} {o : Nat} (ho : o ≤ 1420) {z y : Ct} (h : CyC F o z y) :
    (dvC z && dvC y) = cyO o ∧ (z.ph = 0 ↔ o = 0) ∧ z.has = true ∧ CyC F (o + 1) (stC z (if o = 0 then true else cyO o)).1 (stC y (cyO o)).1 ∧
    (stC z (if o = 0 then true else cyO o)).2 = (if o = 0 then (10, zeroFr) else if o = 1420 then (11, zeroFr) else noH) ∧ calm (stC y (cyO o)).2 := by
  have fy := fun (j : Nat) (hj : j < 16) => fl_step (yC 32) (ph := 2) (.inl rfl) true (j := j) hj
  have hrun : ∀ e, 13 ≤ o → stC (zO F ((o - 13) % 11) ((o - 13) / 11) e) true = if o = 1420 then (wE (phC (giC F) 0 0 false) e, (11, zeroFr)) else (zO F ((o + 1 - 13) % 11) ((o + 1 - 13) / 11) e, noH) := fun e h13 => by
    have hm : (o - 13) / 11 ≤ 127 := by omega
    rw [zO_rec (show (o - 13) % 11 ≤ 10 by omega) hm]
    by_cases h10 : (o - 13) % 11 < 10
    · rw [if_pos h10, if_neg (by omega), show (o + 1 - 13) % 11 = (o - 13) % 11 + 1 by omega, show (o + 1 - 13) / 11 = (o - 13) / 11 by omega]
    · rw [if_neg h10]
      by_cases h127 : (o - 13) / 11 < 127
      · rw [if_pos h127, if_neg (by omega), show (o + 1 - 13) % 11 = 0 by omega, show (o + 1 - 13) / 11 = (o - 13) / 11 + 1 by omega]
      · rw [if_neg h127, if_pos (by omega)]
  rcases h with ⟨rfl, b, e, e', rfl, rfl⟩ | ⟨h1, h2, e, e', rfl, rfl⟩ | ⟨h1, h2, e, rfl, rfl⟩ | ⟨h1, h2, e, rfl, rfl⟩ | ⟨h1, h2, e, rfl, rfl⟩ | ⟨h1, _⟩
  · have hf : cyO 0 = false := by decide
    rw [if_pos rfl, if_pos rfl, z_off, hf, y_beg]
    exact ⟨rfl, ⟨fun _ => rfl, fun _ => rfl⟩, rfl, .inr (.inl ⟨by omega, by omega, e, e', rfl, rfl⟩), rfl, calm_no⟩
  · have hf : cyO o = true := by unfold cyO; rw [decide_eq_true (show 1 ≤ o ∧ o ≤ 6 from ⟨h1, h2⟩)]; rfl
    have hy : dvC (wE (rcvAt (cfR ((31 : Nat) : Int)) (rT (o - 1))) e') = true := by
      show drT (rT (o - 1)).p (rT (o - 1)).fi = true
      by_cases h6 : o = 6
      · subst h6; rfl
      · exact (r_nx (show o - 1 < 5 by omega)).2
    rw [if_neg (show ¬ o = 0 by omega), if_neg (show ¬ o = 0 by omega), if_neg (show ¬ o = 1420 by omega), hf, zO_rec (show o - 1 ≤ 10 by omega) (by omega), if_pos (show o - 1 < 10 by omega)]
    refine ⟨by rw [hy]; rfl, ⟨fun e => (by cases e), fun e => by omega⟩, rfl, ?_, rfl, ?_⟩
    · by_cases h6 : o = 6
      · subst h6
        rw [y_err (by omega) r_err]
        exact .inr (.inr (.inl ⟨by omega, by omega, e, rfl, rfl⟩))
      · rw [y_on (r_nx (show o - 1 < 5 by omega)).1 (fun _ => (r_nx (show o - 1 < 5 by omega)).2)]
        exact .inr (.inl ⟨by omega, by omega, e, e', by rw [show o + 1 - 1 = o - 1 + 1 by omega], by rw [show o + 1 - 1 = o - 1 + 1 by omega]⟩)
    · by_cases h6 : o = 6
      · subst h6
        rw [y_err (by omega) r_err]; exact calm_five
      · rw [y_on (r_nx (show o - 1 < 5 by omega)).1 (fun _ => (r_nx (show o - 1 < 5 by omega)).2)]; exact calm_no
  · rw [if_neg (show ¬ o = 0 by omega), if_neg (show ¬ o = 0 by omega), if_neg (show ¬ o = 1420 by omega)]
    by_cases h13 : o = 13
    · subst h13
      obtain ⟨f1, f2⟩ := fy (13 - 7) (by omega)
      rw [decide_eq_true (by omega)] at f1 f2
      have hf : cyO 13 = true := by decide
      have hz := hrun e (by omega)
      rw [if_neg (by omega)] at hz
      rw [hf, f1, f2, if_neg (by omega)]
      have hz' : stC (zO F 0 0 e) true = (zO F ((13 + 1 - 13) % 11) ((13 + 1 - 13) / 11) e, noH) := hz
      rw [hz']
      exact ⟨rfl, ⟨fun e => (by cases e), fun e => by omega⟩, rfl, .inr (.inr (.inr (.inl ⟨by omega, by omega, e, rfl, rfl⟩))), rfl, calm_no⟩
    · obtain ⟨f1, f2⟩ := fy (o - 7) (by omega)
      rw [decide_eq_false (by omega)] at f1 f2
      have hf : cyO o = false := by unfold cyO; rw [decide_eq_false (by omega), decide_eq_false (by omega)]; rfl
      rw [hf, f1, f2, zO_dom (by split <;> omega) (by omega), Bool.and_false]
      refine ⟨rfl, ⟨fun e => (by cases e), fun e => by omega⟩, rfl, .inr (.inr (.inl ⟨by omega, by omega, e, ?_, ?_⟩)), rfl, calm_no⟩
      · rw [if_neg (by omega)]
      · rw [show o + 1 - 7 = o - 7 + 1 by omega]
  · have hf : cyO o = true := by unfold cyO; rw [decide_eq_true (show 13 ≤ o by omega), Bool.or_true]
    have hz := hrun e (by omega)
    rw [if_neg (by omega)] at hz
    rw [if_neg (show ¬ o = 0 by omega), if_neg (show ¬ o = 0 by omega), if_neg (show ¬ o = 1420 by omega), hf, hz]
    by_cases h23 : o = 23
    · subst h23
      obtain ⟨f1, f2⟩ := fl_last (yC 32) 2 true
      rw [show 23 - 7 = 16 by omega, f1, f2]
      exact ⟨rfl, ⟨fun e => (by cases e), fun e => by omega⟩, rfl, .inr (.inr (.inr (.inr (.inl ⟨by omega, by omega, e, rfl, rfl⟩)))), rfl, calm_no⟩
    · obtain ⟨f1, f2⟩ := fy (o - 7) (by omega)
      rw [decide_eq_true (by omega)] at f1 f2
      rw [f1, f2]
      refine ⟨rfl, ⟨fun e => (by cases e), fun e => by omega⟩, rfl, .inr (.inr (.inr (.inl ⟨by omega, by omega, e, rfl, ?_⟩))), rfl, calm_no⟩
      rw [show o + 1 - 7 = o - 7 + 1 by omega]
  · have hf : cyO o = true := by unfold cyO; rw [decide_eq_true (show 13 ≤ o by omega), Bool.or_true]
    have hz := hrun e (by omega)
    rw [if_neg (show ¬ o = 0 by omega), if_neg (show ¬ o = 0 by omega), hf, hz, (y_idle _ _).1]
    refine ⟨rfl, ⟨fun e => (by cases e), fun e => by omega⟩, rfl, ?_, ?_, calm_no⟩
    · by_cases h20 : o = 1420
      · rw [if_pos h20]
        exact .inr (.inr (.inr (.inr (.inr ⟨by omega, e, rfl, rfl⟩))))
      · rw [if_neg h20]
        exact .inr (.inr (.inr (.inr (.inl ⟨by omega, by omega, e, rfl, rfl⟩))))
    · by_cases h20 : o = 1420
      · rw [if_pos h20, if_pos h20]
      · rw [if_neg h20, if_neg h20]
  · omega
end Go.Proofs.YtgpmhmdofefdcaaGreat

namespace Go.Proofs.YtgpmhmdofefdcaaGreat
set_option linter.unusedVariables false

/-- Where the node that goes off and another one stand behind t bits. -/
def OfS (F : Fr) (t : Nat) (z y : Ct) : Prop :=
  (∃ k o, k ≤ 15 ∧ o < cyN k ∧ t = 23 * k + o ∧ CyA F k o z y) ∨
  (∃ k o, 16 ≤ k ∧ k ≤ 30 ∧ o < 32 ∧ t = 376 + 32 * (k - 16) + o ∧ CyB F k o z y) ∨
  (∃ o, o ≤ 1420 ∧ t = 856 + o ∧ CyC F o z y) ∨
  (∃ i, i ≤ (putL (boL F)).length + 13 ∧ t = 2277 + i ∧ ∃ z' y' e e', z = wE z' e ∧ y = wE y' e' ∧ RoN F zeC i (some F) true z' ∧ RoN F (cfR 32) i none false y') ∨
  ((putL (boL F)).length + 2290 < t ∧ ∃ z' y' e e', z = wE z' e ∧ y = wE y' e' ∧ Idl zeC none z' ∧ Idl (evC (cfR 32) 9) none y')

/-- The first node samples this one turned about. -/
def ofW (t : Nat) : Bool := decide ((t < 376 ∧ t = 23 * min (t / 23) 15) ∨ (376 ≤ t ∧ t ≤ 856 ∧ (t - 376) % 32 = 0))
/-- The bus. -/
def ofX (F : Fr) (t : Nat) : Bool :=
  if t < 376 then decide (12 ≤ t - 23 * min (t / 23) 15) else if t < 856 then decide (1 ≤ (t - 376) % 32 ∧ (t - 376) % 32 ≤ 6) || decide (13 ≤ (t - 376) % 32) else if t < 2277 then cyO (t - 856)
  else if t < (putL (boL F)).length + 2290 then xB F (t - 2277) else true
/-- What happens at the first node. -/
def ofH (F : Fr) (t : Nat) : Nat := if t < 856 then (if ofW t then 4 else 0) else if t = 856 then 10 else if t = 2276 then 11 else if t = (putL (boL F)).length + 2286 then 1 else 0

theorem cf32 : CfA (cfR 32) := ⟨by decide, by decide, by decide⟩
theorem idle_no (A : Ct) (h : A.has = (none : Option Fr).isSome) : idleC (phC A 0 0 false) true = (phC A 0 0 false, noH) := by
  have h2 : (phC A 0 0 false).has = false := h
  unfold idleC
  rw [if_pos rfl, if_neg (by rw [h2]; simp)]
theorem idl_step {cf : Cf} {c : Ct} (h : Idl cf none c) : stC c true = (c, noH) ∧ dvC c = true ∧ c.ph = 0 := by
  obtain ⟨A, rfl, a1, a2, a3⟩ := h
  refine ⟨?_, ?_, rfl⟩
  · have e1 : stC (phC A 0 0 false) true = idleC (phC A 0 0 false) true := by unfold stC; rw [if_pos (show (phC A 0 0 false).ph = 0 from rfl)]
    rw [e1]
    exact idle_no A a2
  · show (!A.has) = true
    rw [a2]; rfl
theorem wE_wE (c : Ct) (e f : Bool) : wE (wE c e) f = wE c f := rfl

theorem of_begin {F : Fr} {y : Ct} (hy : y = c0) : OfS F 0 (giC F) y := by
  subst hy
  exact .inl ⟨0, 0, by omega, by decide, rfl, .inl ⟨rfl, false, false, false, rfl, rfl⟩⟩

set_option maxRecDepth 20000 in
theorem of_step {F : Fr} (hF : Good F) {t : Nat} {z y : Ct} (h : OfS F t z y) :
    (dvC z && dvC y) = ofX F t ∧ (t ≤ 856 → (z.ph = 0 ↔ ofW t = true) ∧ z.has = true) ∧
    OfS F (t + 1) (stC z (if ofW t then !ofX F t else ofX F t)).1 (stC y (ofX F t)).1 ∧
    (stC z (if ofW t then !ofX F t else ofX F t)).2.1 = ofH F t ∧ (stC y (ofX F t)).2.1 ≠ 10 ∧ ((stC y (ofX F t)).2.1 = 2 ↔ t = (putL (boL F)).length + 2285) ∧ ((stC y (ofX F t)).2.1 = 2 → (stC y (ofX F t)).2.2 = F) := by
  have hP := P_pos F
  have hcalm : ∀ r : Hp, calm r → t ≠ (putL (boL F)).length + 2285 → r.1 ≠ 10 ∧ (r.1 = 2 ↔ t = (putL (boL F)).length + 2285) ∧ (r.1 = 2 → r.2 = F) := fun r hr ht => ⟨hr.2, ⟨fun e => absurd e hr.1, fun e => absurd e ht⟩, fun e => absurd e hr.1⟩
  rcases h with ⟨k, o, hk, ho, ht, h⟩ | ⟨k, o, hk, hk2, ho, ht, h⟩ | ⟨o, ho, ht, h⟩ | ⟨i, hi, ht, z', y', e, e', rfl, rfl, hz, hy⟩ | ⟨ht, z', y', e, e', rfl, rfl, hz, hy⟩
  · have hn : cyN k = if k = 15 then 31 else 23 := by unfold cyN; split <;> split <;> omega
    have ho' : o < 31 ∧ (k ≤ 14 → o < 23) := by rw [hn] at ho; split at ho <;> omega
    have hmin : min (t / 23) 15 = k := by omega
    have hlt : t < 376 := by omega
    have hX : ofX F t = cyX k o := by
      unfold ofX cyX
      rw [if_pos hlt, if_pos hk, hmin]; congr 1; apply propext; omega
    have hW : ofW t = decide (o = 0) := by
      unfold ofW; congr 1; apply propext; rw [hmin]; omega
    obtain ⟨s1, s2, s3, s4, s5, s6⟩ := cyA_step hk ho h
    have hflip : (if ofW t then !ofX F t else ofX F t) = if o = 0 then true else cyX k o := by
      rw [hX, hW]
      by_cases h0 : o = 0
      · subst h0; rw [if_pos (by simp), if_pos rfl]; unfold cyX; rw [if_pos hk]; rfl
      · rw [if_neg (by simpa using h0), if_neg h0]
    rw [hflip, hX]
    refine ⟨s1, fun _ => ⟨by rw [hW]; simpa using s2, s3⟩, ?_, ?_, hcalm _ s6 (by omega)⟩
    · by_cases he : o + 1 = cyN k
      · rw [if_pos he] at s4
        rw [he.symm] at hn
        by_cases h15 : k = 15
        · subst h15
          rw [if_pos rfl] at hn
          exact .inr (.inl ⟨16, 0, by omega, by omega, by omega, by omega, .inl ⟨rfl, s4⟩⟩)
        · rw [if_neg h15] at hn
          refine .inl ⟨k + 1, 0, by omega, ?_, by omega, .inl ⟨rfl, s4⟩⟩
          unfold cyN; split
          · omega
          · split <;> omega
      · rw [if_neg he] at s4
        exact .inl ⟨k, o + 1, hk, by omega, by omega, s4⟩
    · have e : ofH F t = if o = 0 then 4 else 0 := by unfold ofH; rw [if_pos (show t < 856 by omega), hW]; simp
      rw [s5, e]
      split <;> rfl
  · have hn : cyN k = 32 := by unfold cyN; rw [if_neg (by omega), if_neg (by omega)]
    have hmod : (t - 376) % 32 = o := by omega
    have h856 : t < 856 := by omega
    have h376 : ¬ t < 376 := by omega
    have hX : ofX F t = cyX k o := by
      unfold ofX cyX
      rw [if_neg h376, if_pos h856, if_neg (by omega), hmod]
    have hW : ofW t = decide (o = 0) := by
      unfold ofW; congr 1; apply propext; rw [hmod]; omega
    obtain ⟨s1, s2, s3, s4, s5, s6⟩ := cyB_step hk hk2 (by omega) h
    have hflip : (if ofW t then !ofX F t else ofX F t) = if o = 0 then true else cyX k o := by
      rw [hX, hW]
      by_cases h0 : o = 0
      · subst h0; rw [if_pos (by simp), if_pos rfl]; unfold cyX; rw [if_neg (by omega)]; rfl
      · rw [if_neg (by simpa using h0), if_neg h0]
    rw [hflip, hX]
    refine ⟨s1, fun _ => ⟨by rw [hW]; simpa using s2, s3⟩, ?_, ?_, hcalm _ s6 (by omega)⟩
    · by_cases he : o + 1 = cyN k
      · rw [if_pos he] at s4
        by_cases h30 : k = 30
        · subst h30
          exact .inr (.inr (.inl ⟨0, by omega, by omega, .inl ⟨rfl, s4⟩⟩))
        · exact .inr (.inl ⟨k + 1, 0, by omega, by omega, by omega, by omega, .inl ⟨rfl, s4⟩⟩)
      · rw [if_neg he] at s4
        exact .inr (.inl ⟨k, o + 1, hk, hk2, by omega, by omega, s4⟩)
    · have e : ofH F t = if o = 0 then 4 else 0 := by unfold ofH; rw [if_pos h856, hW]; simp
      rw [s5, e]
      split <;> rfl
  · have hX : ofX F t = cyO o := by
      unfold ofX
      rw [if_neg (by omega), if_neg (by omega), if_pos (by omega), show t - 856 = o by omega]
    have hW : ofW t = decide (o = 0) := by
      unfold ofW; congr 1; apply propext; omega
    obtain ⟨s1, s2, s3, s4, s5, s6⟩ := cyC_step ho h
    have hflip : (if ofW t then !ofX F t else ofX F t) = if o = 0 then true else cyO o := by
      rw [hX, hW]
      by_cases h0 : o = 0
      · subst h0; rfl
      · rw [if_neg (by simpa using h0), if_neg h0]
    rw [hflip, hX]
    refine ⟨s1, fun _ => ⟨by rw [hW]; simpa using s2, s3⟩, ?_, ?_, hcalm _ s6 (by omega)⟩
    · by_cases he : o = 1420
      · subst he
        refine .inr (.inr (.inr (.inl ⟨0, by omega, by omega, ?_⟩)))
        rcases s4 with ⟨h1, _⟩ | ⟨_, h1, _⟩ | ⟨_, h1, _⟩ | ⟨_, h1, _⟩ | ⟨_, h1, _⟩ | ⟨_, e, hz, hy⟩
        · omega
        · omega
        · omega
        · omega
        · omega
        · rw [hz, hy]
          exact ⟨phC (giC F) 0 0 false, phC (yC 32) 0 0 false, e, true, rfl, rfl, .inl ⟨rfl, giC F, rfl, rfl, rfl, rfl⟩, .inl ⟨rfl, yC 32, rfl, rfl, rfl, rfl⟩⟩
      · exact .inr (.inr (.inl ⟨o + 1, by omega, by omega, s4⟩))
    · have e : ofH F t = if o = 0 then 10 else if o = 1420 then 11 else 0 := by
        unfold ofH
        rw [if_neg (show ¬ t < 856 by omega)]
        by_cases h0 : o = 0
        · rw [if_pos (show t = 856 by omega), if_pos h0]
        · rw [if_neg (show ¬ t = 856 by omega), if_neg h0]
          by_cases h1 : o = 1420
          · rw [if_pos (show t = 2276 by omega), if_pos h1]
          · rw [if_neg (show ¬ t = 2276 by omega), if_neg h1, if_neg (show ¬ t = (putL (boL F)).length + 2286 by omega)]
      rw [s5, e]
      split
      · rfl
      · split <;> rfl
  · have hW : ofW t = false := by unfold ofW; exact decide_eq_false (by omega)
    rw [hW, if_neg Bool.false_ne_true]
    have hX : ofX F t = if i < (putL (boL F)).length + 13 then xB F i else true := by
      unfold ofX
      rw [if_neg (by omega), if_neg (by omega), if_neg (by omega), show t - 2277 = i by omega]
      by_cases e : i < (putL (boL F)).length + 13
      · rw [if_pos (by omega), if_pos e]
      · rw [if_neg (by omega), if_neg e]
    rw [hX]
    have nz : NodeOK F (some F) true := om_node 0
    have ny : NodeOK F none false := om_node 1
    by_cases hi2 : i < (putL (boL F)).length + 13
    · rw [if_pos hi2]
      obtain ⟨z1, z2, z3, z4⟩ := ro_step hF cfA_zero nz hi2 hz
      obtain ⟨y1, y2, y3, y4⟩ := ro_step hF cf32 ny hi2 hy
      obtain ⟨a0, a1, a2⟩ := ro_hap hF cfA_zero nz hi2 hz
      obtain ⟨b0, b1, b2⟩ := ro_hap hF cf32 ny hi2 hy
      have hz2 : (stC z' (xB F i)).2 = if i = (putL (boL F)).length + 9 then (1, F) else noH := by
        rcases z2 with h | ⟨h, _⟩
        · exact h
        · cases h
      rw [(st_err (ro_ph hz) e _ a0).1, (st_err (ro_ph hy) e' _ b0).1]
      refine ⟨?_, fun h => by omega, ?_, ?_, fun h => (by have h' : (stC y' (xB F i)).2.1 = 10 := h; omega), ?_, ?_⟩
      · show (dvC z' && dvC y') = _
        by_cases h10 : i < (putL (boL F)).length + 10
        · have p := z3 h10
          have q := y3 h10
          rw [if_pos rfl] at p
          rw [if_neg Bool.false_ne_true] at q
          rw [p, q]
        · rw [z4 (by omega), y4 (by omega)]
          unfold xB
          rw [if_neg (by omega)]; rfl
      · exact .inr (.inr (.inr (.inl ⟨i + 1, by omega, by omega, _, _, e, e', rfl, rfl, z1, y1⟩)))
      · have e : ofH F t = if i = (putL (boL F)).length + 9 then 1 else 0 := by
          unfold ofH
          rw [if_neg (show ¬ t < 856 by omega), if_neg (show ¬ t = 856 by omega), if_neg (show ¬ t = 2276 by omega)]
          by_cases h9 : i = (putL (boL F)).length + 9
          · rw [if_pos h9, if_pos (show t = (putL (boL F)).length + 2286 by omega)]
          · rw [if_neg h9, if_neg (show ¬ t = (putL (boL F)).length + 2286 by omega)]
        show (stC z' (xB F i)).2.1 = _
        rw [hz2, e]
        split <;> rfl
      · exact b1.trans ⟨fun h => by omega, fun h => ⟨rfl, by omega⟩⟩
      · intro h2
        have h8 := (b1.1 h2).2
        rcases y2 with h | ⟨_, h, _⟩
        · show (stC y' (xB F i)).2.2 = F
          rw [h, if_neg Bool.false_ne_true, if_pos h8]
        · omega
    · obtain rfl : i = (putL (boL F)).length + 13 := by omega
      rw [if_neg hi2]
      have hz' := ro_end hz
      have hy' := ro_end hy
      rw [if_pos rfl, if_pos rfl, ev_naught.1] at hz'
      rw [if_neg Bool.false_ne_true, if_neg Bool.false_ne_true] at hy'
      obtain ⟨u1, u2, u3⟩ := idl_step hz'
      obtain ⟨v1, v2, v3⟩ := idl_step hy'
      rw [(st_err (.inl u3) e true (by rw [u1]; show 0 < 4; omega)).1, (st_err (.inl v3) e' true (by rw [v1]; show 0 < 4; omega)).1, u1, v1]
      refine ⟨by show (dvC z' && dvC y') = true; rw [u2, v2]; rfl, fun h => by omega, .inr (.inr (.inr (.inr ⟨by omega, z', y', e, e', rfl, rfl, hz', hy'⟩))), ?_, by show 0 ≠ 10; omega, ?_, ?_⟩
      · unfold ofH
        rw [if_neg (by omega), if_neg (by omega), if_neg (by omega), if_neg (by omega)]; rfl
      · show (0 = 2) ↔ _; simp; omega
      · intro h; cases h
  · have hW : ofW t = false := by unfold ofW; exact decide_eq_false (by omega)
    have hX : ofX F t = true := by
      unfold ofX
      rw [if_neg (by omega), if_neg (by omega), if_neg (by omega), if_neg (by omega)]
    rw [hW, if_neg Bool.false_ne_true, hX]
    obtain ⟨u1, u2, u3⟩ := idl_step hz
    obtain ⟨v1, v2, v3⟩ := idl_step hy
    rw [(st_err (.inl u3) e true (by rw [u1]; show 0 < 4; omega)).1, (st_err (.inl v3) e' true (by rw [v1]; show 0 < 4; omega)).1, u1, v1]
    refine ⟨by show (dvC z' && dvC y') = true; rw [u2, v2]; rfl, fun h => by omega, .inr (.inr (.inr (.inr ⟨by omega, z', y', e, e', rfl, rfl, hz, hy⟩))), ?_, by show 0 ≠ 10; omega, ?_, ?_⟩
    · unfold ofH
      rw [if_neg (by omega), if_neg (by omega), if_neg (by omega), if_neg (by omega)]; rfl
    · show (0 = 2) ↔ _; simp; omega
    · intro h; cases h
end Go.Proofs.YtgpmhmdofefdcaaGreat
