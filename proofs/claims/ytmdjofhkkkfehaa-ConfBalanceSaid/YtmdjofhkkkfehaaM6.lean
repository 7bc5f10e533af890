/-
  Fault confinement: counters, and what the functions of layer 6 say of them as plain functions. Nothing here speaks of the program.
-/
import Derived.Test.YtmdjofhkkkfehaaBase
namespace Go.Proofs.Ytmdjofhkkkfehaa
set_option linter.unusedVariables false

/-- Counters: TEC, REC, whether off, Run, Times. -/
structure Cf where
  t : Int
  r : Int
  o : Bool
  n : Int
  m : Int
  deriving DecidableEq

/-- Whether a number is from least to most. -/
def wi (n a b : Int) : Bool := decide (a ≤ n) && decide (n ≤ b)

/-- Which counters are right. -/
def riC (c : Cf) : Bool := wi c.r 0 255 && (if c.o then wi c.t 256 263 && wi c.n 0 10 && wi c.m 0 127 else wi c.t 0 255 && decide (c.n = 0) && decide (c.m = 0))

/-- How a controller stands. -/
def moC (c : Cf) : Nat := if c.o || !riC c then 2 else if c.t > 127 ∨ c.r > 127 then 1 else 0

/-- REC after an event. -/
def reA (r : Int) (k : Nat) : Int :=
  if k = 1 then min (r + 1) 255 else if 2 ≤ k ∧ k ≤ 4 then min (r + 8) 255 else if k = 9 then (if r > 127 then 119 else max (r - 1) 0) else r

/-- TEC after an event. -/
def teA (t : Int) (k : Nat) : Int := if 5 ≤ k ∧ k ≤ 7 then t + 8 else if k = 8 then max (t - 1) 0 else t

/-- The counters of a controller that is on after an event. -/
def evO (c : Cf) (k : Nat) : Cf := ⟨teA c.t k, reA c.r k, decide (teA c.t k > 255), c.n, c.m⟩

/-- The error of an event. -/
def evE (c : Cf) (k : Nat) : Int := if riC c = false ∨ k < 1 ∨ 9 < k then 60 else 0

/-- The counters after an event. -/
def evC (c : Cf) (k : Nat) : Cf := if riC c = false ∨ k < 1 ∨ 9 < k then c else if c.o then c else evO c k

/-- The counters of a controller that is off after a recessive bit. -/
def upC (c : Cf) : Cf := if c.n + 1 < 11 then { c with n := c.n + 1 } else if c.m + 1 = 128 then ⟨0, 0, false, 0, 0⟩ else { c with n := 0, m := c.m + 1 }

/-- The counters after a bit. -/
def biC (c : Cf) (x : Bool) : Cf := if riC c = false ∨ c.o = false then c else if x then upC c else { c with n := 0 }

/-- Counters of naught. -/
def zeC : Cf := ⟨0, 0, false, 0, 0⟩

theorem wi_iff {n a b : Int} : wi n a b = true ↔ a ≤ n ∧ n ≤ b := by simp [wi]

theorem ri_on {c : Cf} (h : riC c = true) (ho : c.o = false) : 0 ≤ c.r ∧ c.r ≤ 255 ∧ 0 ≤ c.t ∧ c.t ≤ 255 ∧ c.n = 0 ∧ c.m = 0 := by
  simp [riC, ho, wi] at h; omega
theorem ri_off {c : Cf} (h : riC c = true) (ho : c.o = true) : 0 ≤ c.r ∧ c.r ≤ 255 ∧ 256 ≤ c.t ∧ c.t ≤ 263 ∧ 0 ≤ c.n ∧ c.n ≤ 10 ∧ 0 ≤ c.m ∧ c.m ≤ 127 := by
  simp [riC, ho, wi] at h; omega
end Go.Proofs.Ytmdjofhkkkfehaa
