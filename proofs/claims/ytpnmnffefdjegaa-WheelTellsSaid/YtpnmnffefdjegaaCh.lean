/-
  What a call changes: only blocks of a set S of old ones; all else that was there is as it was.
-/
import Derived.Test.YtpnmnffefdjegaaBase2
import Derived.Test.YtpnmnffefdjegaaBaseK
namespace Go.Proofs.Ytpnmnffefdjegaa
open Go.RowKit
set_option linter.unusedVariables false

structure Ch (S : Nat → Prop) (w w' : World) : Prop where
  os : w'.os = w.os
  tape : w'.tape = w.tape
  output : w'.output = w.output
  size : w.heap.size ≤ w'.heap.size
  block : ∀ k, k < w.heap.size → ¬ S k → w'.heap[k]? = w.heap[k]?

section
variable {S S1 S2 : Nat → Prop} {w w0 w1 w2 : World}

theorem Ch.refl (S : Nat → Prop) (w : World) : Ch S w w := ⟨rfl, rfl, rfl, Nat.le_refl _, fun _ _ _ => rfl⟩
theorem Ch.trans (h : Ch S w w1) (k : Ch S1 w1 w2) (hs : ∀ b, S1 b → S b ∨ w.heap.size ≤ b) : Ch S w w2 :=
  ⟨k.os.trans h.os, k.tape.trans h.tape, k.output.trans h.output, Nat.le_trans h.size k.size, fun i hi hg =>
    (k.block i (Nat.lt_of_lt_of_le hi h.size) (fun e => by rcases hs i e with x | x; exact hg x; omega)).trans (h.block i hi hg)⟩
theorem Ch.of_below (k : Below w.heap.size w w1) : Ch S w w1 := ⟨k.os, k.tape, k.output, k.size, fun i hi _ => k.block i hi⟩
theorem Ch.call (h : Ch S w w1) (k : Below w1.heap.size w1 w2) : Ch S w w2 := h.trans (Ch.of_below (S := fun _ => False) k) (fun _ e => e.elim)
theorem Ch.alloc (h : Ch S w w1) (o : Obj) : Ch S w (w1.alloc o) := h.call (bnew0 w1 o)
theorem Ch.setCell (h : Ch S w w1) {p : Addr} (hp : S p.block ∨ w.heap.size ≤ p.block) (u : Value) : Ch S w (w1.setCell p u) :=
  ⟨h.os, h.tape, h.output, by simpa [World.setCell] using h.size, fun k hk hg => by
    rw [Below.heap_setCell _ _ _ _ (by rcases hp with e | e; exact fun x => hg (x ▸ e); omega)]
    exact h.block k hk hg⟩
theorem Ch.setRow (h : Ch S w w1) {p : Nat} (hp : S p ∨ w.heap.size ≤ p) (cs : Array Value) : Ch S w (w1.setRow p cs) :=
  ⟨h.os, h.tape, h.output, by simpa using h.size, fun k hk hg => by
    rw [setRow_other _ _ _ _ (by rcases hp with e | e; exact fun x => hg (x ▸ e); omega)]
    exact h.block k hk hg⟩
theorem Ch.drew (h : Ch S w w1) : Ch S w w1.drew := ⟨h.os, h.tape, h.output, h.size, h.block⟩
theorem Ch.mono (h : Ch S w w1) (hs : ∀ b, S b → S1 b) : Ch S1 w w1 := ⟨h.os, h.tape, h.output, h.size, fun k hk hg => h.block k hk (fun e => hg (hs k e))⟩
/-- All that it may change lies from block B on. -/
theorem Ch.below {B : Nat} (k : Ch S w w1) (h : Below B w0 w) (hB : B ≤ w0.heap.size) (hs : ∀ b, S b → B ≤ b) : Below B w0 w1 :=
  h.trans ⟨k.os, k.tape, k.output, k.size, fun i hi => k.block i (by have := h.size; omega) (fun e => by have := hs i e; omega)⟩

variable {α : Type} {f : α → Value} {enc : α → List Value} {q : Nat} {E : TypeId} {B n c : Nat} {a : Option Addr} {l : List α} {g : Nat} {o : Obj}
theorem Ch.bx (k : Ch S w w1) (h : w.heap[g]? = some o) (hn : ¬ S g) : w1.heap[g]? = some o := (k.block g (bx_lt h) hn).trans h
theorem RL.ch (h : RL f w a n c l) (k : Ch S w w1) (hn : ∀ p, a = some p → ¬ S p.block) : RL f w1 a n c l :=
  ⟨h.len, h.cap, fun h0 => by
    obtain ⟨b, off, ha, hlt, hc⟩ := h.cell h0
    refine ⟨b, off, ha, Nat.lt_of_lt_of_le hlt k.size, fun i x hx => ?_⟩
    rw [World.cell?_of_block (w := w) (k.block b hlt (hn _ ha))]; exact hc i x hx⟩
theorem RK.ch (h : RK enc q w a n c l) (k : Ch S w w1) (hn : ∀ p, a = some p → ¬ S p.block) : RK enc q w1 a n c l :=
  ⟨h.len, h.cap, fun h0 => by
    obtain ⟨b, off, ha, hlt, hc⟩ := h.cell h0
    refine ⟨b, off, ha, Nat.lt_of_lt_of_le hlt k.size, fun i x j v hx hv => ?_⟩
    rw [World.cell?_of_block (w := w) (k.block b hlt (hn _ ha))]; exact hc i x j v hx hv⟩
theorem OL.ch (h : OL f E B w a n c l) (k : Ch S w w1) (hn : ∀ p, a = some p → ¬ S p.block) : OL f E B w1 a n c l :=
  h.kept fun b hb => k.block b (h.ltB hb).1 (hn _ hb)
theorem OK.ch (h : OK enc q E B w a n c l) (k : Ch S w w1) (hn : ∀ p, a = some p → ¬ S p.block) : OK enc q E B w1 a n c l :=
  h.kept fun b hb => k.block b (h.ltB hb).1 (hn _ hb)
end
end Go.Proofs.Ytpnmnffefdjegaa
