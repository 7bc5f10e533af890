/-
  Two wheels that lie apart.
-/
import Derived.Test.YtpnmnffefdjegaaB13i
import Derived.Test.YtpnmnffefdjegaaOpen13
import Derived.Test.YtpnmnffefdjegaaAnd
import Derived.Test.YtpnmnffefdjegaaRt
import Derived.Test.YtpnmnffefdjegaaCt0
import Derived.Deep.DeepCutAuto
import Derived.Deep.CutBlock
namespace Go.Proofs.Ytpnmnffefdjegaa
open Go.RowKit Go.Maps Go.Sort
set_option linter.unusedVariables false

structure TwO (B : Nat) (w : World) (x y : Wl) (m m2 : Wh) : Prop where
  l : WhO B w x m
  r : WhO B w y m2
  dis : ∀ b, x.S b → ¬ y.S b

section
variable {B : Nat} {w w1 : World} {x y : Wl} {m m2 m' : Wh}
theorem TwO.below (h : TwO B w x y m m2) (k : Below w.heap.size w w1) : TwO B w1 x y m m2 := ⟨h.l.below k, h.r.below k, h.dis⟩
theorem TwO.left (h : TwO B w x y m m2) (h' : WhO B w1 x m') (c : Ch x.S w w1) : TwO B w1 x y m' m2 := ⟨h', h.r.ch c (fun b hb hx => h.dis b hx hb), h.dis⟩
theorem TwO.right (h : TwO B w x y m m2) (h' : WhO B w1 y m') (c : Ch y.S w w1) : TwO B w1 x y m m' := ⟨h.l.ch c (fun b hb hy => h.dis b hb hy), h', h.dis⟩
theorem TwO.outL (h : TwO B w x y m m2) (c : Ch x.S w w1) {w0 : World} (hB : B ≤ w0.heap.size) (g : Below B w0 w) : Below B w0 w1 := c.below g hB h.l.hB
theorem TwO.outR (h : TwO B w x y m m2) (c : Ch y.S w w1) {w0 : World} (hB : B ≤ w0.heap.size) (g : Below B w0 w) : Below B w0 w1 := c.below g hB h.r.hB
/-- A block that is newer than both lies in neither. -/
theorem TwO.new (h : TwO B w x y m m2) {b : Nat} (hb : w.heap.size ≤ b) : ¬ x.S b ∧ ¬ y.S b := ⟨fun e => by have := h.l.sL b e; omega, fun e => by have := h.r.sL b e; omega⟩
end
theorem two_start {B : Nat} {w1 w2 : World} {x y : Wl} {m m2 : Wh} (h1 : WhO B w1 x m) (h2 : WhO w1.heap.size w2 y m2) (g : Below w1.heap.size w1 w2) (hB : B ≤ w1.heap.size) : TwO B w2 x y m m2 :=
  ⟨h1.below g, h2.mono hB, fun b hx hy => by have := h1.sL b hx; have := h2.hB b hy; omega⟩
theorem bx3o {w : World} {g : Nat} {E : TypeId} {v0 v1 v2 : Value} (h : w.heap[g]? = some (.cells #[v0, v1, v2] E (0, 0))) : w.cell? ⟨g, 0, none⟩ = some v0 ∧ w.cell? ⟨g, 1, none⟩ = some v1 ∧ w.cell? ⟨g, 2, none⟩ = some v2 :=
  ⟨by rw [cell_of_row w g 0 _ _ _ h]; rfl, by rw [cell_of_row w g 1 _ _ _ h]; rfl, by rw [cell_of_row w g 2 _ _ _ h]; rfl⟩
theorem set_now (m : Wh) (id after : Int) : (setW m id after).now = m.now ∧ (setW m id after).most = m.most := by
  unfold setW putW; split
  · exact ⟨rfl, rfl⟩
  · split <;> exact ⟨rfl, rfl⟩
end Go.Proofs.Ytpnmnffefdjegaa
