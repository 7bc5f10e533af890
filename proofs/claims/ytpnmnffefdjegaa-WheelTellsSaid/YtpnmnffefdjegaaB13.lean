/-
  A wheel in its box: its map of what is due, its list of slots, each a map; contracts of made, slot, Now, Len and Left.
-/
import Derived.Test.YtpnmnffefdjegaaM13
import Derived.Test.YtpnmnffefdjegaaRw
import Derived.Test.YtpnmnffefdjegaaBox5
import Derived.LaidEqlPtr
import Derived.WalkSmall
namespace Go.Proofs.Ytpnmnffefdjegaa
open Go.RowKit Go.Maps
set_option linter.unusedVariables false

theorem cell1 {w : World} {g : Nat} {E : TypeId} {v0 : Value} (h : w.heap[g]? = some (.cells #[v0] E (0, 0))) : w.cell? ⟨g, 0, none⟩ = some v0 ∧ w.frozen? ⟨g, 0, none⟩ = false :=
  ⟨by rw [cell_of_row w g 0 _ _ _ h]; rfl, frozen_of_row w g 0 _ _ h⟩

/-- Where a wheel lies: its box, the map of what is due, the list of slots, and the slots. -/
structure Wl where
  g : Nat
  bd : Nat
  sb : Nat
  bs : List Nat
def Wl.S (x : Wl) (b : Nat) : Prop := b = x.g ∨ b = x.bd ∨ b = x.sb ∨ b ∈ x.bs
abbrev whV (x : Wl) (m : Wh) : Array Value := #[.pointer (some ⟨x.g, 0, none⟩), .int .i64 m.most, .int .i64 m.now, .map (some x.bd), .slice (some ⟨x.sb, 0, none⟩) x.bs.length x.bs.length]
abbrev mpV (b : Nat) : Value := .map (some b)

structure WhO (B : Nat) (w : World) (x : Wl) (m : Wh) : Prop where
  box : w.heap[x.g]? = some (.cells (whV x m) 58 (0, 0))
  row : RL mpV w (some ⟨x.sb, 0, none⟩) x.bs.length x.bs.length x.bs
  due : ∃ D, MI w x.bd m.L.length D ∧ Due D m.L
  slo : ∀ (k b : Nat), x.bs[k]? = some b → ∃ D, MU w b (slotIds m.L x.bs.length k).length D ∧ Met D (slotIds m.L x.bs.length k)
  n1 : 1 ≤ x.bs.length
  n2 : x.bs.length ≤ 1024
  inv : WhI m
  gd : x.g ≠ x.bd
  gs : x.g ≠ x.sb
  ds : x.bd ≠ x.sb
  gb : x.g ∉ x.bs
  db : x.bd ∉ x.bs
  sb : x.sb ∉ x.bs
  nd : x.bs.Nodup
  hB : ∀ b, x.S b → B ≤ b
  sL : ∀ b, x.S b → b < w.heap.size

section
variable {B : Nat} {w w1 : World} {x : Wl} {m : Wh} {S1 : Nat → Prop} {v : Value}

theorem Wl.sg (x : Wl) : x.S x.g := .inl rfl
theorem Wl.sd (x : Wl) : x.S x.bd := .inr (.inl rfl)
theorem Wl.ss (x : Wl) : x.S x.sb := .inr (.inr (.inl rfl))
theorem Wl.sk (x : Wl) {k b : Nat} (h : x.bs[k]? = some b) : x.S b := .inr (.inr (.inr (List.mem_of_getElem? h)))

theorem WhO.ch (h : WhO B w x m) (k : Ch S1 w w1) (hn : ∀ b, x.S b → ¬ S1 b) : WhO B w1 x m := by
  have hk : ∀ b, x.S b → w1.heap[b]? = w.heap[b]? := fun b hb => k.block b (h.sL b hb) (hn b hb)
  refine ⟨(hk _ x.sg).trans h.box, h.row.ch k (fun q hq => by cases hq; exact hn _ x.ss), ?_, fun i b hb => ?_, h.n1, h.n2, h.inv, h.gd, h.gs, h.ds, h.gb, h.db, h.sb, h.nd, h.hB, fun b hb => Nat.lt_of_lt_of_le (h.sL b hb) k.size⟩
  · obtain ⟨D, h1, h2⟩ := h.due
    exact ⟨D, h1.at (hk _ x.sd), h2⟩
  · obtain ⟨D, h1, h2⟩ := h.slo i b hb
    exact ⟨D, h1.at (hk _ (x.sk hb)), h2⟩
theorem WhO.below (h : WhO B w x m) (k : Below w.heap.size w w1) : WhO B w1 x m := h.ch (S1 := fun _ => False) (Ch.of_below k) (fun _ _ e => e)
theorem WhO.alloc (h : WhO B w x m) (o : Obj) : WhO B (w.alloc o) x m := h.below (bnew0 w o)
theorem WhO.thaw (h : WhO B w x m) (i : Nat) : w.frozen? ⟨x.g, i, none⟩ = false := bx_thaw h.box i
theorem WhO.mono {B' : Nat} (h : WhO B w x m) (hb : B' ≤ B) : WhO B' w x m :=
  ⟨h.box, h.row, h.due, h.slo, h.n1, h.n2, h.inv, h.gd, h.gs, h.ds, h.gb, h.db, h.sb, h.nd, fun b hs => Nat.le_trans hb (h.hB b hs), h.sL⟩

theorem eqWh (w : World) (g : Nat) : (binOp .eql 23 (.pointer (some ⟨g, 0, none⟩)) (.pointer (some ⟨g, 0, none⟩))).run Try.prog w = .ok (.bool true) w := by
  obtain ⟨j, hj⟩ := Option.isSome_iff_exists.1 (show (Try.prog.info? 58).isSome = true by kernel_rfl)
  exact run_eql_ptr_same w _ (by kernel_rfl) hj
theorem eqWn (w : World) (p : Addr) : (binOp .eql 23 (.pointer none) (.pointer (some p))).run Try.prog w = .ok (.bool false) w := by
  have h : ∀ d : Nat, (Op.equalIn (d + 1) 23 (.pointer none) (.pointer (some p))).run Try.prog w = .ok false w := fun d => by
    simp [Op.equalIn, run_underlying (show Try.prog.underlying 23 = some (.pointer 58) by kernel_rfl)]
  simp only [binOp]
  simp [Op.equal, Op.maxDepth, h 9999]

set_option maxRecDepth 100000 in
theorem whMade_any (h : WhO B w x m) : Calls Try.prog 23 #[.pointer (some ⟨x.g, 0, none⟩)] w fun e w' => e = .returned (.bool true) ∧ w = w' := by
  have q0 := (bx5 h.box).1
  have qe := fun w => eqWh w x.g
  go_enter Try.func23, Try.ntmps23
  go_wp2
  go_ret
  exact ⟨rfl, rfl⟩

set_option maxRecDepth 100000 in
theorem whNow_any (h : WhO B w x m) : Calls Try.prog 20 #[.pointer (some ⟨x.g, 0, none⟩)] w fun e w' => e = .returned (.int .i64 m.now) ∧ w = w' := by
  have q3 := (bx5 h.box).2.2.1
  have hm := whMade_any h
  go_enter Try.func20, Try.ntmps20
  go_wp2_with (go_at_call 23; (refine hm.mono ?_); rintro e w1 ⟨rfl, rfl⟩)
  go_ret
  exact ⟨rfl, rfl⟩

set_option maxRecDepth 100000 in
theorem whLen_any (h : WhO B w x m) : Calls Try.prog 21 #[.pointer (some ⟨x.g, 0, none⟩)] w fun e w' => e = .returned (.int .i64 (m.L.length : Int)) ∧ w = w' := by
  have q3 := (bx5 h.box).2.2.2.1
  have hm := whMade_any h
  obtain ⟨D, h1, h2⟩ := h.due
  have hl := fun ty => h1.len Try.underlying50 ty
  have hs : Maps.size D = m.L.length := by rw [h2.met.size]; simp [ids]
  rw [hs] at hl
  go_enter Try.func21, Try.ntmps21
  go_wp2_with (go_at_call 23; (refine hm.mono ?_); rintro e w1 ⟨rfl, rfl⟩)
  go_ret
  exact ⟨rfl, rfl⟩
end
end Go.Proofs.Ytpnmnffefdjegaa
