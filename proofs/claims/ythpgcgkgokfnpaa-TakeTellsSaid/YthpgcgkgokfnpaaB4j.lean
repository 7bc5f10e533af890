/-
  A row of bits that is read from its beginning on: contract of take.
-/
import Derived.Test.YthpgcgkgokfnpaaB4
namespace Go.Proofs.Ythpgcgkgokfnpaa
open Go.RowKit Go.Sort
set_option linter.unusedVariables false

/-- A row whose bits were there at w0 lies in block g. -/
def Rw (w0 w : World) (g : Nat) (l : List Bool) : Prop := ∃ a n c, w.heap[g]? = some (.cells #[.slice a n c] 77 (0, 0)) ∧ RL .bool w0 a n c l

theorem Rw.grown {w0 w w' : World} {g : Nat} {l : List Bool} (h : Rw w0 w g l) (he : w'.heap[g]? = w.heap[g]?) : Rw w0 w' g l := by
  obtain ⟨a, n, c, hb, hr⟩ := h
  exact ⟨a, n, c, by rw [he]; exact hb, hr⟩

theorem one_bx' {w : World} {g : Nat} {E : TypeId} {v0 : Value} (h : w.heap[g]? = some (.cells #[v0] E (0, 0))) : w.cell? ⟨g, 0, none⟩ = some v0 ∧ w.frozen? ⟨g, 0, none⟩ = false :=
  ⟨by rw [cell_of_row w g 0 _ _ _ h]; rfl, frozen_of_row w g 0 _ _ h⟩

theorem rtake_any (w0 w : World) (g : Nat) (l : List Bool) (m : Nat) (hg : w0.heap.size ≤ g) (hb : Below w0.heap.size w0 w) (hr : Rw w0 w g l) (hm : m ≤ l.length) (hm1 : m ≤ 1000) :
    Calls Try.prog 49 #[.pointer (some ⟨g, 0, none⟩), .int .i64 (m : Int)] w fun e w' => e = .returned (.int .u32 ((numL (l.take m) % 4294967296 : Nat) : Int)) ∧ Rw w0 w' g (l.drop m) ∧ w.grownBy w' (some g) := by
  obtain ⟨a, n, c, hbx, hrl⟩ := hr
  obtain ⟨c0, f0⟩ := one_bx' hbx
  have hmn : m ≤ n := by rw [← hrl.len]; exact hm
  have hlt := bx_lt hbx
  have hw := hrl.below hb
  obtain ⟨v, hv⟩ : ∃ v, v = numL (l.take m) % 4294967296 := ⟨_, rfl⟩
  rw [← hv]
  have HV := hid hv; clear hv
  obtain ⟨a1, p1, p2, hr1⟩ := run_cutTo tB hrl .i64 m hmn
  obtain ⟨a2, c2, p3, p4, hr2⟩ := run_cutFrom tB hrl .i64 m hmn
  have hw1 := hr1.below hb
  have HR2 := hid hr2; clear hr2
  clear hrl hr1 hw
  go_enter Try.func49, Try.ntmps49
  go_wp2_with (first
    | (go_at_call 48; refine (number_any w a1 m c _ hw1 (by omega)).mono ?_; rw [← HV.out]; rintro e w2 ⟨rfl, rfl⟩))
  go_ret
  refine ⟨rfl, ⟨a2, n - m, c2, heap_setCell_same _ g 0 _ _ _ hbx, HR2.out⟩, rfl, rfl, rfl, by simp, fun q h1 h2 => Below.heap_setCell _ _ _ _ (by simpa using h2)⟩
end Go.Proofs.Ythpgcgkgokfnpaa
