/-
  Words on the document's own mails (jackstayref10.State, by value), and its find.
-/
import Derived.Test.YtffbkcjkmhjfnaaB10
import Derived.Test.YtffbkcjkmhjfnaaB1f
namespace Go.Proofs.Ytffbkcjkmhjfnaa
open Go.RowKit Go.Sort
set_option linter.unusedVariables false
set_option linter.unusedSimpArgs false

/-- A frame that waits, and whether it was given up. -/
abbrev Sl := Wt × Bool
abbrev slV (s : Sl) : Array Value := #[.int .i64 (s.1.2 : Int), .int .u32 (s.1.1.1.id : Int), .bool s.1.1.1.ext, .bool s.1.1.1.rem, .int .u8 (s.1.1.1.dlc : Int), .slice s.1.1.2.1 s.1.1.1.data.length s.1.1.2.2, .bool s.2]
abbrev slZ : Array Value := #[.int .i64 0, .int .u32 0, .bool false, .bool false, .int .u8 0, .slice none 0 0, .bool false]
theorem sl_ones (s : Sl) : (slV s).all (·.oneCell') = true := by kernel_rfl
def enS (s : Sl) : List Value := (slV s).toList
theorem enS_k : EnK enS 7 := ⟨fun _ => rfl, fun p v hv => (Array.all_eq_true_iff_forall_mem.1 (sl_ones p)) v (by simpa [enS] using hv)⟩
theorem elS : ElK Try.prog 28 70 7 (.agg slZ) 48 := ⟨by kernel_rfl, by kernel_rfl, by kernel_rfl, by kernel_rfl, rfl, by omega⟩
theorem rowSl : RowT Try.prog 70 7 := rowT_of (by kernel_rfl) (by kernel_rfl)
theorem rowSm : RowT Try.prog 30 4 := rowT_of (by kernel_rfl) (by kernel_rfl)

abbrev smV (room : Nat) (a : Option Addr) (c : Nat) (L : List Sl) (wire last : Nat) : Array Value := #[.int .i64 (room : Int), .slice a L.length c, .int .i64 (wire : Int), .int .i64 (last : Int)]
abbrev smZ : Array Value := #[.int .i64 0, .slice none 0 0, .int .i64 0, .int .i64 0]
theorem sm_ones (room : Nat) (a : Option Addr) (c : Nat) (L : List Sl) (wire last : Nat) : (smV room a c L wire last).all (·.oneCell') = true := by kernel_rfl
theorem bx4m {w : World} {g : Nat} {E : TypeId} {v0 v1 v2 v3 : Value} (h : w.heap[g]? = some (.cells #[v0, v1, v2, v3] E (0, 0))) :
    w.cell? ⟨g, 0, none⟩ = some v0 ∧ w.cell? ⟨g, 1, none⟩ = some v1 ∧ w.cell? ⟨g, 2, none⟩ = some v2 ∧ w.cell? ⟨g, 3, none⟩ = some v3 :=
  ⟨by rw [cell_of_row w g 0 _ _ _ h]; rfl, by rw [cell_of_row w g 1 _ _ _ h]; rfl, by rw [cell_of_row w g 2 _ _ _ h]; rfl, by rw [cell_of_row w g 3 _ _ _ h]; rfl⟩

/-- The list of a State: it is read, its data are; all its blocks are in T. -/
structure LmO (B : Nat) (w : World) (a : Option Addr) (c : Nat) (L : List Sl) (T : Nat → Prop) : Prop where
  row : RK enS 7 w a L.length c L
  dat : ∀ p ∈ L, WtR w p.1
  ta : ∀ q, a = some q → T q.block
  td : ∀ p ∈ L, ∀ q, p.1.1.2.1 = some q → T q.block
  tB : ∀ k, T k → B ≤ k
  tL : ∀ k, T k → k < w.heap.size

/-- The numbers of those that wait. -/
abbrev fiL (n : Int) (L : List Sl) : Int := fiW n (L.map Prod.fst)

section
variable {B : Nat} {w w1 : World} {a : Option Addr} {c room wire last : Nat} {L : List Sl} {S T : Nat → Prop}
theorem LmO.ch (h : LmO B w a c L T) (k : Ch S w w1) (hn : ∀ b, T b → ¬ S b) : LmO B w1 a c L T :=
  ⟨h.row.ch k (fun q hq => hn _ (h.ta q hq)), fun p hp => (h.dat p hp).ch k (fun q hq => hn _ (h.td p hp q hq)), h.ta, h.td, h.tB, fun b hb => Nat.lt_of_lt_of_le (h.tL b hb) k.size⟩
theorem LmO.below (h : LmO B w a c L T) (k : Below w.heap.size w w1) : LmO B w1 a c L T := h.ch (S := fun _ => False) (Ch.of_below k) (fun _ _ e => e)
theorem LmO.nil (B : Nat) (w : World) : LmO B w none 0 [] (fun _ => False) := ⟨RK.nil _ _ _ _ _, fun p hp => (by cases hp), fun q hq => (by cases hq), fun p hp => (by cases hp), fun k h => h.elim, fun k h => h.elim⟩

set_option maxRecDepth 100000 in
set_option maxHeartbeats 2000000 in
theorem rfind_any (w : World) (N : Int) (h : RK enS 7 w a L.length c L) (hn : L.length ≤ 100000) :
    Calls Try.prog 30 #[.agg (smV room a c L wire last), .int .i64 N] w fun e w' => e = .returned (.int .i64 (fiL N L)) ∧ Below w.heap.size w w' := by
  obtain ⟨w0, hw0, b0, g0⟩ : ∃ w0, Hid (w.alloc (.cells (smV room a c L wire last) 30) = w0) ∧ w0.heap[w.heap.size]? = some (.cells (smV room a c L wire last) 30 (0, 0)) ∧ Below w.heap.size w w0 := ⟨_, rfl, heap_alloc_new w _, bnew0 w _⟩
  obtain ⟨n, hnL⟩ : ∃ n, L.length = n := ⟨_, rfl⟩
  rw [hnL] at h hn
  rw [show smV room a c L wire last = #[.int .i64 (room : Int), .slice a n c, .int .i64 (wire : Int), .int .i64 (last : Int)] by rw [← hnL]] at b0 hw0 ⊢
  have HL := hid hnL
  clear hnL
  obtain ⟨x0, x1, x2, x3⟩ := bx4m b0
  have h0 := h.below g0
  clear h x0 x2 x3
  go_enter Try.func30, Try.ntmps30
  go_wp2_with (rw [hw0.out])
  go_loopg [5] n (fun gn vi wr => ∃ k : Nat, k ≤ n ∧ gn = n - k ∧ vi = .int .i64 (k : Int) ∧ Hid (∀ j q, j < k → L[j]? = some q → (q.1.2 : Int) ≠ N) ∧ wr = w0)
  case atStart => exact ⟨0, by omega, by omega, rfl, fun j q hj => by omega, rfl⟩
  case round =>
    obtain ⟨k, hk, rfl, rfl, HF, rfl⟩ := hrel
    by_cases hlt : k < n
    · obtain ⟨p, hp⟩ : ∃ p, L[k]? = some p := ⟨L[k]'(by rw [HL.out]; exact hlt), by simp⟩
      obtain ⟨gb, off, rfl, hgb, hr⟩ := h0.range hp
      have hc0 := hr 0 (.int .i64 (p.1.2 : Int)) rfl
      rw [Nat.add_zero] at hc0
      have HP := hid hp; clear hp hr
      by_cases he : (p.1.2 : Int) = N
      · have HE := hid he
        have hbe : ((p.1.2 : Int) == N) = true := by simpa using he
        clear he
        go_wp2
        go_ret
        exact ⟨ret_int (fiW_at (k := k) (p := p.1) (by rw [List.getElem?_map, HP.out]; rfl) HE.out (fun j q hj hq => by
          rw [List.getElem?_map] at hq
          cases hx : L[j]? with
          | none => rw [hx] at hq; cases hq
          | some y => rw [hx] at hq; simp only [Option.map_some, Option.some.injEq] at hq; rw [← hq]; exact HF.out j y hj hx)).symm, g0⟩
      · have HE := hid he
        have hbe : ((p.1.2 : Int) == N) = false := by simpa using he
        clear he
        go_wp2
        go_roundg (n - (k + 1))
        case measure => omega
        case rel => exact ⟨k + 1, by omega, rfl, by go_num, fun j q hj hq => by
          by_cases e : j = k
          · subst e; rw [HP.out] at hq; simp at hq; rw [← hq]; exact HE.out
          · exact HF.out j q (by omega) hq, rfl⟩
    · obtain rfl : k = n := by omega
      go_wp2
      go_ret
      exact ⟨ret_int (fiW_no (fun q hq => by
        obtain ⟨y, hy, rfl⟩ := List.mem_map.1 hq
        obtain ⟨j, hj, rfl⟩ := List.mem_iff_getElem.1 hy
        exact HF.out j _ (by rw [HL.out] at hj; exact hj) (by simp))).symm, g0⟩
end
end Go.Proofs.Ytffbkcjkmhjfnaa
