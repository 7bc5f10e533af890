/-
  The contract of the library's DeleteFunc as Tick uses it: a slot is gone through, in whatever order.
-/
import Derived.Test.YtpnmnffefdjegaaB13f
import Derived.Maps.RangeWalk
import Derived.Maps.Ext
import Derived.Deep.LoopGhost
namespace Go.Proofs.Ytpnmnffefdjegaa
open Go.RowKit Go.Maps Go.Sort
set_option linter.unusedVariables false

section
variable {B : Nat} {w w1 : World} {x : Wl} {T most : Int} {p1 p3 : Nat} {L0 L : List Tm} {o : List Int} {S1 : Nat → Prop} {id : Int}

theorem below_of_grown (h : w.grownBy w1 none) : Below w.heap.size w w1 := ⟨h.os, h.tape, h.output, h.size, fun k hk => h.block k hk (by simp)⟩

theorem ranges_at {R : Value → Option (DataW Unit × List MemPlace)} {kt : TypeId} {P : Program} {b r n cnt : Nat} {D : DataW Unit} {left : Lit → Bool} (h : w.ranges P kt R b r n D left cnt) (k1 : w1.heap[b]? = w.heap[b]?) (k2 : w1.heap[r]? = w.heap[r]?) : w1.ranges P kt R b r n D left cnt := by
  obtain ⟨es, clock, since, seen, c0, hb, F, hs, hD, hr, rest⟩ := h
  exact ⟨es, clock, since, seen, c0, k1.trans hb, F, hs, hD, k2.trans hr, rest⟩

/-- What becomes of a slot in block b, and of the rest, when it is gone through. -/
def SwE (B : Nat) (w : World) (x : Wl) (T most : Int) (p1 p3 : Nat) (L0 : List Tm) (N k b : Nat) (w' : World) : Prop :=
  ∃ L o, L = L0.filter (fun p => !(p.2 == T)) ∧ o.Nodup ∧ (∀ i, i ∈ o ↔ (i, T) ∈ L0) ∧ TkO B w' x T most p1 p3 L o ∧ (∃ D n, MU w' b n D ∧ Met D (slotIds L N k)) ∧ Ch (fun j => j = b ∨ j = x.bd ∨ j = p3) w w'

set_option maxRecDepth 100000 in
set_option maxHeartbeats 8000000 in
theorem slotDel_any {N k b n : Nat} {D : DataW Unit} (h : TkO w.heap.size w x T most p1 p3 L0 []) (hkey : (ids L0).Nodup) (hlen : L0.length ≤ 1024) (hb1 : b < p1) (hbg : b ≠ x.g) (hbd : b ≠ x.bd) (hrng : ∀ p ∈ L0, 0 ≤ p.1 ∧ p.1 ≤ 1023)
    (ho : w.heap[p3]? = some (.cells #[.slice none 0 0] 39 (0, 0))) (hD : MU w b n D) (hM : Met D (slotIds L0 N k)) (hT : (k : Int) = T % (N : Int)) :
    Calls Try.prog 25 #[.map (some b), .func (.func 26) #[] #[.pointer (some ⟨p1, 0, none⟩), .pointer (some ⟨p3, 0, none⟩)]] w fun e w' => e = .returned (.tuple #[]) ∧ SwE w.heap.size w x T most p1 p3 L0 N k b w' := by
  have h1 := h.p13; have h2 := h.p3B; have h3 := h.d1; have h5 := h.g1; have h4 := h.gd
  have hst := Sw.start hkey hM hT
  have HM := hid hM
  have HS := hid hst
  have HK := hid hkey
  have HR := hid hrng
  have HT := hid hT
  clear hM hst hkey hrng hT
  go_enter Try.func25, Try.ntmps25
  go_wp2_with (first
    | (at_range; refine wpList_range_own _ rfl _ 62 rfl 3 67 lawI Try.underlying62 unitElem b n D rfl hD ?_; intro w0 hrg0 hg0 hs0)
    | go_in)
  go_frame
  have gb0 := below_of_grown hg0
  have hbl := hD.lt
  have t0 : TkO (w.heap.size + 1) w0 x T most p1 p3 L0 [] := by
    have h0 := h.below gb0
    exact ⟨h0.box, h0.b1, ⟨none, 0, (gb0.block _ (by omega)).trans ho, OL.nil _ _ _ _⟩, h0.due, h4, h5, h3, h1, by omega, by omega, by simp⟩
  clear h ho hD
  go_loopw [8] (fun _ wr => ∃ (left : Lit → Bool) (cnt : Nat) (L : List Tm) (o : List Int) (D' : DataW Unit), wr.ranges Try.prog 3 unitElem b w.heap.size n D' left cnt ∧ Met D' (slotIds L N k) ∧ Sw L0 T left L o ∧ TkO (w.heap.size + 1) wr x T most p1 p3 L o ∧ Ch (fun j => j = b ∨ j = x.bd ∨ j = p3) w wr)
    (fun _ wr => wr.rangeLeft b w.heap.size)
  case atStart => exact ⟨_, _, _, _, _, hrg0, HM.out, HS.out, t0, Ch.of_below gb0⟩
  case round =>
    obtain ⟨left, cnt, L, o, D', hrg, hM, hS, hK, hC⟩ := hrel
    go_wp2_with (first
      | (at_next; refine wpList_next_ranges _ rfl _ rfl 3 lawI unitElem (Value.int .i64) (fun _ : Unit => .agg #[]) (fun key kl hk => by obtain ⟨x, rfl, _⟩ := keyOf_int_inv Try.underlying3 hk; exact ⟨x, rfl⟩) (fun v y hv => by obtain ⟨rfl, _⟩ := unitElem_inv hv; exact ⟨(), rfl⟩) b w.heap.size n _ _ _ rfl hrg ?_ ?_)
      | go_in)
    · -- nothing is left
      intro _ hl0
      obtain ⟨e1, e2⟩ := hS.fin hl0
      go_wp2
      go_end0
      exact ⟨rfl, L, o, e1, hS.nd, e2, ⟨hK.box, hK.b1, (by obtain ⟨a, c, r1, r2⟩ := hK.out; exact ⟨a, c, r1, r2.mono (by omega)⟩), hK.due, h4, h5, h3, h1, h2, by have := hK.hB; omega, hK.ol⟩, ⟨_, _, hrg.owns, hM⟩, hC⟩
    · intro y c kl yv w1 cnt1 hkey hlx hv hat hrg1 hlt hg1 hs1 hen
      obtain ⟨y', ey, rfl, hwx⟩ := keyOf_int_inv Try.underlying3 hkey
      cases ey
      have hin := has_true_of_atKey hat
      rw [hM.has, decide_eq_true_iff] at hin
      obtain ⟨v, hyL, _⟩ := mem_slot.1 hin
      have hy : y ∈ ids L := List.mem_map_of_mem (f := fun p : Tm => p.1) hyL
      clear hin hyL
      have hK1 := hK.ch (Ch.of_grown hg1) (fun j hj e => by omega)
      have hC1 := hC.trans (Ch.of_grown hg1) (fun j hj => .inr (by omega))
      have hw2 := bnew0 w1 (.cells #[] 67)
      have hK2 := hK1.below hw2
      have hrg2 := hrg1.alloc (.cells #[] 67)
      have hb2 := heap_alloc_new w1 (.cells #[] 67)
      have hC2 := hC1.call hw2
      have HY := hid hy
      have hle := hS.le
      clear hg1 hs1 hK hK1 hC hC1 t0 hrg0 hg0 hs0 gb0 hy
      by_cases hd : dueL L y = T
      · have hc := tkFn_yes hK2 hS.nodup hwx hd (by omega)
        have HD := hid hd
        clear hd
        go_wp2_with (first
          | (go_at_call 26; (with_reducible refine hc.mono ?_); rintro e w3 ⟨rfl, hK3, hC3⟩
             have hrl := hrg2.lt
             have hrg3 := ranges_at hrg2 (hC3.block b (by omega) (by rintro (e | e | e) <;> omega)) (hC3.block _ (by omega) (by rintro (e | e | e) <;> omega)))
          | (at_delete; refine wpList_delete_ranges _ rfl _ _ 62 3 rfl 67 lawI Try.underlying62 unitElem b w.heap.size n _ _ _ rfl hrg3 _ (.int .i64 y) rfl hkey ?_
             intro w4 cnt4 hrg4 hle4 hturn
             go_frame)
          | go_in)
        rw [strike_twice] at hrg4
        have kF := Ch.of_grown hturn.grown
        go_roundw
        case rel => exact ⟨_, cnt4, outL L y, o ++ [y], _, hrg4, by rw [slot_out]; exact hM.del (slot_nodup hS.nodup) y, hS.struck HY.out HD.out, hK3.ch kF (fun j hj e => by omega), (hC2.trans hC3 (fun j hj => by rcases hj with e | e | e; exact .inl (.inr (.inl e)); exact .inl (.inr (.inr e)); exact .inr (by omega))).trans kF (fun j hj => .inl (.inl hj))⟩
        case measure => rw [hrg4.left_eq, hrg.left_eq]; omega
      · have hc := tkFn_no hK2 hwx hd
        have HD := hid hd
        clear hd
        go_wp2_with (first
          | (go_at_call 26; (with_reducible refine hc.mono ?_); rintro e w3 ⟨rfl, hg3⟩
             have hrl := hrg2.lt
             have hrg3 := ranges_at hrg2 (hg3.block b hrg2.owns.lt) (hg3.block _ hrl))
          | go_in)
        go_roundw
        case rel => exact ⟨_, cnt1, L, o, _, hrg3, hM, hS.stays HY.out HD.out, hK2.below hg3, hC2.call hg3⟩
        case measure => rw [hrg3.left_eq, hrg.left_eq]; omega
end
end Go.Proofs.Ytpnmnffefdjegaa
