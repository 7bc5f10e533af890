/-
  Contracts of a wheel's Left and slot; of a wheel that is none; and of New, where it refuses.
-/
import Derived.Test.YtpnmnffefdjegaaB13
import Derived.Test.YtpnmnffefdjegaaRst
namespace Go.Proofs.Ytpnmnffefdjegaa
open Go.RowKit Go.Maps
set_option linter.unusedVariables false

section
variable {B : Nat} {w w1 : World} {x : Wl} {m : Wh} {S1 : Nat → Prop} {v : Value} {id : Int}

theorem due_look {b n : Nat} {D : DataW Unit} {L : List Tm} (h : MI w b n D) (hd : Due D L) (hw : (Lit.int .i64 id).wf = true) :
    (Instr.lookup 50 (.map (some b)) (.int .i64 id) true).run Try.prog w = .ok (.tuple #[.int .i64 (dueL L id), .bool (hasL L id)]) w := by
  obtain ⟨v, ps, hrun, hv⟩ := h.look_ok lawI Try.underlying50 (zeroI w) (zd := .lit (.int .i64 0)) (plainElem_int Try.underlying3 (by decide)) (keyOf_int_mk Try.underlying3 hw)
  obtain ⟨c, rfl, hc, hwc⟩ := plainElem_int_inv Try.underlying3 hv
  rw [hd.look id] at hc
  simp only [Prod.mk.injEq, DataW.lit.injEq, Lit.int.injEq, true_and] at hc
  rw [hrun, hd.hasEq, hc.1]
theorem due_look1 {b n : Nat} {D : DataW Unit} {L : List Tm} (h : MI w b n D) (hd : Due D L) (hw : (Lit.int .i64 id).wf = true) :
    (Instr.lookup 50 (.map (some b)) (.int .i64 id) false).run Try.prog w = .ok (.int .i64 (dueL L id)) w := mi_look h (hd.look id) hw

set_option maxRecDepth 100000 in
theorem whLeft_any (h : WhO B w x m) (hw : (Lit.int .i64 id).wf = true) (hn : m.now ≤ 1000000000) :
    Calls Try.prog 18 #[.pointer (some ⟨x.g, 0, none⟩), .int .i64 id] w fun e w' => e = .returned (.tuple #[.int .i64 (leftW m id), .bool (hasL m.L id)]) ∧ w = w' := by
  have q3 := (bx5 h.box).2.2.2.1
  have q2 := (bx5 h.box).2.2.1
  have hm := whMade_any h
  obtain ⟨D, h1, h2⟩ := h.due
  have hl := due_look h1 h2 hw
  cases hh : hasL m.L id
  · rw [hh] at hl
    have e0 : leftW m id = 0 := by simp [leftW, hh]
    rw [e0]
    go_enter Try.func18, Try.ntmps18
    go_wp2_with (go_at_call 23; (refine hm.mono ?_); rintro e w1 ⟨rfl, rfl⟩)
    go_ret2
    exact ⟨rfl, rfl⟩
  · rw [hh] at hl
    have hp := h.inv.rng _ (mem_due hh)
    have hn0 := h.inv.n0
    obtain ⟨d, hd⟩ : ∃ d, d = dueL m.L id := ⟨_, rfl⟩
    obtain ⟨T, hT⟩ : ∃ T, T = m.now := ⟨_, rfl⟩
    have e0 : leftW m id = d - T := by simp [leftW, hh, hd, hT]
    rw [e0]
    simp only [← hd, ← hT] at hl hp hn hn0 q2
    clear hd hT e0
    go_enter Try.func18, Try.ntmps18
    go_wp2_with (go_at_call 23; (refine hm.mono ?_); rintro e w1 ⟨rfl, rfl⟩)
    go_ret2
    exact ⟨rfl, rfl⟩

set_option maxRecDepth 100000 in
/-- The slot of a tick: it asks just the box and the list of slots. -/
theorem whSlot_b {now most : Int} (hbx : w.heap[x.g]? = some (.cells #[.pointer (some ⟨x.g, 0, none⟩), .int .i64 most, .int .i64 now, .map (some x.bd), .slice (some ⟨x.sb, 0, none⟩) x.bs.length x.bs.length] 58 (0, 0)))
    (hrow : RL mpV w (some ⟨x.sb, 0, none⟩) x.bs.length x.bs.length x.bs) (hn1 : 1 ≤ x.bs.length) (hn2 : x.bs.length ≤ 1024) (t : Int) (h0 : 0 ≤ t) (h1 : t ≤ 4000000000000000000) :
    Calls Try.prog 24 #[.pointer (some ⟨x.g, 0, none⟩), .int .i64 t] w fun e w' => (∃ (k b : Nat), (k : Int) = t % (x.bs.length : Int) ∧ x.bs[k]? = some b ∧ e = .returned (.map (some b))) ∧ Below w.heap.size w w' := by
  have q4 := (bx5 hbx).2.2.2.2
  obtain ⟨k, hk⟩ : ∃ k : Nat, (k : Int) = t % (x.bs.length : Int) := ⟨(t % (x.bs.length : Int)).toNat, by have := Int.emod_nonneg t (show (x.bs.length : Int) ≠ 0 by omega); omega⟩
  have hkl : k < x.bs.length := by have := Int.emod_lt_of_pos t (show (0 : Int) < x.bs.length by omega); omega
  obtain ⟨b, off, b', hb, hbk, hc⟩ := hrow.at hkl
  cases hb
  have htm : t.tmod (x.bs.length : Int) = (k : Int) := by rw [Int.tmod_eq_emod_of_nonneg h0, hk]
  have hne : ¬ ((x.bs.length : Int) = 0) := by omega
  rw [Nat.zero_add] at hc
  have hk' := hid hk
  clear hk hbx hrow
  go_enter Try.func24, Try.ntmps24
  go_wp2
  go_quiet (fail)
  go_wp2
  go_ret
  exact ⟨⟨k, _, hk'.out, hbk, rfl⟩, below_drewN (Below.refl _ _) _⟩
theorem whSlot_any (h : WhO B w x m) (t : Int) (h0 : 0 ≤ t) (h1 : t ≤ 4000000000000000000) :
    Calls Try.prog 24 #[.pointer (some ⟨x.g, 0, none⟩), .int .i64 t] w fun e w' => (∃ (k b : Nat), (k : Int) = t % (x.bs.length : Int) ∧ x.bs[k]? = some b ∧ e = .returned (.map (some b))) ∧ Below w.heap.size w w' :=
  whSlot_b h.box h.row h.n1 h.n2 t h0 h1

/-- A wheel that is none: nil, or one that New did not answer. -/
abbrev whZ : Array Value := #[.pointer none, .int .i64 0, .int .i64 0, .map none, .slice none 0 0]
def NoW (w : World) (v : Value) : Prop := v = .pointer none ∨ ∃ g, v = .pointer (some ⟨g, 0, none⟩) ∧ w.heap[g]? = some (.cells whZ 58 (0, 0))
theorem NoW.below (h : NoW w v) (k : Below w.heap.size w w1) : NoW w1 v := by
  rcases h with h | ⟨g, h1, h2⟩
  · exact .inl h
  · exact .inr ⟨g, h1, bx_below h2 k⟩

set_option maxRecDepth 100000 in
theorem whMade_none (h : NoW w v) : Calls Try.prog 23 #[v] w fun e w' => e = .returned (.bool false) ∧ w = w' := by
  rcases h with rfl | ⟨g, rfl, h⟩
  · go_enter Try.func23, Try.ntmps23
    go_wp2
    go_ret
    exact ⟨rfl, rfl⟩
  · have q0 := (bx5 h).1
    have qe := fun w => eqWn w ⟨g, 0, none⟩
    go_enter Try.func23, Try.ntmps23
    go_wp2
    go_ret
    exact ⟨rfl, rfl⟩

theorem whNow_none (h : NoW w v) : Calls Try.prog 20 #[v] w fun e w' => e = .returned (.int .i64 0) ∧ w = w' := by
  have hm := whMade_none h
  clear h
  go_enter Try.func20, Try.ntmps20
  go_wp2_with (go_at_call 23; (refine hm.mono ?_); rintro e w1 ⟨rfl, rfl⟩)
  go_ret
  exact ⟨rfl, rfl⟩

theorem whLen_none (h : NoW w v) : Calls Try.prog 21 #[v] w fun e w' => e = .returned (.int .i64 0) ∧ w = w' := by
  have hm := whMade_none h
  clear h
  go_enter Try.func21, Try.ntmps21
  go_wp2_with (go_at_call 23; (refine hm.mono ?_); rintro e w1 ⟨rfl, rfl⟩)
  go_ret
  exact ⟨rfl, rfl⟩

theorem whLeft_none (h : NoW w v) (id : Int) : Calls Try.prog 18 #[v, .int .i64 id] w fun e w' => e = .returned (.tuple #[.int .i64 0, .bool false]) ∧ w = w' := by
  have hm := whMade_none h
  clear h
  go_enter Try.func18, Try.ntmps18
  go_wp2_with (go_at_call 23; (refine hm.mono ?_); rintro e w1 ⟨rfl, rfl⟩)
  go_ret2
  exact ⟨rfl, rfl⟩

theorem whCancel_none (h : NoW w v) (id : Int) : Calls Try.prog 14 #[v, .int .i64 id] w fun e w' => e = .returned (.bool false) ∧ w = w' := by
  have hm := whLeft_none h id
  clear h
  go_enter Try.func14, Try.ntmps14
  go_wp2_with (go_at_call 18; (refine hm.mono ?_); rintro e w1 ⟨rfl, rfl⟩)
  go_ret
  exact ⟨rfl, rfl⟩

theorem whSet_none (h : NoW w v) (id after : Int) : Calls Try.prog 12 #[v, .int .i64 id, .int .i64 after] w fun e w' => e = .returned (.int .i64 1) ∧ w = w' := by
  have hm := whMade_none h
  clear h
  go_enter Try.func12, Try.ntmps12
  go_wp2_with (go_at_call 23; (refine hm.mono ?_); rintro e w1 ⟨rfl, rfl⟩)
  go_ret
  exact ⟨rfl, rfl⟩

theorem whTick_none (h : NoW w v) : Calls Try.prog 17 #[v] w fun e w' => e = .returned (.slice none 0 0) ∧ Below w.heap.size w w' := by
  obtain ⟨w0, hw0, hb, hg⟩ : ∃ w0, Hid (w.alloc (.cells #[v] 23) = w0) ∧ w0.heap[w.heap.size]? = some (.cells #[v] 23 (0, 0)) ∧ Below w.heap.size w w0 := ⟨_, rfl, heap_alloc_new w _, bnew0 w _⟩
  have hm := whMade_none (h.below hg)
  have hv : ∃ a, v = .pointer a := by rcases h with rfl | ⟨g, rfl, _⟩ <;> exact ⟨_, rfl⟩
  obtain ⟨a, rfl⟩ := hv
  have q0 := (cell1 hb).1
  clear h hb
  go_enter Try.func17, Try.ntmps17
  go_wp2_with (first
    | (go_at_call 23; (refine hm.mono ?_); rintro e w1 ⟨rfl, rfl⟩)
    | (rw [hw0.out]))
  go_ret
  exact ⟨rfl, hg⟩

set_option maxRecDepth 100000 in
set_option maxHeartbeats 1000000 in
theorem whNew_wrong (w : World) (n k : Int) (h : n < 1 ∨ 1024 < n ∨ k < 0 ∨ 1024 < k) :
    Calls Try.prog 9 #[.int .i64 n, .int .i64 k] w fun e w' => e = .returned (.tuple #[.pointer none, .int .i64 2]) ∧ w = w' := by
  by_cases h1 : n < 1
  · go_enter Try.func9, Try.ntmps9
    go_wp2
    go_ret2
    exact ⟨rfl, rfl⟩
  · by_cases h2 : 1024 < n
    · clear h
      go_enter Try.func9, Try.ntmps9
      go_wp2
      go_ret2
      exact ⟨rfl, rfl⟩
    · by_cases h3 : k < 0
      · clear h
        go_enter Try.func9, Try.ntmps9
        go_wp2
        go_ret2
        exact ⟨rfl, rfl⟩
      · have h4 : 1024 < k := by omega
        clear h
        go_enter Try.func9, Try.ntmps9
        go_wp2
        go_ret2
        exact ⟨rfl, rfl⟩
end
end Go.Proofs.Ytpnmnffefdjegaa
