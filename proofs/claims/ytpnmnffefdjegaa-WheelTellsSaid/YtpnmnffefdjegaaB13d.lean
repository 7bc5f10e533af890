/-
  The contract of a wheel's Cancel.
-/
import Derived.Test.YtpnmnffefdjegaaB13c
namespace Go.Proofs.Ytpnmnffefdjegaa
open Go.RowKit Go.Maps
set_option linter.unusedVariables false

section
variable {B : Nat} {w w1 w2 w3 w4 : World} {x : Wl} {m m' : Wh} {S1 : Nat → Prop} {v : Value} {id : Int}

theorem Ch.of_grown {b : Nat} (h : w.grownBy w1 (some b)) : Ch (fun k => k = b) w w1 :=
  ⟨h.os, h.tape, h.output, h.size, fun k hk hn => h.block k hk (fun e => hn (by cases e; rfl))⟩

/-- A wheel whose timers have changed. -/
theorem WhO.turn (h : WhO B w x m) (hi : WhI m') (hb : w1.heap[x.g]? = some (.cells (whV x m') 58 (0, 0))) (hs : w1.heap[x.sb]? = w.heap[x.sb]?) (sz : w.heap.size ≤ w1.heap.size)
    (hd : ∃ D n, MI w1 x.bd n D ∧ Due D m'.L) (hl : ∀ (k b : Nat), x.bs[k]? = some b → ∃ D n, MU w1 b n D ∧ Met D (slotIds m'.L x.bs.length k)) : WhO B w1 x m' := by
  refine ⟨hb, ?_, ?_, fun k b hk => ?_, h.n1, h.n2, hi, h.gd, h.gs, h.ds, h.gb, h.db, h.sb, h.nd, h.hB, fun b hb => Nat.lt_of_lt_of_le (h.sL b hb) sz⟩
  · refine ⟨rfl, Nat.le_refl _, fun h0 => ?_⟩
    obtain ⟨b, off, ha, hlt, hc⟩ := h.row.cell h0
    refine ⟨b, off, ha, Nat.lt_of_lt_of_le hlt sz, fun i y hy => ?_⟩
    cases ha
    rw [World.cell?_of_block (w := w) hs]
    exact hc i y hy
  · obtain ⟨D, n, h1, h2⟩ := hd
    refine ⟨D, ?_, h2⟩
    have := tight h1
    rw [h2.met.size] at this
    simpa [ids] using this
  · obtain ⟨D, n, h1, h2⟩ := hl k b hk
    refine ⟨D, ?_, h2⟩
    have := tight h1
    rwa [h2.size] at this

theorem bs_ne (h : WhO B w x m) {i j a b : Nat} (hi : x.bs[i]? = some a) (hj : x.bs[j]? = some b) (hij : i ≠ j) : a ≠ b := fun e => by
  subst e
  obtain ⟨h1, e1⟩ := List.getElem?_eq_some_iff.1 hi
  obtain ⟨h2, e2⟩ := List.getElem?_eq_some_iff.1 hj
  rcases Nat.lt_trichotomy i j with e | e | e
  · exact (List.pairwise_iff_getElem.1 (List.nodup_iff_pairwise_ne.1 h.nd)) i j h1 h2 e (e1.trans e2.symm)
  · exact hij e
  · exact (List.pairwise_iff_getElem.1 (List.nodup_iff_pairwise_ne.1 h.nd)) j i h2 h1 e (e2.trans e1.symm)

/-- A number is taken out of its slot, and of what is due. -/
theorem whCut_fin (h : WhO B w x m) (hh : hasL m.L id = true) {k b n n' : Nat} (hk : (k : Int) = dueL m.L id % (x.bs.length : Int)) (hb : x.bs[k]? = some b) {D D' : DataW Unit}
    (hD : Met D (slotIds m.L x.bs.length k)) (h3 : MU w3 b n (D.del (.int .i64 id))) (g3 : w.grownBy w3 (some b)) (hD' : Due D' m.L) (h4 : MI w4 x.bd n' (D'.del (.int .i64 id))) (g4 : w3.grownBy w4 (some x.bd)) :
    WhO B w4 x (cutW m id) ∧ Ch x.S w w4 := by
  have hbS := x.sk hb
  have k3 := Ch.of_grown g3
  have k4 := Ch.of_grown g4
  have hbd : b ≠ x.bd := fun e => h.db (e ▸ List.mem_of_getElem? hb)
  have hbg : b ≠ x.g := fun e => h.gb (e ▸ List.mem_of_getElem? hb)
  have hbs : b ≠ x.sb := fun e => h.sb (e ▸ List.mem_of_getElem? hb)
  have hS : Ch x.S w w4 := (k3.mono (fun c e => e ▸ hbS)).trans (k4.mono (S1 := x.S) (fun c e => e ▸ x.sd)) (fun c hc => .inl hc)
  have keep : ∀ c, c < w.heap.size → c ≠ b → c ≠ x.bd → w4.heap[c]? = w.heap[c]? := fun c hc e1 e2 => (k4.block c (Nat.lt_of_lt_of_le hc k3.size) e2).trans (k3.block c hc e1)
  refine ⟨h.turn (h.inv.cut id) ?_ (keep _ (h.sL _ x.ss) (Ne.symm hbs) (Ne.symm h.ds)) hS.size ⟨_, _, h4, hD'.del h.inv.key id⟩ (fun j c hc => ?_), hS⟩
  · rw [keep _ (h.sL _ x.sg) (Ne.symm hbg) h.gd]; exact h.box
  · by_cases e : j = k
    · subst e
      rw [hb] at hc; cases hc
      refine ⟨_, _, h3.at (k4.block _ (Nat.lt_of_lt_of_le (h.sL _ hbS) k3.size) hbd), ?_⟩
      show Met _ (slotIds (outL m.L id) _ _)
      rw [slot_out]
      exact hD.del (slot_nodup h.inv.key) id
    · obtain ⟨D2, h5, h6⟩ := h.slo j c hc
      have hcd : c ≠ x.bd := fun e => h.db (e ▸ List.mem_of_getElem? hc)
      refine ⟨D2, _, h5.at (keep c (h.sL _ (x.sk hc)) (bs_ne h hc hb e) hcd), ?_⟩
      show Met _ (slotIds (outL m.L id) _ _)
      rw [slot_other (fun p hp hpe hpk => ?_)]
      · exact h6
      · have := due_mem h.inv.key hp
        rw [hpe] at this
        rw [← this, ← hk] at hpk
        omega

set_option maxRecDepth 100000 in
set_option maxHeartbeats 4000000 in
theorem whCancel_any (h : WhO B w x m) (hw : (Lit.int .i64 id).wf = true) (hn : m.now ≤ 1000000000) :
    Calls Try.prog 14 #[.pointer (some ⟨x.g, 0, none⟩), .int .i64 id] w fun e w' => e = .returned (.bool (hasL m.L id)) ∧ WhO B w' x (cutW m id) ∧ Ch x.S w w' := by
  have hL := whLeft_any h hw hn
  cases hh : hasL m.L id
  · rw [hh] at hL
    have e0 : cutW m id = m := by unfold cutW; rw [out_not hh]
    rw [e0]
    go_enter Try.func14, Try.ntmps14
    go_wp2_with (go_at_call 18; (refine hL.mono ?_); rintro e w1 ⟨rfl, rfl⟩)
    go_ret
    exact ⟨rfl, h, Ch.refl _ _⟩
  · rw [hh] at hL
    have hp := h.inv.rng _ (mem_due hh)
    have hn0 := h.inv.n0
    obtain ⟨l, hl⟩ : ∃ l, l = leftW m id := ⟨_, rfl⟩
    have hl2 : l = dueL m.L id - m.now := by rw [hl]; simp [leftW, hh]
    rw [← hl] at hL
    have hd : dueL m.L id = m.now + l := by omega
    have HH := hid hh
    have HD := hid hd
    simp only [hd] at hp
    have p1 : 0 < l := by omega
    have p2 : l ≤ 1099511627776 := by omega
    clear hl hl2 hd hp hh
    have q2 := (bx5 h.box).2.2.1
    obtain ⟨T, hT⟩ : ∃ T, T = m.now := ⟨_, rfl⟩
    rw [← hT] at HD hn hn0 q2
    clear hT
    have hSl := whSlot_any h (T + l) (by omega) (by omega)
    go_enter Try.func14, Try.ntmps14
    go_wp2_with (first
      | (go_at_call 18; (with_reducible refine hL.mono ?_); rintro e w1 ⟨rfl, rfl⟩)
      | (go_at_call 24; (with_reducible refine hSl.mono ?_); rintro e w2 ⟨⟨k, b, hk, hb, rfl⟩, g2⟩
         have h2 := h.below g2
         obtain ⟨D, hD1, hD2⟩ := h2.slo k b hb)
      | (at_delete; refine wpList_delete_own _ rfl _ _ 62 3 rfl 67 lawI Try.underlying62 unitElem b _ D rfl hD1 _ (.int .i64 id) rfl (keyOf_int_mk Try.underlying3 hw) ?_
         intro w3 h3 t3
         have b3 := (Ch.of_grown t3.grown).bx h2.box (fun e => h.gb (e ▸ List.mem_of_getElem? hb))
         have q3 := (bx5 b3).2.2.2.1
         obtain ⟨D', hD3, hD4⟩ := h2.due
         have h5 := MI.at hD3 ((Ch.of_grown t3.grown).block _ hD3.lt (fun e => h.db (e ▸ List.mem_of_getElem? hb))))
      | (at_delete; refine wpList_delete_own _ rfl _ _ 50 3 rfl 3 lawI Try.underlying50 (plainElem Try.prog 3) x.bd _ D' rfl h5 _ (.int .i64 id) rfl (keyOf_int_mk Try.underlying3 hw) ?_
         intro w4 h4 t4))
    go_ret
    rw [← HD.out] at hk
    obtain ⟨r1, r2⟩ := whCut_fin h2 HH.out hk hb hD2 h3 t3.grown hD4 h4 t4.grown
    exact ⟨rfl, r1, (Ch.of_below g2).trans r2 (fun c hc => .inl hc)⟩
end
end Go.Proofs.Ytpnmnffefdjegaa
