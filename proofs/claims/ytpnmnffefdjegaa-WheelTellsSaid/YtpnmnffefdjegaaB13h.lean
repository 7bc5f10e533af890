/-
  The contract of a wheel's Tick.
-/
import Derived.Test.YtpnmnffefdjegaaB13g
import Derived.Test.YtpnmnffefdjegaaSi
import Derived.Sort.OwnSortedInts
import Derived.Deep.RegionLaw
namespace Go.Proofs.Ytpnmnffefdjegaa
open Go.RowKit Go.Maps Go.Sort
set_option linter.unusedVariables false

section
variable {B : Nat} {w w1 : World} {x : Wl} {m : Wh} {id : Int}

theorem sortI_any {a : Option Addr} {n c : Nat} {o : List Int} (h : OL iv 3 B w a n c o) (hn : n ≤ 1000000) :
    Calls Try.prog 27 #[.slice a n c] w fun e w' => e = .returned (.tuple #[]) ∧ OL iv 3 B w' a n c (o.mergeSort fun x y => decide (x ≤ y)) ∧ Ch (fun b => ∃ p, a = some p ∧ b = p.block) w w' := by
  have hl := h.len
  rcases h.own.2 with ⟨h', h0⟩ | ⟨g, cap, cur, h', hB, hg, hnc, hcm, hcs, htake⟩
  · simp only [Value.slice.injEq] at h'
    obtain ⟨rfl, _, rfl⟩ := h'
    subst h0
    have e0 : o = [] := List.eq_nil_of_length_eq_zero hl
    subst e0
    refine (slices_Sort_int_none none 0 w).mono fun e w' ⟨he, hw⟩ => ?_
    subst hw
    exact ⟨he, by simpa using h, Ch.refl _ _⟩
  · simp only [Value.slice.injEq, true_and] at h'
    obtain ⟨rfl, rfl⟩ := h'
    subst hl
    have hmf : o.map iv = o.map (Value.int .i64) := rfl
    rw [Nat.mul_one, hmf] at htake
    have hlen : (o.mergeSort fun x y => decide (x ≤ y)).length = o.length := List.length_mergeSort _
    refine (slices_Sort_int g 0 c o w (holds_of_blockI hg htake) (Array.getElem?_eq_some_iff.1 hg).1 (by omega)).mono fun e w' ⟨he, q, os, hw⟩ => ?_
    subst hw
    refine ⟨he, ⟨hlen, hnc, ?_⟩, ?_⟩
    · exact ownsRow_sortedI hlen hB hg hnc hcm hcs
    · have k := grownBy_sortedI (w := w) (g := g) (n := q) (os := os) (o.mergeSort fun x y => decide (x ≤ y)).toArray
      exact (Ch.of_grown k).mono (fun b e => ⟨_, rfl, e⟩)

theorem slot_tick {L : List Tm} {T : Int} {n j : Nat} (h : T % (n : Int) ≠ (j : Int)) : slotIds (L.filter (fun p => !(p.2 == T))) n j = slotIds L n j := by
  unfold slotIds
  rw [List.filter_filter]
  congr 1
  refine List.filter_congr (fun p _ => ?_)
  by_cases e : p.2 % (n : Int) = (j : Int)
  · have : p.2 ≠ T := fun e2 => h (e2 ▸ e)
    simp [e, this]
  · simp [e]

/-- A tick has been told, and the wheel is as it should be. -/
theorem tick_fin {k b : Nat} {o : List Int} {L : List Tm} {p1 p3 : Nat} {w4 w6 w7 : World} (h : WhO B w x m) (hb : x.bs[k]? = some b) (hk : (k : Int) = (m.now + 1) % (x.bs.length : Int))
    (c4 : Ch (fun j => j = x.g) w w4) (hp3 : w.heap.size ≤ p3) (hL : L = m.L.filter (fun p => !(p.2 == m.now + 1)))
    (hT : TkO w4.heap.size w6 x (m.now + 1) m.most p1 p3 L o) (hM : ∃ D n, MU w6 b n D ∧ Met D (slotIds L x.bs.length k)) (hC : Ch (fun j => j = b ∨ j = x.bd ∨ j = p3) w4 w6) (c7 : Ch (fun j => w4.heap.size ≤ j) w6 w7) :
    WhO B w7 x (tickW m) ∧ Ch x.S w w7 := by
  have z4 := c4.size
  have z6 := hC.size
  have hlt : ∀ j, x.S j → j < w.heap.size := h.sL
  have hS : Ch x.S w w7 := ((c4.mono (S1 := x.S) (fun j e => e ▸ x.sg)).trans hC (fun j hj => by
    rcases hj with e | e | e
    · exact .inl (e ▸ x.sk hb)
    · exact .inl (e ▸ x.sd)
    · exact .inr (by omega))).trans c7 (fun j hj => .inr (by omega))
  have b6 : ∀ j, x.S j → w7.heap[j]? = w6.heap[j]? := fun j hj => c7.block j (by have := hlt j hj; omega) (by have := hlt j hj; omega)
  have b4 : ∀ j, x.S j → j ≠ b → j ≠ x.bd → w6.heap[j]? = w4.heap[j]? := fun j hj e1 e2 => hC.block j (by have := hlt j hj; omega) (by have := hlt j hj; rintro (e | e | e) <;> first | contradiction | omega)
  have b0 : ∀ j, x.S j → j ≠ x.g → w4.heap[j]? = w.heap[j]? := fun j hj e => c4.block j (hlt j hj) e
  have hbs : b ∈ x.bs := List.mem_of_getElem? hb
  refine ⟨h.turn h.inv.tick ?_ ?_ hS.size ?_ (fun j c hc => ?_), hS⟩
  · rw [b6 _ x.sg]; exact hT.box
  · rw [b6 _ x.ss, b4 _ x.ss (fun e => h.sb (e ▸ hbs)) (Ne.symm h.ds), b0 _ x.ss (Ne.symm h.gs)]
  · obtain ⟨D, n, d1, d2⟩ := hT.due
    exact ⟨D, n, MI.at d1 (b6 _ x.sd), by rw [hL] at d2; exact d2⟩
  · by_cases e : j = k
    · subst e
      rw [hb] at hc; cases hc
      obtain ⟨D, n, d1, d2⟩ := hM
      exact ⟨D, n, MU.at d1 (b6 _ (x.sk hb)), by rw [hL] at d2; exact d2⟩
    · obtain ⟨D, d1, d2⟩ := h.slo j c hc
      have hcS := x.sk hc
      refine ⟨D, _, MU.at d1 ((b6 _ hcS).trans ((b4 _ hcS (bs_ne h hc hb e) (fun e2 => h.db (e2 ▸ List.mem_of_getElem? hc))).trans (b0 _ hcS (fun e2 => h.gb (e2 ▸ List.mem_of_getElem? hc))))), ?_⟩
      show Met D (slotIds (m.L.filter (fun p => !(p.2 == m.now + 1))) _ _)
      rw [slot_tick (by omega)]
      exact d2

/-- What Tick answers. -/
def TickR (B : Nat) (w : World) (x : Wl) (m : Wh) (e : Ending) (w' : World) : Prop :=
  ∃ a c t, e = .returned (.slice a t.length c) ∧ OL iv 3 w.heap.size w' a t.length c t ∧ Told m t ∧ t.length ≤ 1024 ∧ WhO B w' x (tickW m) ∧ Ch x.S w w'

set_option maxRecDepth 100000 in
set_option maxHeartbeats 8000000 in
theorem whTick_any (h : WhO B w x m) (hn : m.now ≤ 1000000000) :
    Calls Try.prog 17 #[.pointer (some ⟨x.g, 0, none⟩)] w (TickR B w x m) := by
  have hn0 := h.inv.n0
  obtain ⟨w0, hw0, h0, e1, z1⟩ : ∃ w0, Hid (w.alloc (.cells #[.pointer (some ⟨x.g, 0, none⟩)] 23) = w0) ∧ WhO B w0 x m ∧ w0.heap[w.heap.size]? = some (.cells #[.pointer (some ⟨x.g, 0, none⟩)] 23 (0, 0)) ∧ w0.heap.size = w.heap.size + 1 := ⟨_, rfl, h.alloc _, heap_alloc_new w _, by simp⟩
  have g0 : Below w.heap.size w w0 := by rw [← hw0.out]; exact bnew0 w _
  have hm := whMade_any h0
  obtain ⟨T, hT⟩ : ∃ T, T = m.now := ⟨_, rfl⟩
  have q1 := (cell1 e1).1
  have q2 := (bx5 h0.box).2.2.1
  have f2 := h0.thaw 2
  have HT := hid hT
  rw [← hT] at hn hn0 q2
  clear hT
  go_enter Try.func17, Try.ntmps17
  go_wp2_with (first
    | (go_at_call 23; (with_reducible refine hm.mono ?_); rintro e w1 ⟨rfl, rfl⟩)
    | (rw [hw0.out]))
  have kc : Ch (fun j => j = x.g) w ((w0.setCell ⟨x.g, 2, none⟩ (.int .i64 (T + 1))).alloc (.cells #[.slice none 0 0] 39)) := ((Ch.of_below (S := fun j => j = x.g) g0).setCell (p := ⟨x.g, 2, none⟩) (.inl rfl) _).alloc _
  have hglt := h.sL _ x.sg
  have y1 : ((w0.setCell ⟨x.g, 2, none⟩ (.int .i64 (T + 1))).alloc (.cells #[.slice none 0 0] 39)).heap[x.g]? = some (.cells #[.pointer (some ⟨x.g, 0, none⟩), .int .i64 m.most, .int .i64 (T + 1), .map (some x.bd), .slice (some ⟨x.sb, 0, none⟩) x.bs.length x.bs.length] 58 (0, 0)) :=
    bx_alloc _ (heap_setCell_same w0 x.g 2 _ _ _ h0.box)
  have y2 : ((w0.setCell ⟨x.g, 2, none⟩ (.int .i64 (T + 1))).alloc (.cells #[.slice none 0 0] 39)).heap[w.heap.size]? = some (.cells #[.pointer (some ⟨x.g, 0, none⟩)] 23 (0, 0)) :=
    bx_alloc _ ((Below.heap_setCell _ _ _ _ (show w.heap.size ≠ x.g by omega)).trans e1)
  have y3 : ((w0.setCell ⟨x.g, 2, none⟩ (.int .i64 (T + 1))).alloc (.cells #[.slice none 0 0] 39)).heap[w.heap.size + 1]? = some (.cells #[.slice none 0 0] 39 (0, 0)) := by
    have := heap_alloc_new (w0.setCell ⟨x.g, 2, none⟩ (.int .i64 (T + 1))) (.cells #[.slice none 0 0] 39)
    rwa [sz_set, z1] at this
  have y4 : ((w0.setCell ⟨x.g, 2, none⟩ (.int .i64 (T + 1))).alloc (.cells #[.slice none 0 0] 39)).heap.size = w.heap.size + 2 := by rw [heap_size_alloc, sz_set, z1]
  clear q1 q2 f2 hm h0 hw0 e1 z1 g0
  generalize (w0.setCell ⟨x.g, 2, none⟩ (.int .i64 (T + 1))).alloc (.cells #[.slice none 0 0] 39) = wc at *
  have r1 := (cell1 y2).1
  have r2 := (bx5 y1).2.2.1
  have hrow : RL mpV wc.drew (some ⟨x.sb, 0, none⟩) x.bs.length x.bs.length x.bs := h.row.ch kc.drew (fun q hq => by cases hq; exact Ne.symm h.gs)
  have hSl := whSlot_b (w := wc.drew) y1 hrow h.n1 h.n2 (T + 1) (by omega) (by omega)
  have hdel : ∀ (w4 : World) (k b : Nat), Below wc.heap.size wc w4 → (k : Int) = (T + 1) % (x.bs.length : Int) → x.bs[k]? = some b → Calls Try.prog 25 #[.map (some b), .func (.func 26) #[] #[.pointer (some ⟨w.heap.size, 0, none⟩), .pointer (some ⟨w.heap.size + 1, 0, none⟩)]] w4 fun e w' => e = .returned (.tuple #[]) ∧ SwE w4.heap.size w4 x (T + 1) m.most w.heap.size (w.heap.size + 1) m.L x.bs.length k b w' := by
    intro w4 k b g4 hk hb
    have k4 := kc.call g4
    have z4 := g4.size
    obtain ⟨D, d1, d2⟩ := h.due
    obtain ⟨Db, u1, u2⟩ := h.slo k b hb
    have hbS := x.sk hb
    have hbm := List.mem_of_getElem? hb
    have hbg : b ≠ x.g := fun e => h.gb (e ▸ hbm)
    have t4 : TkO w4.heap.size w4 x (T + 1) m.most w.heap.size (w.heap.size + 1) m.L [] :=
      ⟨bx_below y1 g4, bx_below y2 g4, ⟨none, 0, bx_below y3 g4, OL.nil _ _ _ _⟩, ⟨D, _, MI.at d1 (k4.block _ (h.sL _ x.sd) (Ne.symm h.gd)), d2⟩, h.gd, hglt, h.sL _ x.sd, by omega, by omega, Nat.le_refl _, by simp⟩
    exact slotDel_any t4 h.inv.key (by have := h.inv.len; have := h.inv.most; omega) (h.sL _ hbS) hbg (fun e => h.db (e ▸ hbm)) (fun p hp => ⟨(h.inv.rng p hp).1, (h.inv.rng p hp).2.1⟩) (bx_below y3 g4) (MU.at u1 (k4.block _ (h.sL _ hbS) hbg)) u2 hk
  go_region_law (first
    | (go_simp; go_at_call 24; (with_reducible refine Calls.mono hSl ?_); rintro e w4 ⟨⟨k, b, hk, hb, rfl⟩, g4⟩; have hd4 := hdel w4 k b ((Below.refl _ wc).drew.trans g4) hk hb)
    | (go_simp; go_at_call 25; (with_reducible refine Calls.mono hd4 ?_); rintro e w6 ⟨rfl, hE⟩))
  all_goals
    have k4 := kc.call ((Below.refl _ wc).drew.trans g4)
    have z4 : w.heap.size + 2 ≤ w4.heap.size := by have := g4.size; have e : wc.drew.heap.size = wc.heap.size := rfl; omega
    obtain ⟨L, o, hL, hnd, hin, hTk, hM, hC⟩ := hE
    obtain ⟨a, c, o1, o2⟩ := hTk.out
    have o3 := (cell1 o1).1
    have hS := sortI_any o2 (by have := hTk.ol; omega)
    clear hSl hdel hd4 r1 r2 y1 y2 y3 hrow
    go_wp2_with (go_at_call 27; (with_reducible refine hS.mono ?_); rintro e w7 ⟨rfl, o7, c7⟩; have o8 := (cell1 (c7.bx o1 (by rintro ⟨p, hp, e⟩; have := (o2.ltB hp).2; omega))).1)
    go_ret
    have hL' : L = m.L.filter (fun p => !(p.2 == m.now + 1)) := by rw [← HT.out]; exact hL
    have hk' : (k : Int) = (m.now + 1) % (x.bs.length : Int) := by rw [← HT.out]; exact hk
    obtain ⟨f1, f2⟩ := tick_fin h hb hk' k4 (by omega : w.heap.size ≤ w.heap.size + 1) hL' (by rw [← HT.out]; exact hTk) hM hC (c7.mono (fun j hj => by obtain ⟨p, hp, e⟩ := hj; rw [e]; exact (o2.ltB hp).2))
    have hlen : (o.mergeSort fun x y => decide (x ≤ y)).length = o.length := List.length_mergeSort _
    have hol : o.length ≤ 1024 := by
      have h1 : o ⊆ ids m.L := fun i hi => List.mem_map_of_mem (f := fun p : Tm => p.1) ((hin i).1 hi)
      have h2 := hnd.length_le_of_subset h1
      have h3 : (ids m.L).length = m.L.length := by simp [ids]
      have := h.inv.len; have := h.inv.most; omega
    exact ⟨a, c, o.mergeSort fun x y => decide (x ≤ y), by rw [hlen]; rfl, by rw [hlen]; exact o7.mono (by omega), told_sort h.inv.key hnd (by rw [← HT.out]; exact hin), by rw [hlen]; exact hol, f1, f2⟩
end
end Go.Proofs.Ytpnmnffefdjegaa
