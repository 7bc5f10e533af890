/-
  The contract of a wheel's Set.
-/
import Derived.Test.YtpnmnffefdjegaaB13d
import Derived.Deep.DeepCutAuto
namespace Go.Proofs.Ytpnmnffefdjegaa
open Go.RowKit Go.Maps Go.Sort
set_option linter.unusedVariables false

section
variable {B : Nat} {w w1 w2 w3 w4 w5 : World} {x : Wl} {m m' : Wh} {S1 : Nat → Prop} {v : Value} {id after : Int}

/-- A number is put into a slot, and into what is due. -/
theorem whPut_fin (h : WhO B w x m) (hh : hasL m.L id = false) (hi : WhI (putW m id after)) {k b n n' : Nat} (hk : (k : Int) = (m.now + after) % (x.bs.length : Int)) (hb : x.bs[k]? = some b) {D D' : DataW Unit} {dv : DataW Unit}
    (hD : Met D (slotIds m.L x.bs.length k)) (h5 : MU w5 b n (D.put (.int .i64 id) dv)) (g5 : w4.grownBy w5 (some b)) (hD' : Due D' m.L) (h3 : MI w3 x.bd n' (D'.put (.int .i64 id) (.lit (.int .i64 (m.now + after))))) (g3 : w.grownBy w3 (some x.bd)) (g34 : Below w3.heap.size w3 w4) :
    WhO B w5 x (putW m id after) ∧ Ch x.S w w5 := by
  have hbS := x.sk hb
  have k3 := Ch.of_grown g3
  have k5 := Ch.of_grown g5
  have hbd : b ≠ x.bd := fun e => h.db (e ▸ List.mem_of_getElem? hb)
  have hbg : b ≠ x.g := fun e => h.gb (e ▸ List.mem_of_getElem? hb)
  have hbs : b ≠ x.sb := fun e => h.sb (e ▸ List.mem_of_getElem? hb)
  have hS : Ch x.S w w5 := ((k3.mono (fun c e => e ▸ x.sd)).call g34).trans (k5.mono (S1 := x.S) (fun c e => e ▸ hbS)) (fun c hc => .inl hc)
  have sz34 := g34.size
  have keep : ∀ c, c < w.heap.size → c ≠ b → c ≠ x.bd → w5.heap[c]? = w.heap[c]? := fun c hc e1 e2 => (k5.block c (by have := k3.size; omega) e1).trans ((g34.block c (by have := k3.size; omega)).trans (k3.block c hc e2))
  have e0 : outL m.L id = m.L := out_not hh
  have hnot : id ∉ ids m.L := hasL_not.1 hh
  refine ⟨h.turn hi ?_ (keep _ (h.sL _ x.ss) (Ne.symm hbs) (Ne.symm h.ds)) hS.size ⟨_, _, MI.at h3 ((k5.block _ (by have := h3.lt; omega) (Ne.symm hbd)).trans (g34.block _ h3.lt)), ?_⟩ (fun j c hc => ?_), hS⟩
  · rw [keep _ (h.sL _ x.sg) (Ne.symm hbg) h.gd]; exact h.box
  · show Due _ (outL m.L id ++ [(id, m.now + after)])
    rw [e0]
    exact hD'.put hnot _
  · show ∃ D n, _ ∧ Met D (slotIds (outL m.L id ++ [(id, m.now + after)]) _ _)
    rw [e0]
    by_cases e : j = k
    · subst e
      rw [hb] at hc; cases hc
      rw [slot_put hk.symm]
      refine ⟨_, _, h5, hD.put ?_ _⟩
      intro hm
      obtain ⟨v, h1, _⟩ := mem_slot.1 hm
      exact hnot (List.mem_map_of_mem (f := fun p : Tm => p.1) h1)
    · obtain ⟨D2, h5, h6⟩ := h.slo j c hc
      have hcd : c ≠ x.bd := fun e => h.db (e ▸ List.mem_of_getElem? hc)
      rw [slot_put_other (fun e1 => e (by omega))]
      exact ⟨D2, _, h5.at (keep c (h.sL _ (x.sk hc)) (bs_ne h hc hb e) hcd), h6⟩

theorem setC_bad (h : badA id after = true) : setC m id after = 2 := by simp [setC, h]
theorem setW_bad (h : badA id after = true) : setW m id after = m := by simp [setW, h]

set_option maxRecDepth 100000 in
set_option maxHeartbeats 1000000 in
theorem whSet_bad (h : WhO B w x m) (hb : id < 0 ∨ 1023 < id ∨ after < 1 ∨ 1099511627776 < after) :
    Calls Try.prog 12 #[.pointer (some ⟨x.g, 0, none⟩), .int .i64 id, .int .i64 after] w fun e w' => e = .returned (.int .i64 2) ∧ w = w' := by
  have hm := whMade_any h
  by_cases h1 : id < 0
  · go_enter Try.func12, Try.ntmps12
    go_wp2_with (go_at_call 23; (refine hm.mono ?_); rintro e w1 ⟨rfl, rfl⟩)
    go_ret
    exact ⟨rfl, rfl⟩
  · by_cases h2 : 1023 < id
    · clear hb
      go_enter Try.func12, Try.ntmps12
      go_wp2_with (go_at_call 23; (refine hm.mono ?_); rintro e w1 ⟨rfl, rfl⟩)
      go_ret
      exact ⟨rfl, rfl⟩
    · by_cases h3 : after < 1
      · clear hb
        go_enter Try.func12, Try.ntmps12
        go_wp2_with (go_at_call 23; (refine hm.mono ?_); rintro e w1 ⟨rfl, rfl⟩)
        go_ret
        exact ⟨rfl, rfl⟩
      · have h4 : 1099511627776 < after := by omega
        clear hb
        go_enter Try.func12, Try.ntmps12
        go_wp2_with (go_at_call 23; (refine hm.mono ?_); rintro e w1 ⟨rfl, rfl⟩)
        go_ret
        exact ⟨rfl, rfl⟩

/-- Cancel of what is not there leaves all as it is. -/
theorem whCancel_no (h : WhO B w x m) (hw : (Lit.int .i64 id).wf = true) (hn : m.now ≤ 1000000000) (hh : hasL m.L id = false) :
    Calls Try.prog 14 #[.pointer (some ⟨x.g, 0, none⟩), .int .i64 id] w fun e w' => e = .returned (.bool false) ∧ w = w' := by
  have hL := whLeft_any h hw hn
  rw [hh] at hL
  go_enter Try.func14, Try.ntmps14
  go_wp2_with (go_at_call 18; (refine hL.mono ?_); rintro e w1 ⟨rfl, rfl⟩)
  go_ret
  exact ⟨rfl, rfl⟩

set_option maxRecDepth 100000 in
set_option maxHeartbeats 4000000 in
theorem whSet_full (h : WhO B w x m) (hw : (Lit.int .i64 id).wf = true) (hn : m.now ≤ 1000000000) (b1 : ¬ id < 0) (b2 : ¬ 1023 < id) (b3 : ¬ after < 1) (b4 : ¬ 1099511627776 < after) (hh : hasL m.L id = false) (hf : (m.L.length : Int) = m.most) :
    Calls Try.prog 12 #[.pointer (some ⟨x.g, 0, none⟩), .int .i64 id, .int .i64 after] w fun e w' => e = .returned (.int .i64 5) ∧ Below w.heap.size w w' := by
  have hm := whMade_any h
  have kC : ∀ d os, Calls Try.prog 14 #[.pointer (some ⟨x.g, 0, none⟩), .int .i64 id] (grow (redrawn w d) os) fun e w'' => e = .returned (.bool false) ∧ ∃ r : Regrown, w'' = grow (redrawn w r.d) r.os := fun d os =>
    Calls.regrown_of ((whCancel_no (h.below (below_regrown _ _ _)) hw hn hh).mono fun e w' ⟨he, hw⟩ => ⟨he, hw ▸ Below.refl _ _⟩)
  have hl : ∀ d os ty, (Builtin.len_ #[50] ty #[.map (some x.bd)]).run Try.prog (grow (redrawn w d) os) = .ok (.int .i64 (m.L.length : Int)) (grow (redrawn w d) os) := fun d os ty => by
    obtain ⟨D, h1, h2⟩ := h.due
    have := (MI.below h1 (below_regrown w d os)).len Try.underlying50 ty
    have hs : Maps.size D = m.L.length := by rw [h2.met.size]; simp [ids]
    rwa [hs] at this
  have q3 : ∀ d os, (grow (redrawn w d) os).cell? ⟨x.g, 3, none⟩ = some (.map (some x.bd)) := fun d os => cell_regrown (bx5 h.box).2.2.2.1 d os
  have q1 : ∀ d os, (grow (redrawn w d) os).cell? ⟨x.g, 1, none⟩ = some (.int .i64 (m.L.length : Int)) := fun d os => by rw [hf]; exact cell_regrown (bx5 h.box).2.1 d os
  clear hh hf
  obtain ⟨N, hN⟩ : ∃ N, N = m.L.length := ⟨_, rfl⟩
  rw [← hN] at hl q1
  clear hN
  go_enter Try.func12, Try.ntmps12
  go_wp2_with (go_at_call 23; (refine hm.mono ?_); rintro e w1 ⟨rfl, rfl⟩)
  refine wp_region_quiet_below (by kernel_rfl) (by kernel_rfl) ?_
  repeat (go_big_quiet_step (first | (go_at_call 14; with_reducible exact kC _ _)))
  refine wpQuiet_nil ?_
  intro w9 hw9
  have g9 : Below w.heap.size w w9 := by obtain ⟨p9, rfl⟩ := hw9; exact below_regrown _ _ _
  clear hw9 kC hl q3 q1
  go_wp2
  go_ret
  exact ⟨rfl, g9⟩

set_option maxRecDepth 100000 in
set_option maxHeartbeats 8000000 in
theorem whSet_put (h : WhO B w x m) (hw : (Lit.int .i64 id).wf = true) (hn : m.now ≤ 1000000000) (b1 : ¬ id < 0) (b2 : ¬ 1023 < id) (b3 : ¬ after < 1) (b4 : ¬ 1099511627776 < after) (hf : fullW m id = false) :
    Calls Try.prog 12 #[.pointer (some ⟨x.g, 0, none⟩), .int .i64 id, .int .i64 after] w fun e w' => e = .returned (.int .i64 0) ∧ WhO B w' x (putW m id after) ∧ Ch x.S w w' := by
  have hm := whMade_any h
  have hi : Hid (WhI (putW m id after)) := h.inv.put (by simp only [badA, Bool.or_eq_false_iff, decide_eq_false_iff_not]; exact ⟨⟨⟨b1, b2⟩, b3⟩, b4⟩) hf
  have hn0 := h.inv.n0
  obtain ⟨T, hT⟩ : ∃ T, T = m.now := ⟨_, rfl⟩
  have HN := hid hn
  rw [← hT] at hn hn0
  have HT := hid hT
  clear hT
  go_enter Try.func12, Try.ntmps12
  go_wp2_with (go_at_call 23; (refine hm.mono ?_); rintro e w1 ⟨rfl, rfl⟩)
  go_cut [41] (fun s wx => s = .bool false ∧ WhO B wx x (cutW m id) ∧ Ch x.S w wx)
  case first =>
    cases hh : hasL m.L id
    · have e0 : cutW m id = m := by unfold cutW; rw [out_not hh]
      have kC : ∀ d os, Calls Try.prog 14 #[.pointer (some ⟨x.g, 0, none⟩), .int .i64 id] (grow (redrawn w d) os) fun e w'' => e = .returned (.bool false) ∧ ∃ r : Regrown, w'' = grow (redrawn w r.d) r.os := fun d os =>
        Calls.regrown_of ((whCancel_no (h.below (below_regrown _ _ _)) hw HN.out hh).mono fun e w' ⟨he, hw⟩ => ⟨he, hw ▸ Below.refl _ _⟩)
      have hl : ∀ d os ty, (Builtin.len_ #[50] ty #[.map (some x.bd)]).run Try.prog (grow (redrawn w d) os) = .ok (.int .i64 (m.L.length : Int)) (grow (redrawn w d) os) := fun d os ty => by
        obtain ⟨D, h1, h2⟩ := h.due
        have := (MI.below h1 (below_regrown w d os)).len Try.underlying50 ty
        have hs : Maps.size D = m.L.length := by rw [h2.met.size]; simp [ids]
        rwa [hs] at this
      have q3 : ∀ d os, (grow (redrawn w d) os).cell? ⟨x.g, 3, none⟩ = some (.map (some x.bd)) := fun d os => cell_regrown (bx5 h.box).2.2.2.1 d os
      have q1 : ∀ d os, (grow (redrawn w d) os).cell? ⟨x.g, 1, none⟩ = some (.int .i64 m.most) := fun d os => cell_regrown (bx5 h.box).2.1 d os
      have hne : ((m.L.length : Int) == m.most) = false := by
        rw [beq_eq_false_iff_ne]; intro e
        simp [fullW, hh, e] at hf
      clear hf hh hm
      obtain ⟨N, hN⟩ : ∃ N, N = m.L.length := ⟨_, rfl⟩
      rw [← hN] at hl hne
      clear hN
      refine wp_region_quiet_below (by kernel_rfl) (by kernel_rfl) ?_
      repeat (go_big_quiet_step (first | (go_at_call 14; with_reducible exact kC _ _)))
      refine wpQuiet_nil ?_
      intro w9 hw9
      have g9 : Below w.heap.size w w9 := by obtain ⟨p9, rfl⟩ := hw9; exact below_regrown _ _ _
      clear hw9 kC hl q3 q1
      go_wp2
      go_meet
      exact ⟨rfl, by rw [e0]; exact h.below g9, Ch.of_below g9⟩
    · have hd : WhO B w.drew x m := h.below (Below.refl _ w).drew
      have hC := whCancel_any hd hw HN.out
      rw [hh] at hC
      refine wp_region_any (by kernel_rfl) ?_
      change wpAny _ _ _ _ _ _ _ w.drew
      refine wpAny_take (i := 0) (v := .pointer (some ⟨x.g, 0, none⟩)) rfl (by kernel_rfl) (by kernel_rfl) (by kernel_rfl) (fun _ _ _ h => h) (Or.inl ⟨by simp [Region.wanted], ?_⟩) ?_
      · intro w; go_simp
      refine wpAny_take (i := 1) (v := .int .i64 id) rfl (by kernel_rfl) (by kernel_rfl) (by kernel_rfl) (fun _ _ _ h => h) (Or.inl ⟨by simp [Region.wanted], ?_⟩) ?_
      · intro w; go_simp
      refine wpAny_ready (rs := [2]) (by kernel_rfl) (by simp) ?_
      refine AllReady.cons rfl (fun K hK => ?_) AllReady.nil
      refine draw_callF 14 (by kernel_rfl) (by simp [Region.wanted]) _ _ _ rfl (by simp [Act.eval]) #[.pointer (some ⟨x.g, 0, none⟩), .int .i64 id] (by simp [Act.eval, Act.put]) _ hC ?_
      rintro e w6 ⟨rfl, h6, c6⟩
      refine ⟨_, rfl, ?_⟩
      refine hK _ _ ?_; clear hK K
      refine wpAny_take (i := 3) (v := .bool false) rfl (by kernel_rfl) (by kernel_rfl) (by kernel_rfl) (fun _ _ _ h => h) (Or.inl ⟨by simp [Region.wanted], ?_⟩) ?_
      · intro w; go_simp
      refine wpAny_take (i := 4) (v := .bool false) rfl (by kernel_rfl) (by kernel_rfl) (by kernel_rfl) (fun _ _ _ h => h) (Or.inl ⟨by simp [Region.wanted], ?_⟩) ?_
      · intro w; go_simp
      refine wpAny_take (i := 5) (v := undef) rfl (by kernel_rfl) (by kernel_rfl) (by kernel_rfl) (fun _ _ _ h => h) (Or.inr ⟨by simp [Region.wanted, yielded, Act.put], rfl⟩) ?_
      refine wpAny_take (i := 6) (v := undef) rfl (by kernel_rfl) (by kernel_rfl) (by kernel_rfl) (fun _ _ _ h => h) (Or.inr ⟨by simp [Region.wanted, yielded, Act.put], rfl⟩) ?_
      refine wpAny_take (i := 7) (v := undef) rfl (by kernel_rfl) (by kernel_rfl) (by kernel_rfl) (fun _ _ _ h => h) (Or.inr ⟨by simp [Region.wanted, yielded, Act.put], rfl⟩) ?_
      refine wpAny_take (i := 8) (v := undef) rfl (by kernel_rfl) (by kernel_rfl) (by kernel_rfl) (fun _ _ _ h => h) (Or.inr ⟨by simp [Region.wanted, yielded, Act.put], rfl⟩) ?_
      refine wpAny_take (i := 9) (v := undef) rfl (by kernel_rfl) (by kernel_rfl) (by kernel_rfl) (fun _ _ _ h => h) (Or.inr ⟨by simp [Region.wanted, yielded, Act.put], rfl⟩) ?_
      refine wpAny_take (i := 10) (v := undef) rfl (by kernel_rfl) (by kernel_rfl) (by kernel_rfl) (fun _ _ _ h => h) (Or.inr ⟨by simp [Region.wanted, yielded, Act.put], rfl⟩) ?_
      refine wpAny_take (i := 11) (v := undef) rfl (by kernel_rfl) (by kernel_rfl) (by kernel_rfl) (fun _ _ _ h => h) (Or.inr ⟨by simp [Region.wanted, yielded, Act.put], rfl⟩) ?_
      refine wpAny_take (i := 12) (v := undef) rfl (by kernel_rfl) (by kernel_rfl) (by kernel_rfl) (fun _ _ _ h => h) (Or.inr ⟨by simp [Region.wanted, yielded, Act.put], rfl⟩) ?_
      refine wpAny_take (i := 13) (v := undef) rfl (by kernel_rfl) (by kernel_rfl) (by kernel_rfl) (fun _ _ _ h => h) (Or.inr ⟨by simp [Region.wanted, yielded, Act.put], rfl⟩) ?_
      refine wpAny_take (i := 14) (v := undef) rfl (by kernel_rfl) (by kernel_rfl) (by kernel_rfl) (fun _ _ _ h => h) (Or.inr ⟨by simp [Region.wanted, yielded, Act.put], rfl⟩) ?_
      refine wpAny_take (i := 15) (v := .bool false) rfl (by kernel_rfl) (by kernel_rfl) (by kernel_rfl) (fun _ _ _ h => h) (Or.inl ⟨by simp [Region.wanted], ?_⟩) ?_
      · intro w; go_simp
      refine wpAny_done (by kernel_rfl) ?_ _
      simp [Act.put]
      go_wp2
      go_meet
      exact ⟨rfl, h6, (Ch.of_below ((Below.refl _ w).drew)).trans c6 (fun c hc => .inl hc)⟩
  case rest =>
    obtain ⟨rfl, h1, c1⟩ := hcut
    have hd : WhO B wc.drew x (cutW m id) := h1.below (Below.refl _ wc).drew
    obtain ⟨D, d1, d2⟩ := hd.due
    have hlen : (cutW m id).L.length < maxLen := by have e1 := hd.inv.len; have e2 := hd.inv.most; unfold maxLen; omega
    obtain ⟨w3, st, s1, s2⟩ := World.ownsMap.store (key := .int .i64 id) (val := .int .i64 (T + after)) d1 lawI Try.underlying50 hlen (keyOf_int_mk Try.underlying3 hw) (plainElem_int Try.underlying3 (wf64 _ (by omega) (by omega)))
    have q3 := (bx5 hd.box).2.2.2.1
    have q2 : wc.drew.cell? ⟨x.g, 2, none⟩ = some (.int .i64 T) := by rw [HT.out]; exact (bx5 hd.box).2.2.1
    have k3 := Ch.of_grown s2.grown
    have b3 := k3.bx hd.box hd.gd
    have p3 := (bx5 b3).2.2.2.1
    have r3 : RL mpV w3 (some ⟨x.sb, 0, none⟩) x.bs.length x.bs.length x.bs := hd.row.ch k3 (fun q hq => by cases hq; exact Ne.symm hd.ds)
    have lk := mi_look s1 (atKey_put_same d2.met.tidy.isMap (keyLit id) (.lit (.int .i64 (T + after))) _) hw
    have hSl := whSlot_b b3 r3 hd.n1 hd.n2 (T + after) (by omega) (by omega)
    clear hf
    go_wp2
    go_region
    have sl : ∀ k b, x.bs[k]? = some b → ∃ D, MU w3 b (slotIds (cutW m id).L x.bs.length k).length D ∧ Met D (slotIds (cutW m id).L x.bs.length k) := fun k b hb => by
      obtain ⟨D, h5, h6⟩ := hd.slo k b hb
      exact ⟨D, h5.at (k3.block b h5.lt (fun e => hd.db (e ▸ List.mem_of_getElem? hb))), h6⟩
    have hMAX : ∀ k, (slotIds (cutW m id).L x.bs.length k).length < maxLen := fun k => Nat.lt_of_le_of_lt slot_le hlen
    go_wp2_with (first
      | (go_at_call 24; (with_reducible refine hSl.mono ?_); rintro e w4 ⟨⟨k, b, hk, hb, rfl⟩, g4⟩
         obtain ⟨D4, v1, v2⟩ := sl k b hb
         have v3 := v1.kept (grown_of g4) (by simp))
      | (at_mapUpdate; refine wpList_mapUpdate_own _ rfl _ _ _ 62 rfl 3 67 lawI Try.underlying62 unitElem b _ D4 rfl v3 (hMAX k) _ _ (.int .i64 id) rfl rfl (keyOf_int_mk Try.underlying3 hw) _ _ unitElem_mk ?_
         intro w5 v5 v6))
    go_ret
    have e1 : putW (cutW m id) id after = putW m id after := by unfold putW cutW; rw [out_not (hasL_not.2 id_out)]
    have hi2 : WhI (putW (cutW m id) id after) := by rw [e1]; exact hi.out
    rw [HT.out] at hk s1
    obtain ⟨f1, f2⟩ := whPut_fin hd (hasL_not.2 id_out) hi2 hk hb v2 v5 v6 d2 s1 s2.grown g4
    rw [e1] at f1
    exact ⟨rfl, f1, (c1.trans (Ch.of_below ((Below.refl _ wc).drew) (S := fun _ => False)) (fun _ e => e.elim)).trans f2 (fun c hc => .inl hc)⟩

/-- Set, whatever it is asked. -/
theorem whSet_any (h : WhO B w x m) (hw : (Lit.int .i64 id).wf = true) (hn : m.now ≤ 1000000000) :
    Calls Try.prog 12 #[.pointer (some ⟨x.g, 0, none⟩), .int .i64 id, .int .i64 after] w fun e w' => e = .returned (.int .i64 (setC m id after)) ∧ WhO B w' x (setW m id after) ∧ Ch x.S w w' := by
  unfold setC setW
  cases hb : badA id after
  · simp only [Bool.false_eq_true, if_false]
    have hb' := hb
    simp only [badA, Bool.or_eq_false_iff, decide_eq_false_iff_not] at hb'
    obtain ⟨⟨⟨b1, b2⟩, b3⟩, b4⟩ := hb'
    cases hf : fullW m id
    · simp only [Bool.false_eq_true, if_false]
      exact whSet_put h hw hn b1 b2 b3 b4 hf
    · simp only [if_true]
      simp only [fullW, Bool.and_eq_true, Bool.not_eq_true', decide_eq_true_eq] at hf
      exact (whSet_full h hw hn b1 b2 b3 b4 hf.1 hf.2).mono fun e w' ⟨he, hg⟩ => ⟨he, h.below hg, Ch.of_below hg⟩
  · simp only [if_true]
    simp only [badA, Bool.or_eq_true, decide_eq_true_eq] at hb
    exact (whSet_bad h (by omega)).mono fun e w' ⟨he, hg⟩ => ⟨he, hg ▸ h, hg ▸ Ch.refl _ _⟩
end
end Go.Proofs.Ytpnmnffefdjegaa
