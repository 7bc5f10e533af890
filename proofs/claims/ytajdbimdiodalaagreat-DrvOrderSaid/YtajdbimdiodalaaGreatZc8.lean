/-
  Texts of this place, put together: B14d, M14j, B14h, B14e, B14f, B14g, B14i, B14j, B14k, B14l, B14m, B14n, B14o. What stands here is used by the statement; conditions: none of their own.
-/
import Derived.Test.YtajdbimdiodalaaGreatZc7
import Derived.Deep.LoopGhost
import Derived.Deep.Light
namespace Go.Proofs.YtajdbimdiodalaaGreat
open Go.RowKit Go.Sort
set_option linter.unusedVariables false

set_option maxRecDepth 100000 in
theorem eqDv (w : World) (g : Nat) : (binOp .eql 24 (.pointer (some ⟨g, 0, none⟩)) (.pointer (some ⟨g, 0, none⟩))).run Tryz.prog w = .ok (.bool true) w := by
  obtain ⟨j, hj⟩ := Option.isSome_iff_exists.1 (show (Tryz.prog.info? 96).isSome = true by kernel_rfl)
  exact run_eql_ptr_same w _ (show Tryz.prog.underlying 24 = some (.pointer 96) by kernel_rfl) hj

/-- Whether a number waits. -/
def waI (d : Dv) (n : Int) : Bool := d.q.ws.any (fun p => decide ((p.2 : Int) = n))

section
variable {B : Nat} {w w1 w2 : World} {g j : Nat} {d : Dv} {k : Dm} {S : Nat → Prop}

set_option maxRecDepth 100000 in
theorem dvMade_any (h : DvM B w g d k S) : Calls Tryz.prog 46 #[.pointer (some ⟨g, 0, none⟩)] w fun e w' => e = .returned (.bool true) ∧ w = w' := by
  have q0 := h.q0
  have qe := fun w => eqDv w g
  go_enter Tryz.func46, Tryz.ntmps46
  go_wp2
  go_ret
  exact ⟨rfl, rfl⟩

set_option maxRecDepth 100000 in
theorem dvOver_any (h : DvM B w g d k S) : Calls Tryz.prog 15 #[.pointer (some ⟨g, 0, none⟩)] w fun e w' => e = .returned (.bool d.ov) ∧ w = w' := by
  have q29 := h.q29
  have hm := dvMade_any h
  have hw := ffOver_any h.ff
  rw [← h.ov] at hw
  generalize d.ov = v at *
  go_enter Tryz.func15, Tryz.ntmps15
  go_wp2_with (first
    | (go_at_call 46; (with_reducible refine hm.mono ?_); rintro e w1 ⟨rfl, rfl⟩)
    | (go_at_call 49; (with_reducible refine hw.mono ?_); rintro e w1 ⟨rfl, rfl⟩))
  go_ret
  exact ⟨rfl, rfl⟩

set_option maxRecDepth 100000 in
set_option maxHeartbeats 1000000 in
theorem dvFill_any (h : DvM B w g d k S) : Calls Tryz.prog 14 #[.pointer (some ⟨g, 0, none⟩)] w fun e w' => e = .returned (.tuple #[.int .i64 (d.q.ws.length : Int), .int .i64 (d.rx.length : Int)]) ∧ Below w.heap.size w w' := by
  have q27 := h.q27
  have q29 := h.q29
  have hm := dvMade_any h
  have hz : d.q.ws.length = k.m.ws.length ∧ d.rx.length = k.fm.fs.length := by rw [h.q, h.rx]; exact ⟨by show (k.m.ws.map sQ).length = _; rw [List.length_map], List.length_map _⟩
  rw [hz.1, hz.2]
  have hl := fun d' os => Calls.regrown_of ((mlen_any (h.below (below_regrown w d' os)).ml).mono fun e w' he => ⟨he.1, he.2 ▸ Below.refl _ _⟩)
  have hf := fun d' os => Calls.regrown_of ((ffLen_any (h.below (below_regrown w d' os)).ff).mono fun e w' he => ⟨he.1, he.2 ▸ Below.refl _ _⟩)
  have c27 := fun d' os => cell_regrown q27 d' os
  have c29 := fun d' os => cell_regrown q29 d' os
  clear hz
  go_enter Tryz.func14, Tryz.ntmps14
  go_wp2_with (go_at_call 46; (with_reducible refine hm.mono ?_); rintro e w1 ⟨rfl, rfl⟩)
  refine wp_region_quiet_below (by kernel_rfl) (by kernel_rfl) ?_
  repeat (go_big_quiet_step (first
    | (go_at_call 47; exact hl _ _)
    | (go_at_call 48; exact hf _ _)))
  refine wpQuiet_nil ?_
  intro w9 hw9
  have gg : Below w.heap.size w w9 := by obtain ⟨p9, rfl⟩ := hw9; exact below_regrown _ _ _
  clear hw9
  go_wp2
  go_ret2
  exact ⟨rfl, gg⟩

set_option maxRecDepth 100000 in
set_option maxHeartbeats 1000000 in
theorem dvRead_any (h : DvM B w g d k S) (x : Fr × Int) (l : List (Fr × Int)) (h0 : d.rx = x :: l) : Calls Tryz.prog 26 #[.pointer (some ⟨g, 0, none⟩)] w fun e w' =>
    ∃ da dc, e = .returned (.tuple #[.agg (rxV ((x.1, (da, dc)), x.2)), .bool true]) ∧ OL bv 5 B w' da x.1.data.length dc x.1.data ∧ DvR B w g k S { d with rx := l } w' := by
  obtain ⟨y, t, hy, hx, hl⟩ : ∃ y t, k.fm.fs = y :: t ∧ sX y = x ∧ t.map sX = l := by
    rw [h.rx] at h0
    cases hk : k.fm.fs with
    | nil => rw [hk] at h0; cases h0
    | cons y t => rw [hk] at h0; simp only [List.map_cons, List.cons.injEq] at h0; exact ⟨y, t, rfl, h0.1, h0.2⟩
  obtain ⟨⟨F, da, dc⟩, tm⟩ := y
  subst hx
  have hy0 : k.fm.fs[0]? = some ((F, (da, dc)), tm) := by rw [hy]; rfl
  obtain ⟨w0, hw0, hb, h1, hg⟩ : ∃ w0, Hid (w.alloc (.cells rxZ 80) = w0) ∧ w0.heap[w.heap.size]? = some (.cells rxZ 80 (0, 0)) ∧ DvM B w0 g d k S ∧ Below w.heap.size w w0 := ⟨_, rfl, heap_alloc_new w _, h.alloc _, bnew0 w _⟩
  have q29 := h1.q29
  have hm := dvMade_any h1
  have hw := ffPop_any h1.ff _ hy0
  have HY := hid hy
  have HL := hid hl
  have hsf := h.sf
  have hsL := h.sL
  have ne : ∀ b, S b → w.heap.size ≠ b := fun b hb => by have := hsL b hb; omega
  clear h0 hy hl hy0
  go_enter Tryz.func26, Tryz.ntmps26
  go_wp2_with (first
    | (go_at_call 46; rw [hw0.out]; (with_reducible refine hm.mono ?_); rintro e w1 ⟨rfl, rfl⟩)
    | (go_at_call 58; (with_reducible refine hw.mono ?_); rintro e w2 ⟨a2, rfl, o2, x2, c2⟩
       have b2 : w2.heap[w.heap.size]? = some (.cells rxZ 80 (0, 0)) := c2.bx hb (fun e => e.elim (ne _ (hsf _ h.ff.sg)) (ne _ (hsf _ h.ff.ss))))
    | (with_reducible refine wpList_storeR rowX rfl _ _ rfl _ _ rfl rfl b2 rfl rfl (rx_ones _) ?_))
  have c3 := c2.mono (S1 := k.Sf) (fun b hb => by rcases hb with rfl | rfl; exact h.ff.sg; exact h.ff.ss)
  have h2 := h1.fifo c3 o2 (fun b hb => .inl hb.1)
  have hsz : (w2.setRow w.heap.size (rxV ((F, (da, dc)), tm))).heap.size = w2.heap.size := by simp
  have kr : Ch (fun b => b = w.heap.size) w2 (w2.setRow w.heap.size (rxV ((F, (da, dc)), tm))) := Ch.setRow (S := fun b => b = w.heap.size) (Ch.refl _ w2) (.inl rfl) _
  have h3 := h2.ch kr (fun b hb e => by rcases hb with hb | hb; exact ne b hb e.symm; exact ne b (hsf _ hb.1) e.symm)
  have x3 := x2.ch kr (fun q hq e => ne _ (hsf _ (h.ff.sd _ (by rw [HY.out]; exact List.mem_cons_self ..) q hq)) e.symm)
  refine bodyPost_ret (v := .tuple #[.agg (rxV ((F, (da, dc)), tm)), .bool true]) (results_row1 rowX rfl _ _ _ rfl rfl (setRow_heap _ _ _ _ _ _ b2) rfl) rfl ⟨da, dc, rfl, x3, _, _, h3.as ?_, ((Ch.of_below hg).trans c3 (fun b hb => .inl (.inr (.inr hb)))).setRow (.inr (Nat.le_refl _)) _, fun b hb => .inl (hb.elim id fun x => hsf b x.1), fun b hb => .inl (hb.imp id fun x => x.imp id fun y => y.1)⟩
  show Dv.mk d.pass d.c d.q ((poF k.fm).fs.map sX) (poF k.fm).room (poF k.fm).ov d.now = { d with rx := l }
  have e1 : (poF k.fm).fs.map sX = l := by unfold poF; rw [← HL.out]; show (k.fm.fs.drop 1).map sX = _; rw [HY.out]; rfl
  rw [e1, show (poF k.fm).room = k.fm.room from rfl, show (poF k.fm).ov = k.fm.ov from rfl, ← h.kp, ← h.ov]

set_option maxRecDepth 100000 in
set_option maxHeartbeats 1000000 in
theorem dvDrive_any (h : DvM B w g d k S) (hok : StepOK d.c) : Calls Tryz.prog 29 #[.pointer (some ⟨g, 0, none⟩)] w fun e w' => e = .returned (.bool (dvC d.c)) ∧ Below w.heap.size w w' := by
  have hrng := h.rng
  have hm := dvMade_any h
  have hD := drive_any w d.c k.s h.ct.r hok.ph (fun e1 e2 => (hok.sn e1 e2).pos)
  generalize dvC d.c = v at *
  clear hok
  go_enter Tryz.func29, Tryz.ntmps29
  go_wp2_with (first
    | (go_at_call 46; (with_reducible refine hm.mono ?_); rintro e w1 ⟨rfl, rfl⟩)
    | (with_reducible refine wpList_loadMW rowC (by simp [Region.wanted, yielded, Act.put]) _ rfl g 1 rfl (ctA d.c k.s) hrng rfl ?_)
    | (go_at_call 62; (with_reducible refine hD.mono ?_); rintro e w4 ⟨rfl, g4⟩))
  go_ret
  exact ⟨rfl, g4⟩

end
end Go.Proofs.YtajdbimdiodalaaGreat

namespace Go.Proofs.YtajdbimdiodalaaGreat
open Go.RowKit Go.Sort
set_option linter.unusedVariables false

theorem feD_fix {d : Dv} (h : DvJ d) : feD (feD d) = feD d := by
  obtain ⟨hJ, _, _⟩ := baD_J h
  have e0 : feD d = giD (baD d) := rfl
  have hb : (baD d).c.has = true → (baD d).c.sends = true := by
    unfold baD
    split
    · intro e; cases e
    · rename_i hn
      intro e
      cases e2 : d.c.sends
      · rw [e, e2] at hn; exact absurd rfl hn
      · rfl
  rw [e0]
  generalize baD d = e at *
  by_cases hh : e.c.has = true
  · have h1 : giD e = e := by unfold giD; rw [if_pos hh]
    have h2 : baD e = e := by unfold baD; rw [if_neg (by rw [hh, hb hh]; simp)]
    rw [h1]
    unfold feD
    rw [h2, h1]
  · have hf : e.c.has = false := by simpa using hh
    have h2 : baD e = e := by unfold baD; rw [if_neg (by rw [hf]; simp)]
    cases hq : beQ e.q with
    | none =>
      have h1 : giD e = e := by unfold giD; rw [if_neg hh, hq]
      rw [h1]
      unfold feD
      rw [h2, h1]
    | some p =>
      have h1 : giD e = { e with c := { e.c with has := true, give := p.1 }, q := { e.q with wire := p.2 } } := by unfold giD; rw [if_neg hh, hq]
      have hs : e.c.sends = false := by
        cases e2 : e.c.sends
        · rfl
        · have := (hJ.on.snd e2).2.1; rw [hf] at this; cases this
      obtain ⟨hw, ha⟩ := hJ.h0 hf
      rw [h1]
      have h3 : baD { e with c := { e.c with has := true, give := p.1 }, q := { e.q with wire := p.2 } } = { e with c := { e.c with has := false, give := zeroFr } } := by
        unfold baD
        rw [if_pos (by show (true && !e.c.sends) = true; rw [hs]; rfl)]
        have : loQ { e.q with wire := p.2 } = e.q := by
          unfold loQ
          rw [if_neg (by show ¬ e.q.ab = true; rw [ha]; simp)]
          show Dq.mk e.q.ws 0 false e.q.puts e.q.room = e.q
          rw [← hw, ← ha]
        rw [this]
      unfold feD
      rw [h3]
      unfold giD
      rw [if_neg (by simp)]
      dsimp only
      rw [hq]

/-- A driver between calls, behind so many steps. -/
structure DvG (j : Nat) (d : Dv) : Prop where
  I : DvI d
  sm : SmC j d.c
  fix : feD d = d
  now : d.now = (j : Int)

theorem sm_fe {j : Nat} {d : Dv} (h : SmC j d.c) : SmC j (feD d).c := by
  have h1 : SmC j (baD d).c := by
    unfold baD; split
    · exact sm_drop h
    · exact h
  show SmC j (giD (baD d)).c
  generalize baD d = e at *
  unfold giD
  split
  · exact h1
  · split
    · exact h1
    · exact sm_give h1 _

theorem newD_G (pass : Fr → Bool) (mails keep : Nat) : DvG 0 (newD pass mails keep) :=
  ⟨newD_I pass mails keep, sm_start, by rfl, rfl⟩
theorem DvG.fed {j : Nat} {d e : Dv} (hJ : DvJ e) (hs : SmC j e.c) (hn : e.now = (j : Int)) (hd : d = feD e) : DvG j d := by
  subst hd
  obtain ⟨a, b, _⟩ := feD_I hJ
  exact ⟨a, sm_fe hs, feD_fix hJ, by rw [b.now]; exact hn⟩
/-- What can be sent, put: the driver not fed yet. -/
def puD (d : Dv) (F : Fr) : Dv := { d with q := { d.q with ws := d.q.ws ++ [(F, d.q.puts + 1)], puts := d.q.puts + 1 } }
theorem puD_J {d : Dv} (h : DvJ d) {F : Fr} (hF : Good F) (hr : d.q.ws.length < d.q.room) : DvJ (puD d F) := by
  refine ⟨h.on, fun hh => ?_, h.h0, fun p hp => ?_, ?_, ?_, h.kp⟩
  · obtain ⟨a, b⟩ := h.hw hh
    exact ⟨a, List.mem_append_left _ b⟩
  · rcases List.mem_append.1 hp with hp | hp
    · obtain ⟨a, b, c⟩ := h.no p hp
      exact ⟨a, by show p.2 ≤ d.q.puts + 1; omega, c⟩
    · rw [List.mem_singleton] at hp; subst hp
      exact ⟨by show 1 ≤ d.q.puts + 1; omega, Nat.le_refl _, hF⟩
  · show (d.q.ws ++ [(F, d.q.puts + 1)]).Pairwise _
    rw [List.pairwise_append]
    refine ⟨h.up, List.pairwise_singleton _ _, fun p hp x hx => ?_⟩
    rw [List.mem_singleton] at hx; subst hx
    have := (h.no p hp).2.1
    show p.2 < d.q.puts + 1
    omega
  · show (d.q.ws ++ [(F, d.q.puts + 1)]).length ≤ d.q.room
    rw [List.length_append, List.length_singleton]; omega
theorem snD_pu {d : Dv} {F : Fr} (hr : d.q.ws.length < d.q.room) : snD d F = feD (puD d F) := if_neg (by omega)
theorem snD_G {j : Nat} {d : Dv} (h : DvG j d) {F : Fr} (hF : Good F) : DvG j (snD d F) := by
  by_cases hr : d.q.ws.length < d.q.room
  · exact DvG.fed (e := puD d F) (puD_J h.I.toDvJ hF hr) h.sm h.now (snD_pu hr)
  · have : snD d F = d := if_pos (by omega)
    rw [this]; exact h
/-- A number given up: the driver not fed yet. -/
def aaD (d : Dv) (n : Nat) : Dv := if d.q.wire = n then { d with q := { d.q with ab := true } } else { d with q := { d.q with ws := rmQ n d.q.ws } }
theorem aaD_J {d : Dv} (h : DvJ d) {n : Nat} (hn : waD d n = true) : DvJ (aaD d n) := by
  obtain ⟨p, hp, hpn⟩ := List.any_eq_true.1 hn
  have hpn : p.2 = n := by simpa using hpn
  have hn1 : 1 ≤ n := by have := (h.no p hp).1; omega
  unfold aaD
  split
  · rename_i hw
    exact ⟨h.on, h.hw, fun e => by have := (h.h0 e).1; omega, h.no, h.up, h.rm, h.kp⟩
  · rename_i hw
    obtain ⟨l1, l2⟩ := h.less (q := { d.q with ws := rmQ n d.q.ws }) (rmQ_sub n d.q.ws) rfl
    exact ⟨h.on, fun e => ⟨(h.hw e).1, rmQ_mem (h.hw e).2 hw⟩, h.h0, l1, l2, Nat.le_trans (rmQ_sub n d.q.ws).length_le h.rm, h.kp⟩
theorem abD_aa (d : Dv) (n : Nat) : abD d n = feD (aaD d n) := rfl
theorem aaD_c (d : Dv) (n : Nat) : (aaD d n).c = d.c ∧ (aaD d n).now = d.now := by unfold aaD; split <;> exact ⟨rfl, rfl⟩
theorem abD_G {j : Nat} {d : Dv} (h : DvG j d) {n : Nat} (hn : waD d n = true) : DvG j (abD d n) :=
  DvG.fed (e := aaD d n) (aaD_J h.I.toDvJ hn) (by rw [(aaD_c d n).1]; exact h.sm) (by rw [(aaD_c d n).2]; exact h.now) (abD_aa d n)
/-- A step: the driver not fed yet. -/
def peD (d : Dv) (x : Bool) : Dv := { (hpD { d with c := (stC d.c x).1 } (stC d.c x).2).1 with now := d.now + 1 }
theorem peD_c (d : Dv) (x : Bool) : (peD d x).c = (stC d.c x).1 ∧ (peD d x).now = d.now + 1 := by
  refine ⟨?_, rfl⟩
  show (hpD { d with c := (stC d.c x).1 } (stC d.c x).2).1.c = _
  unfold hpD
  split
  · rfl
  · split
    · split
      · split <;> rfl
      · rfl
    · split
      · rfl
      · split <;> rfl
theorem peD_J {d : Dv} (h : DvI d) (x : Bool) : DvJ (peD d x) := by
  have hk := on_step h.on x
  unfold peD
  by_cases h1 : (stC d.c x).2.1 = 1
  · obtain ⟨s1, s2, s3⟩ := hk.sent h1
    obtain ⟨w1, w2⟩ := h.hw s1
    have e : hpD { d with c := (stC d.c x).1 } (stC d.c x).2 = ({ d with c := (stC d.c x).1, q := seQ d.q }, (1, d.q.wire, (stC d.c x).2.2)) := if_pos h1
    have eq : seQ d.q = { d.q with ws := rmQ d.q.wire d.q.ws, wire := 0, ab := false } := if_neg (by omega)
    rw [e, eq]
    obtain ⟨l1, l2⟩ := h.less (q := { d.q with ws := rmQ d.q.wire d.q.ws, wire := 0, ab := false }) (rmQ_sub _ d.q.ws) rfl
    exact ⟨hk.on, fun e => (by have e : (stC d.c x).1.has = true := e; rw [s3] at e; cases e), fun _ => ⟨rfl, rfl⟩, l1, l2, Nat.le_trans (rmQ_sub _ d.q.ws).length_le h.rm, h.kp⟩
  · obtain ⟨k1, k2⟩ := hk.keep h1
    have hJ : ∀ (rx : List (Fr × Int)) (ov : Bool), rx.length ≤ d.keep → DvJ { d with c := (stC d.c x).1, rx := rx, ov := ov, now := d.now + 1 } := fun rx ov hl =>
      ⟨hk.on, fun e => by have e : (stC d.c x).1.has = true := e; show 1 ≤ d.q.wire ∧ ((stC d.c x).1.give, d.q.wire) ∈ d.q.ws; rw [k2]; exact h.hw (by rw [← k1]; exact e), fun e => h.h0 (by rw [← k1]; exact e), h.no, h.up, h.rm, hl⟩
    have key : ∃ rx ov t, rx.length ≤ d.keep ∧ hpD { d with c := (stC d.c x).1 } (stC d.c x).2 = ({ d with c := (stC d.c x).1, rx := rx, ov := ov }, t) := by
      unfold hpD
      rw [if_neg h1]
      split
      · split
        · split
          · rename_i hl
            exact ⟨d.rx ++ [((stC d.c x).2.2, d.now)], d.ov, _, by have hl : d.rx.length < d.keep := hl; rw [List.length_append, List.length_singleton]; omega, rfl⟩
          · exact ⟨d.rx, true, _, h.kp, rfl⟩
        · exact ⟨d.rx, d.ov, _, h.kp, rfl⟩
      · split
        · exact ⟨d.rx, d.ov, _, h.kp, rfl⟩
        · split
          · exact ⟨d.rx, d.ov, _, h.kp, rfl⟩
          · exact ⟨d.rx, d.ov, _, h.kp, rfl⟩
    obtain ⟨rx, ov, t, hl, e⟩ := key
    rw [e]
    exact hJ rx ov hl
theorem stD_G {j : Nat} {d : Dv} (h : DvG j d) (x : Bool) : DvG (j + 1) (stD d x).1 :=
  DvG.fed (e := peD d x) (peD_J h.I x) (by rw [(peD_c d x).1]; exact sm_step h.I.on h.sm x) (by rw [(peD_c d x).2, h.now]; omega) rfl

/-- What was read is no part of a feeding. -/
theorem feD_rx (d : Dv) (r : List (Fr × Int)) (o : Bool) : feD { d with rx := r, ov := o } = { feD d with rx := r, ov := o } := by
  have hb : baD { d with rx := r, ov := o } = { baD d with rx := r, ov := o } := by unfold baD; split <;> rfl
  have hg : ∀ e : Dv, giD { e with rx := r, ov := o } = { giD e with rx := r, ov := o } := fun e => by
    unfold giD
    by_cases hh : e.c.has = true
    · rw [if_pos hh, if_pos hh]
    · rw [if_neg hh, if_neg hh]
      dsimp only
      cases beQ e.q <;> rfl
  unfold feD
  rw [hb, hg]
theorem DvG.rx {j : Nat} {d : Dv} (h : DvG j d) {r : List (Fr × Int)} (hl : r.length ≤ d.keep) (o : Bool) : DvG j { d with rx := r, ov := o } :=
  ⟨⟨⟨h.I.on, h.I.hw, h.I.h0, h.I.no, h.I.up, h.I.rm, hl⟩, h.I.fed⟩, h.sm, by rw [feD_rx, h.fix], h.now⟩
end Go.Proofs.YtajdbimdiodalaaGreat

namespace Go.Proofs.YtajdbimdiodalaaGreat
open Go.RowKit Go.Sort
set_option linter.unusedVariables false

/-- A filter that is not right. -/
def wrF (l : List Fi) : Bool := l.any (fun x => !rightF x)

theorem dvNew1_any (w : World) (x : Fi) (hx : x.Ok) : Calls Tryz.prog 33 #[.agg (fiV x)] w fun r w' => r = .returned (.bool (!rightF x)) ∧ Below w.heap.size w w' := by
  obtain ⟨w0, hw0, hb, hg⟩ := boxed11 w 69 (fiV x)
  have hR := fiRight_any x hx w0
  generalize rightF x = v at *
  go_enter Tryz.func33, Tryz.ntmps33
  go_wp2_with (first
    | (rw [hw0.out])
    | (with_reducible refine wpList_loadR rowFi rfl _ rfl _ rfl hb rfl ?_)
    | (go_at_call 21; (with_reducible refine hR.mono ?_); rintro e w1 ⟨rfl, g1⟩))
  go_ret
  exact ⟨rfl, bstep hg g1⟩

set_option maxHeartbeats 1000000 in
theorem wrIndex_any (w : World) (a : Option Addr) (n c : Nat) (l : List Fi) (h : RK fiE 3 w a n c l) (hok : ∀ x ∈ l, x.Ok) (hn : n ≤ 100000) :
    Calls Tryz.prog 65 #[.slice a n c, .func (.func 33) #[] #[]] w fun q w' => ∃ v : Int, q = .returned (.int .i64 v) ∧ decide (0 ≤ v) = wrF l ∧ Below w.heap.size w w' := by
  have HL := hid h.len
  have HO := hid hok; clear hok
  go_enter Tryz.func65, Tryz.ntmps65
  go_wp2
  go_loopg [8] n (fun gn vi wr => ∃ k : Nat, k ≤ n ∧ gn = n - k ∧ vi = .int .i64 (k : Int) ∧ Hid (wrF (l.take k) = false) ∧ Below w.heap.size w wr)
  case atStart => exact ⟨0, by omega, by omega, rfl, by rw [List.take_zero]; rfl, Below.refl _ _⟩
  case round =>
    obtain ⟨k, hk, rfl, rfl, HF, hbl⟩ := hrel
    by_cases hlt : k < n
    · obtain ⟨p, hp⟩ : ∃ p, l[k]? = some p := ⟨l[k]'(by rw [HL.out]; exact hlt), by simp⟩
      obtain ⟨gb, off, rfl, hgb, hr⟩ := (h.below hbl).range hp
      have hcl := dvNew1_any wr p (HO.out p (List.mem_of_getElem? hp))
      have HP := hid hp; clear hp
      cases he : rightF p
      · rw [he] at hcl
        have HE := hid he; clear he
        go_wp2_with (first
          | (with_reducible refine wpList_loadM rowFi rfl _ rfl _ _ rfl (fiV p) hr rfl ?_)
          | (go_at_call 33; (with_reducible refine hcl.mono ?_); rintro q w1 ⟨rfl, g1⟩))
        go_ret
        refine ⟨(k : Int), rfl, ?_, bstep hbl g1⟩
        rw [decide_eq_true (by omega)]
        exact (List.any_eq_true.2 ⟨p, List.mem_of_getElem? HP.out, by rw [HE.out]; rfl⟩).symm
      · rw [he] at hcl
        have HE := hid he; clear he
        go_wp2_with (first
          | (with_reducible refine wpList_loadM rowFi rfl _ rfl _ _ rfl (fiV p) hr rfl ?_)
          | (go_at_call 33; (with_reducible refine hcl.mono ?_); rintro q w1 ⟨rfl, g1⟩))
        go_roundg (n - (k + 1))
        case measure => omega
        case rel => exact ⟨k + 1, by omega, rfl, by go_num, by
          show wrF (l.take (k + 1)) = false
          have h1 := HF.out
          unfold wrF at h1 ⊢
          rw [List.take_add_one, HP.out, List.any_append, h1]
          simp [HE.out], bstep hbl g1⟩
    · obtain rfl : k = n := by omega
      go_wp2
      go_ret
      exact ⟨-1, rfl, by have := HF.out; rw [List.take_of_length_le (by rw [HL.out]; exact Nat.le_refl _)] at this; rw [this]; rfl, hbl⟩

theorem wrContains_any (w : World) (a : Option Addr) (n c : Nat) (l : List Fi) (h : RK fiE 3 w a n c l) (hok : ∀ x ∈ l, x.Ok) (hn : n ≤ 100000) :
    Calls Tryz.prog 34 #[.slice a n c, .func (.func 33) #[] #[]] w fun q w' => q = .returned (.bool (wrF l)) ∧ Below w.heap.size w w' := by
  have hc := wrIndex_any w a n c l h hok hn
  generalize wrF l = z at *
  go_enter Tryz.func34, Tryz.ntmps34
  go_wp2_with (go_at_call 65; (with_reducible refine hc.mono ?_); rintro q w1 ⟨v, rfl, hv, g1⟩; have HV := hid hv; clear hv)
  all_goals (go_ret; exact ⟨ret_bool (by rw [← HV.out]; try simp), g1⟩)

theorem cloneFi_any (w : World) (a : Option Addr) (n c : Nat) (l : List Fi) (h : RK fiE 3 w a n c l) (hn : n ≤ 1000000) :
    Calls Tryz.prog 37 #[.slice a n c] w fun e w' => ∃ a' c', e = .returned (.slice a' n c') ∧ OK fiE 3 69 w.heap.size w' a' n c' l ∧ Below w.heap.size w w' := by
  have q22 : ∀ (w : World) (a : Option Addr) (n c n' c' : Nat), (binOp .eql 22 (.slice a n c) (.slice none n' c')).run Tryz.prog w = .ok (.bool a.isNone) w := fun w a n c n' c' => Lib.run_eql_slice_nil w _ _ a n c n' c' tFi.und
  cases a with
  | none =>
    obtain rfl : n = 0 := by
      by_cases h0 : n = 0
      · exact h0
      · obtain ⟨b, off, e, _⟩ := h.cell (by omega); cases e
    obtain rfl : l = [] := List.eq_nil_of_length_eq_zero h.len
    go_enter Tryz.func37, Tryz.ntmps37
    go_wp2
    go_ret
    exact ⟨none, 0, rfl, OK.nil _ _ _ _ _, Below.refl _ _⟩
  | some ad =>
    have h1 := h.below (bnew0 w (.cells #[] 69))
    have ho := ok_lit eFi 69 w.heap.size w [] #[] 0 rfl rfl (by omega) (Nat.le_refl _)
    go_enter Tryz.func37, Tryz.ntmps37
    go_wp2_with (at_builtin; refine wpList_appK tFi eFi rfl _ _ rfl rfl ho rfl h1 (by omega) (by omega) (by simp) ?_; intro w10 a10 c10 hol10 hb10)
    go_ret
    rw [Nat.zero_add, List.nil_append] at hol10
    exact ⟨a10, c10, rfl, hol10, (bnew0 w _).trans hb10⟩

theorem MlO.lower {B C : Nat} {w : World} {g : Nat} {m : Ml} {a : Option Addr} {c : Nat} {S : Nat → Prop} (h : MlO B w g m a c S) (hC : C ≤ B) : MlO C w g m a c S :=
  ⟨h.box, h.row.mono hC, h.wt, by have := h.hB; omega, h.sg, h.sr, h.sd, fun k hk => by have := h.sB k hk; omega, h.ng, h.nd, h.rm, h.le, h.pu, h.wi, h.sL⟩
theorem FfO.lower {B C : Nat} {w : World} {g s : Nat} {m : Fm} {a : Option Addr} {c : Nat} {st : List Rx} {S : Nat → Prop} (h : FfO B w g s m a c st S) (hC : C ≤ B) : FfO C w g s m a c st S :=
  ⟨h.box, h.row.mono hC, h.ad, h.cle, h.nle, h.fr, fun p hp => OL.mono (h.dat p hp) hC, by have := h.hB; omega, h.sg, h.ss, h.ng, h.sd, fun k hk => by have := h.sB k hk; omega, h.nd, h.pw, h.r1, h.rm, h.le, h.sL⟩

/-- Where a new driver lies. -/
def dm0 (gm mails : Nat) (fl : List Fi) (fa : Option Addr) (fc gf gs room : Nat) : Dm := ⟨sl0, gm, neM mails, none, 0, fun b => b = gm, fl, fa, fc, gf, gs, neF room, none, 0, List.replicate (2 * room) x0X, fun b => b = gf ∨ b = gs⟩

/-- What is laid for a driver, put together. -/
theorem dv_fin {w w3 w5 w6 : World} {gm gf gs mails room : Nat} {fl : List Fi} {fa : Option Addr} {fc : Nat} (m1 : MlO w.heap.size w3 gm (neM mails) none 0 (fun b => b = gm)) (g3 : Below w.heap.size w w3)
    (f1 : FfO w3.heap.size w5 gf gs (neF room) none 0 (List.replicate (2 * room) x0X) (fun b => b = gf ∨ b = gs)) (g5 : Below w3.heap.size w3 w5) (r1 : OK fiE 3 69 w5.heap.size w6 fa fl.length fc fl) (g6 : Below w5.heap.size w5 w6)
    (hok : ∀ x ∈ fl, x.Ok) (hn : fl.length ≤ 64) {cs : Array Value} (hcs : cs = dvV w6.heap.size c0 (dm0 gm mails fl fa fc gf gs room) 0) :
    DvM w.heap.size (w6.alloc (.cells cs 96)) w6.heap.size (newD (fun F => passF F.id F.ext fl) mails room) (dm0 gm mails fl fa fc gf gs room)
      (fun b => w.heap.size ≤ b ∧ b ≤ w6.heap.size) ∧ Below w.heap.size w (w6.alloc (.cells cs 96)) := by
  have z3 := g3.size
  have z5 := g5.size
  have z6 := g6.size
  have hb := heap_alloc_new w6 (.cells cs 96)
  have k2 : Ch (fun b => b = w6.heap.size) w6 (w6.alloc (.cells cs 96)) := Ch.of_below (bnew0 w6 _)
  have l1 := m1.lt
  have l2 := f1.lt
  have l3 := f1.sL gs (.inr rfl)
  have b2 := f1.hB
  have b3 := f1.sB gs (.inr rfl)
  have b1 := m1.hB
  have M := ((m1.below g5).below g6).ch k2 (fun b hb e => by omega)
  have F := ((f1.below g6).lower (show w.heap.size ≤ w3.heap.size by omega)).ch k2 (fun b hb e => by omega)
  have hat : ∀ q, ¬ AtS sl0 q := fun q hq => by rcases hq with hq | hq | hq <;> cases hq
  have hr : ∀ q, fa = some q → q.block < w6.heap.size ∧ w5.heap.size ≤ q.block := fun q hq => r1.ltB hq
  refine ⟨⟨?_, ⟨OL.nil _ _ _ _, OL.nil _ _ _ _, OL.nil _ _ _ _⟩, M, F, (r1.rk eFi).ch k2 (fun q hq e => by have := hr q hq; omega), hok, hn, rfl, rfl, rfl, rfl, rfl, by omega, fun b hb => hb.1, fun b hb => ?_, ⟨by omega, Nat.le_refl _⟩, fun b hb => ?_, fun b hb => ?_, fun q hq => absurd hq (hat q), fun q hq => ?_, ⟨?_, ?_⟩, ?_, fun q hq => absurd hq (hat q), ?_⟩, ?_⟩
  · rw [hb, hcs]; rfl
  · rw [heap_size_alloc]; omega
  · have hb : b = gm := hb; omega
  · have hb : b = gf ∨ b = gs := hb; omega
  · have := hr q hq; exact ⟨by omega, by omega⟩
  · show ¬ w6.heap.size = gm; omega
  · show ¬ (w6.heap.size = gf ∨ w6.heap.size = gs); omega
  · intro b hb hf
    have hb : b = gm := hb
    have hf : b = gf ∨ b = gs := hf
    omega
  · intro q hq
    have := hr q hq
    refine ⟨by omega, ?_, ?_⟩
    · show ¬ q.block = gm; omega
    · show ¬ (q.block = gf ∨ q.block = gs); omega
  · exact ((g3.trans (g5.mono z3)).trans (g6.mono (by omega))).alloc (by omega) _

/-- What New answers. -/
def NewD (w : World) (fl : List Fi) (mails room : Nat) (e : Ending) (w' : World) : Prop :=
  ∃ g k S, e = .returned (.tuple #[.pointer (some ⟨g, 0, none⟩), .int .i64 0]) ∧ DvM w.heap.size w' g (newD (fun F => passF F.id F.ext fl) mails room) k S ∧ Below w.heap.size w w'

set_option maxRecDepth 100000 in
set_option maxHeartbeats 4000000 in
theorem dvNew_any (w : World) (a : Option Addr) (n c : Nat) (l : List Fi) (h : RK fiE 3 w a n c l) (hok : ∀ x ∈ l, x.Ok) (hn : n ≤ 64) (hr : wrF l = false) (mails room : Nat) (m1 : 1 ≤ mails) (m2 : mails ≤ 256) (r1 : 1 ≤ room) (r2 : room ≤ 256) :
    Calls Tryz.prog 9 #[.slice a n c, .int .i64 (mails : Int), .int .i64 (room : Int)] w (NewD w l mails room) := by
  have HL := hid h.len
  have hc := wrContains_any w a n c l h hok (by omega)
  rw [hr] at hc
  have hM := fun w1 => mlNew_any w1 mails m1 m2
  have hF := fun w1 => ffNew_any w1 room r1 r2
  have hn64 : ¬ (64 : Int) < (n : Int) := by omega
  have HO := hid hok
  have HN := hid hn
  clear hok m1 m2 r1 r2 hr
  go_enter Tryz.func9, Tryz.ntmps9
  go_wp2_with (first
    | (go_at_call 34; (with_reducible refine hc.mono ?_); rintro e w1 ⟨rfl, g1⟩)
    | (go_at_call 35; (with_reducible refine (hM _).mono ?_); rintro e w3 ⟨gm, rfl, o3, b3, g3⟩)
    | (go_at_call 36; (with_reducible refine (hF _).mono ?_); rintro e w5 ⟨gf, gs, rfl, o5, g5⟩
       have hR := cloneFi_any w5 a n c l (((h.below g1).below g3).below g5) (by omega))
    | (go_at_call 37; (with_reducible refine hR.mono ?_); rintro e w6 ⟨a6, c6, rfl, o6, g6⟩))
  go_ret2
  have g13 := bstep g1 g3
  have hl : l.length = n := HL.out
  subst hl
  have hfin := dv_fin (o3.lower g1.size) g13 o5 g5 o6 g6 HO.out HN.out (cs := #[.pointer (some ⟨w6.heap.size, 0, none⟩), .int .u8 0, .int .i64 0, .int .i64 0, .int .i64 0, .bool false, .int .i64 0, .int .i64 0, .bool false, .int .u32 0, .bool false, .bool false, .int .u8 0, .slice none 0 0, .bool false, .bool false, .slice none 0 0, .int .i64 0, .bool false, .int .u8 0, .slice none 0 0, .int .u8 0, .bool false, .bool false, .int .u8 0, .bool false, .bool false, .pointer (some ⟨gm, 0, none⟩), .slice a6 l.length c6, .pointer (some ⟨gf, 0, none⟩), .int .i64 0]) rfl
  exact ⟨_, _, _, rfl, hfin.1, hfin.2⟩

end Go.Proofs.YtajdbimdiodalaaGreat

namespace Go.Proofs.YtajdbimdiodalaaGreat
open Go.RowKit Go.Sort
set_option linter.unusedVariables false

section
variable {B : Nat} {w w1 w2 : World} {g j : Nat} {d : Dv} {k : Dm} {S : Nat → Prop}

/-- How a mail answers, in a driver. -/
def PuO (B : Nat) (w : World) (g : Nat) (d : Dv) (k : Dm) (S : Nat → Prop) (v : Value) (e : Ending) (w' : World) : Prop := e = .returned v ∧ DvR B w g k S d w'

set_option maxRecDepth 100000 in
set_option maxHeartbeats 4000000 in
/-- Send, by what the mail answers. -/
theorem dvSend_of (h : DvM B w g d k S) (F : Fr) (fa : Option Addr) (fc : Nat) (n z : Int) {e : Dv} (hJ : DvJ e) (hs : SmC j e.c) (hj : j ≤ 1000000000)
    (hP : ∀ w1, Below w.heap.size w w1 → Calls Tryz.prog 56 #[.pointer (some ⟨k.gm, 0, none⟩), .agg (frV F fa fc)] w1 (PuO B w1 g e k S (.tuple #[.int .i64 n, .int .i64 z]))) :
    Calls Tryz.prog 22 #[.pointer (some ⟨g, 0, none⟩), .agg (frV F fa fc)] w fun r w' => r = .returned (.tuple #[.int .i64 n, .int .i64 z]) ∧ DvR B w g k S (feD e) w' := by
  obtain ⟨w0, hw0, hb, h1, hg⟩ : ∃ w0, Hid (w.alloc (.cells (frV F fa fc) 35) = w0) ∧ w0.heap[w.heap.size]? = some (.cells (frV F fa fc) 35 (0, 0)) ∧ DvM B w0 g d k S ∧ Below w.heap.size w w0 := ⟨_, rfl, heap_alloc_new w _, h.alloc _, bnew0 w _⟩
  have hm := dvMade_any h1
  have hgl := h1.lt
  clear h
  go_enter_defers Tryz.func22, Tryz.ntmps22
  go_upto_region 4 with (go_at_call 46; rw [hw0.out]; (with_reducible refine hm.mono ?_); rintro e w1 ⟨rfl, rfl⟩)
  have HS : Below w0.heap.size w0 w0.drew := (Below.refl _ _).drew
  have hq : ∀ w', Below w0.heap.size w0 w' → w'.cell? ⟨g, 27, none⟩ = some (.pointer (some ⟨k.gm, 0, none⟩)) := fun w' hw => (h1.below hw).q27
  have hP := hP w0.drew (hg.trans (HS.mono hg.size))
  clear hm hw0
  refine Code.wp_mono (fun _ _ _ h => noPn_imp h) ?_
  refine Rest.begin (S := fun w' => Below w0.heap.size w0 w') (X := [5]) (by kernel_rfl) ?_
  change Rest _ _ _ _ _ _ _ _ _ w0.drew
  refine Rest.take (i := 0) (v := .pointer (some ⟨g, 0, none⟩)) rfl (by kernel_rfl) (by kernel_rfl) (by kernel_rfl) (by kernel_rfl) (fun _ _ _ h => h) (.inl HS) (Or.inl ⟨by simp [Region.wanted], ?_⟩) ?_
  · intro w; go_simp
  refine Rest.take (i := 1) (v := .pointer (some ⟨g, 0, none⟩)) rfl (by kernel_rfl) (by kernel_rfl) (by kernel_rfl) (by kernel_rfl) (fun _ _ _ h => h) (.inl HS) (Or.inl ⟨by simp [Region.wanted], ?_⟩) ?_
  · intro w; go_simp
  refine Rest.take (i := 2) (v := .pointer (some ⟨g, 27, none⟩)) rfl (by kernel_rfl) (by kernel_rfl) (by kernel_rfl) (by kernel_rfl) (fun _ _ _ h => h) (.inl HS) (Or.inl ⟨by simp [Region.wanted], ?_⟩) ?_
  · intro w; go_simp
  refine Rest.takeS (i := 3) (v := .pointer (some ⟨k.gm, 0, none⟩)) rfl (by kernel_rfl) (by kernel_rfl) (by kernel_rfl) (by kernel_rfl) (fun _ _ _ h => h) HS (.inl ⟨by simp [Region.wanted], ?_⟩) ?_
  · intro w hw; have q27 := hq w hw; go_simp
  refine Rest.takeS (i := 4) (v := .agg (frV F fa fc)) rfl (by kernel_rfl) (by kernel_rfl) (by kernel_rfl) (by kernel_rfl) (fun _ _ _ h => h) HS (yields_loadR rowF (by simp [Region.wanted]) _ rfl w.heap.size (by simp [Act.eval, Act.put]) _ rfl (fun w' hw => ⟨_, _, bx_below hb hw⟩)) ?_
  refine Rest.one (i := 5) (by kernel_rfl) rfl (fun K hK => ?_)
  refine draw_callF 56 (by kernel_rfl) (by simp [Region.wanted]) _ _ _ rfl (by simp [Act.eval]) #[.pointer (some ⟨k.gm, 0, none⟩), .agg (frV F fa fc)] (by simp [Act.eval, Act.put]) _ hP ?_
  rintro e5 w5 ⟨rfl, k5, S5, o5, c5, s5, x5⟩
  refine ⟨_, rfl, ?_⟩
  refine hK _ _ ⟨.inr (thru_of (by kernel_rfl)), Rest.of_any _ _ _ _ (thru_of (by kernel_rfl)) ?_⟩; clear hK K
  refine wpAny_take (i := 6) (v := .int .i64 n) rfl (by kernel_rfl) (by kernel_rfl) (by kernel_rfl) (fun _ _ _ h => h) (Or.inl ⟨by simp [Region.wanted], ?_⟩) ?_
  · intro w; go_simp
  refine wpAny_take (i := 7) (v := .int .i64 z) rfl (by kernel_rfl) (by kernel_rfl) (by kernel_rfl) (fun _ _ _ h => h) (Or.inl ⟨by simp [Region.wanted], ?_⟩) ?_
  · intro w; go_simp
  refine wpAny_take (i := 8) (v := .int .i64 n) rfl (by kernel_rfl) (by kernel_rfl) (by kernel_rfl) (fun _ _ _ h => h) (Or.inl ⟨by simp [Region.wanted], ?_⟩) ?_
  · intro w; go_simp
  refine wpAny_take (i := 9) (v := .int .i64 z) rfl (by kernel_rfl) (by kernel_rfl) (by kernel_rfl) (fun _ _ _ h => h) (Or.inl ⟨by simp [Region.wanted], ?_⟩) ?_
  · intro w; go_simp
  refine wpAny_done (by kernel_rfl) ?_ _
  have cc : Ch (wrS g k) w w5 := ((Ch.of_below hg).drew).trans c5 (fun b hb => .inl hb)
  have ss : ∀ b, S5 b → S b ∨ w.heap.size ≤ b := fun b hb => (s5 b hb).imp id fun x => by have := hg.size; have : w0.drew.heap.size = w0.heap.size := rfl; omega
  have xx : ∀ b, wrS g k5 b → wrS g k b ∨ w.heap.size ≤ b := fun b hb => (x5 b hb).imp id fun x => by have := hg.size; have : w0.drew.heap.size = w0.heap.size := rfl; omega
  clear HS hq hP h1 hb hg
  unfold noPn
  dsimp only
  go_wp2
  refine leaves_cons (f := 55) (args := #[.pointer (some ⟨g, 0, none⟩)]) (by simp) (by simp [go_sem]) ?_
  refine (feed_any o5 hJ hs hj .returning).mono ?_
  rintro e u' w'' ⟨rfl, rfl, hR⟩
  exact ⟨_, by simp [results, Tryz.results22, go_sem], rfl, hR.trans cc ss xx⟩
/-- A right frame, and room for it. -/
theorem dvSend_any (h : DvM B w g d k S) (hG : DvG j d) (hj : j ≤ 1000000000) (F : Fr) (fa : Option Addr) (fc : Nat) (hF : Good F) (hl : d.q.ws.length < d.q.room) (hpu : d.q.puts + 1 < 4611686018427387904) (hR : ∀ w', Ch S w w' → RL bv w' fa F.data.length fc F.data) :
    Calls Tryz.prog 22 #[.pointer (some ⟨g, 0, none⟩), .agg (frV F fa fc)] w fun r w' => r = .returned (.tuple #[.int .i64 ((d.q.puts : Int) + 1), .int .i64 0]) ∧ DvR B w g k S (snD d F) w' := by
  have hri : riF F.id F.ext F.rem F.dlc F.data.length = true := (good_iff F _ rfl).2 hF
  have hl8 := riF_long hri
  have hid := hF.id
  have hl2 : k.m.ws.length < k.m.room := by have := hl; rw [h.q] at this; simpa [qM] using this
  have hp2 : d.q.puts = k.m.puts := by rw [h.q]; rfl
  rw [snD_pu hl]
  refine dvSend_of h F fa fc _ 0 (puD_J hG.I.toDvJ hF hl) hG.sm hj fun w1 g1 => ?_
  have h1 := h.below g1
  refine (mlPut_any h1.ml F fa fc (by split at hid <;> omega) (by have := hF.dlc; omega) hri hl2 (by omega) (fun w' c => hR w' ((Ch.of_below g1).trans (c.mono h.sm) fun b hb => .inl hb)) (by omega)).mono ?_
  rintro e w' ⟨a', c', S', da, dc, rfl, o, cc, ss⟩
  refine ⟨by rw [hp2], _, _, (h1.mail cc o ss).as ?_, cc.mono (fun b hb => .inr (.inl hb)), fun b hb => ?_, fun b hb => ?_⟩
  · unfold puD
    rw [h.q]
    show Dv.mk d.pass d.c ⟨(k.m.ws ++ [((F, (da, dc)), k.m.puts + 1)]).map sQ, k.m.wire, k.m.ab, k.m.puts + 1, k.m.room⟩ d.rx d.keep d.ov d.now = _
    rw [List.map_append]; rfl
  · rcases hb with hb | hb
    · exact .inl hb
    · exact (ss b hb).imp (h.sm b) id
  · rcases hb with hb | hb | hb
    · exact .inl (.inl hb)
    · exact (ss b hb).imp (fun x => .inr (.inl x)) id
    · exact .inl (.inr (.inr hb))

set_option maxRecDepth 100000 in
set_option maxHeartbeats 1000000 in
theorem dvabort_of (h : DvM B w g d k S) (n z : Int) (b : Bool) {e : Dv} (hJ : DvJ e) (hs : SmC j e.c) (hj : j ≤ 1000000000)
    (hP : Calls Tryz.prog 94 #[.pointer (some ⟨k.gm, 0, none⟩), .int .i64 n] w (PuO B w g e k S (.tuple #[.bool b, .int .i64 z]))) :
    Calls Tryz.prog 63 #[.pointer (some ⟨g, 0, none⟩), .int .i64 n] w fun r w' => r = .returned (.int .i64 z) ∧ DvR B w g k S (feD e) w' := by
  have hm := dvMade_any h
  have q27 := h.q27
  go_enter_defers Tryz.func63, Tryz.ntmps63
  go_wp2_with (first
    | (go_at_call 46; (with_reducible refine hm.mono ?_); rintro e w1 ⟨rfl, rfl⟩)
    | (go_at_call 94; (with_reducible refine hP.mono ?_); rintro e5 w5 ⟨rfl, k5, S5, o5, c5, s5, x5⟩))
  refine leaves_cons (f := 55) (args := #[.pointer (some ⟨g, 0, none⟩)]) (by simp) (by simp [go_sem]) ?_
  refine (feed_any o5 hJ hs hj .returning).mono ?_
  rintro e u' w'' ⟨rfl, rfl, hR⟩
  exact ⟨_, results_tmp rfl _ _ _, rfl, hR.trans c5 s5 x5⟩

/-- What mail.Abort makes of a driver. -/
theorem dv_aa (h : DvM B w g d k S) (hJ : DvJ d) (N : Nat) (hn : waD d N = true) : ∃ b, Calls Tryz.prog 94 #[.pointer (some ⟨k.gm, 0, none⟩), .int .i64 (N : Int)] w (PuO B w g (aaD d N) k S (.tuple #[.bool b, .int .i64 0])) := by
  have hq : d.q.wire = k.m.wire := by rw [h.q]; rfl
  have hw : hasW (N : Int) k.m.ws = true := by
    rw [ha_map, ← h.q]
    obtain ⟨p, hp, hpn⟩ := List.any_eq_true.1 hn
    exact List.any_eq_true.2 ⟨p, hp, by have := of_decide_eq_true hpn; simp; omega⟩
  by_cases e : d.q.wire = N
  · refine ⟨false, ?_⟩
    have e2 : k.m.wire = N := by rw [← hq]; exact e
    rw [← e2]
    refine (abort_wire h.ml (by rw [e2]; exact hw)).mono ?_
    rintro r w' ⟨rfl, o, c⟩
    refine ⟨rfl, _, _, (h.mail0 c o).as ?_, c.mono (fun b hb => .inr (.inl hb)), fun b hb => .inl hb, fun b hb => .inl hb⟩
    unfold aaD
    rw [if_pos (by rw [e2]; exact e), h.q]; rfl
  · refine ⟨true, ?_⟩
    refine (abort_yes h.ml N hw (fun x => e (by rw [hq]; exact x.symm))).mono ?_
    rintro r w' ⟨rfl, o, c⟩
    refine ⟨rfl, _, _, (h.mail0 c o).as ?_, c.mono (fun b hb => .inr (.inl hb)), fun b hb => .inl hb, fun b hb => .inl hb⟩
    unfold aaD
    rw [if_neg e, h.q]
    show Dv.mk d.pass d.c ⟨(rmW N k.m.ws).map sQ, k.m.wire, k.m.ab, k.m.puts, k.m.room⟩ d.rx d.keep d.ov d.now = _
    rw [rm_map]; rfl

set_option maxRecDepth 100000 in
set_option maxHeartbeats 1000000 in
/-- A number that waits. -/
theorem dvAbort_any (h : DvM B w g d k S) (hG : DvG j d) (hj : j ≤ 1000000000) (N : Nat) (hn : waD d N = true) :
    Calls Tryz.prog 30 #[.pointer (some ⟨g, 0, none⟩), .int .i64 (N : Int)] w fun r w' => r = .returned (.tuple #[.bool (!waI (abD d N) (N : Int)), .int .i64 0]) ∧ DvR B w g k S (abD d N) w' := by
  obtain ⟨b, hb⟩ := dv_aa h hG.I.toDvJ N hn
  have hA := dvabort_of h (N : Int) 0 b (aaD_J hG.I.toDvJ hn) (by rw [(aaD_c d N).1]; exact hG.sm) hj hb
  rw [← abD_aa] at hA
  have hW : ∀ w5 k5 S5, DvM B w5 g (abD d N) k5 S5 → Calls Tryz.prog 50 #[.pointer (some ⟨k5.gm, 0, none⟩), .int .i64 (N : Int)] w5 fun e w' => e = .returned (.bool (waI (abD d N) (N : Int))) ∧ Below w5.heap.size w5 w' := fun w5 k5 S5 h5 => by
    have := waits_any h5.ml (N : Int)
    rwa [ha_map, ← h5.q] at this
  generalize abD d N = d5 at *
  generalize waI d5 (N : Int) = v at *
  generalize (N : Int) = n at *
  clear hb
  go_enter Tryz.func30, Tryz.ntmps30
  go_wp2_with (first
    | (go_at_call 63; (with_reducible refine hA.mono ?_); rintro e5 w5 ⟨rfl, k5, S5, o5, c5, s5, x5⟩
       have q27 := o5.q27
       have hW5 := hW _ _ _ o5)
    | (go_at_call 50; (with_reducible refine hW5.mono ?_); rintro e6 w6 ⟨rfl, g6⟩))
  go_ret2
  exact ⟨rfl, _, _, o5.below g6, c5.call g6, s5, x5⟩
end
end Go.Proofs.YtajdbimdiodalaaGreat

namespace Go.Proofs.YtajdbimdiodalaaGreat
open Go.RowKit Go.Sort
set_option linter.unusedVariables false

theorem rowN : RowT Tryz.prog 73 7 := rowT_of (by kernel_rfl) (by kernel_rfl)
/-- The cells of what is told. -/
abbrev noV (t : No) (a : Option Addr) (c : Nat) : Array Value := #[.int .u8 (t.1 : Int), .int .i64 (t.2.1 : Int), .int .u32 (t.2.2.id : Int), .bool t.2.2.ext, .bool t.2.2.rem, .int .u8 (t.2.2.dlc : Int), .slice a t.2.2.data.length c]
abbrev noZ : Array Value := #[.int .u8 0, .int .i64 0, .int .u32 0, .bool false, .bool false, .int .u8 0, .slice none 0 0]
theorem no_ones (t : No) (a : Option Addr) (c : Nat) : (noV t a c).all (·.oneCell') = true := by kernel_rfl

/-- A frame that was taken. -/
def tkD (d : Dv) (F : Fr) (t : Int) : Dv × No := if d.pass F then (if d.rx.length < d.keep then ({ d with rx := d.rx ++ [(F, t)] }, (2, 0, F)) else ({ d with ov := true }, (3, 0, F))) else (d, noN)

section
variable {B : Nat} {w w1 w2 : World} {g j : Nat} {d : Dv} {k : Dm} {S : Nat → Prop}

/-- Push, in a driver. -/
theorem dv_push (h : DvM B w g d k S) (F : Fr) (fa : Option Addr) (fc : Nat) (t : Int) (hlen : F.data.length ≤ 1000000) (hR : ∀ w', Ch (wrS g k) w w' → RL bv w' fa F.data.length fc F.data) :
    Calls Tryz.prog 91 #[.pointer (some ⟨k.gf, 0, none⟩), .agg (rxV ((F, (fa, fc)), t))] w (PuO B w g (if d.rx.length < d.keep then { d with rx := d.rx ++ [(F, t)] } else { d with ov := true }) k S (.int .i64 (if d.rx.length < d.keep then 0 else 5))) := by
  have hz : d.rx.length = k.fm.fs.length ∧ d.keep = k.fm.room := by rw [h.rx]; exact ⟨List.length_map _, h.kp⟩
  by_cases hl : d.rx.length < d.keep
  · rw [if_pos hl, if_pos hl]
    refine (ffPush_any h.ff F t fa fc (by rw [← hz.1, ← hz.2]; exact hl) (fun w' c => hR w' (c.mono fun b hb => .inr (.inr hb))) hlen).mono ?_
    rintro e w' ⟨a', c', st', S', da, dc, rfl, o, c, ss⟩
    refine ⟨rfl, _, _, (h.fifo c o ss).as ?_, c.mono (fun b hb => .inr (.inr hb)), fun b hb => ?_, fun b hb => ?_⟩
    · show Dv.mk d.pass d.c d.q ((k.fm.fs ++ [((F, (da, dc)), t)]).map sX) k.fm.room k.fm.ov d.now = _
      rw [List.map_append, ← h.rx, ← h.kp, ← h.ov]; rfl
    · exact hb.elim .inl fun x => (ss b x).imp (h.sf b) id
    · rcases hb with hb | hb | hb
      · exact .inl (.inl hb)
      · exact .inl (.inr (.inl hb))
      · exact (ss b hb).imp (fun x => .inr (.inr x)) id
  · rw [if_neg hl, if_neg hl]
    have hle := h.ff.le
    refine (ffPush_full h.ff _ (by rw [hz.1, hz.2] at hl; omega)).mono ?_
    rintro e w' ⟨rfl, o, c⟩
    refine ⟨rfl, _, _, (h.fifo c o (fun b hb => .inl hb)).as ?_, c.mono (fun b hb => .inr (.inr hb)), fun b hb => .inl (hb.elim id (h.sf b)), fun b hb => .inl hb⟩
    show Dv.mk d.pass d.c d.q (k.fm.fs.map sX) k.fm.room true d.now = _
    rw [← h.rx, ← h.kp]

/-- A received frame's cells: those of the frame. -/
theorem rx_rng {w : World} {b : Nat} {F : Fr} {fa : Option Addr} {fc : Nat} {t : Int} (h : w.heap[b]? = some (.cells (rxV ((F, (fa, fc)), t)) 80 (0, 0))) : w.rangeAt b 0 (frV F fa fc).toList := by
  intro j v hv
  rw [cell_of_row w b _ _ _ _ h]
  match j, hv with
  | 0, hv => simpa using hv
  | 1, hv => simpa using hv
  | 2, hv => simpa using hv
  | 3, hv => simpa using hv
  | 4, hv => simpa using hv
  | j + 5, hv => simp at hv

set_option maxRecDepth 100000 in
set_option maxHeartbeats 4000000 in
theorem took_any (h : DvM B w g d k S) (F : Fr) (fa : Option Addr) (fc : Nat) (t : Int) (hi : F.id < 4294967296) (hlen : F.data.length ≤ 1000000) (hR : ∀ w', Ch (wrS g k) w w' → RL bv w' fa F.data.length fc F.data) :
    Calls Tryz.prog 61 #[.pointer (some ⟨g, 0, none⟩), .agg (rxV ((F, (fa, fc)), t))] w fun r w' => ∃ a c, r = .returned (.agg (noV (tkD d F t).2 a c)) ∧ (((tkD d F t).2 = noN ∧ a = none ∧ c = 0) ∨ ((tkD d F t).2.2.2 = F ∧ a = fa ∧ c = fc)) ∧ DvR B w g k S (tkD d F t).1 w' := by
  obtain ⟨w0, hw0, hb, hn, h1, hg⟩ : ∃ w0, Hid ((w.alloc (.cells (rxV ((F, (fa, fc)), t)) 80)).alloc (.cells noZ 73) = w0) ∧ w0.heap[w.heap.size]? = some (.cells (rxV ((F, (fa, fc)), t)) 80 (0, 0)) ∧ w0.heap[w.heap.size + 1]? = some (.cells noZ 73 (0, 0)) ∧ DvM B w0 g d k S ∧ Below w.heap.size w w0 :=
    ⟨_, rfl, bx_alloc _ (heap_alloc_new w _), by have := heap_alloc_new (w.alloc (.cells (rxV ((F, (fa, fc)), t)) 80)) (.cells noZ 73); rwa [heap_size_alloc] at this, (h.alloc _).alloc _, bnew (bnew0 w _) _⟩
  have hsL := h.sL
  have HS : Below w0.heap.size w0 w0.drew := (Below.refl _ _).drew
  have hq : ∀ w', Below w0.heap.size w0 w' → w'.cell? ⟨g, 28, none⟩ = some (.slice k.fa k.fl.length k.fc) := fun w' hw => (h1.below hw).q28
  have hr : ∀ w', Below w0.heap.size w0 w' → w'.rangeAt w.heap.size 0 (frV F fa fc).toList := fun w' hw => rx_rng (bx_below hb hw)
  have hP := fiPass_any w0.drew k.fa k.fl.length k.fc k.fl F.id F.ext F.rem (.int .u8 (F.dlc : Int)) (.slice fa F.data.length fc) (h1.fi.below HS) h1.fok (by have := h1.fln; omega) hi
  rw [show passF F.id F.ext k.fl = d.pass F by rw [h1.pass]] at hP
  have hgl := h1.lt
  have HT : Hid (tkD d F t = if d.pass F then (if d.rx.length < d.keep then ({ d with rx := d.rx ++ [(F, t)] }, (2, 0, F)) else ({ d with ov := true }, (3, 0, F))) else (d, noN)) := hid rfl
  go_enter Tryz.func61, Tryz.ntmps61
  go_upto_region 1 with (rw [hw0.out])
  clear hw0
  generalize d.pass F = v at *
  refine Rest.begin (S := fun w' => Below w0.heap.size w0 w') (X := [6]) (by kernel_rfl) ?_
  change Rest _ _ _ _ _ _ _ _ _ w0.drew
  refine Rest.take (i := 0) (v := .pointer (some ⟨g, 0, none⟩)) rfl (by kernel_rfl) (by kernel_rfl) (by kernel_rfl) (by kernel_rfl) (fun _ _ _ h => h) (.inl HS) (Or.inl ⟨by simp [Region.wanted], ?_⟩) ?_
  · intro w; go_simp
  refine Rest.take (i := 1) (v := .pointer (some ⟨g, 0, none⟩)) rfl (by kernel_rfl) (by kernel_rfl) (by kernel_rfl) (by kernel_rfl) (fun _ _ _ h => h) (.inl HS) (Or.inl ⟨by simp [Region.wanted], ?_⟩) ?_
  · intro w; go_simp
  refine Rest.take (i := 2) (v := .pointer (some ⟨g, 28, none⟩)) rfl (by kernel_rfl) (by kernel_rfl) (by kernel_rfl) (by kernel_rfl) (fun _ _ _ h => h) (.inl HS) (Or.inl ⟨by simp [Region.wanted], ?_⟩) ?_
  · intro w; go_simp
  refine Rest.takeS (i := 3) (v := .slice k.fa k.fl.length k.fc) rfl (by kernel_rfl) (by kernel_rfl) (by kernel_rfl) (by kernel_rfl) (fun _ _ _ h => h) HS (.inl ⟨by simp [Region.wanted], ?_⟩) ?_
  · intro w hw; have q28 := hq w hw; go_simp
  refine Rest.take (i := 4) (v := .pointer (some ⟨w.heap.size, 0, none⟩)) rfl (by kernel_rfl) (by kernel_rfl) (by kernel_rfl) (by kernel_rfl) (fun _ _ _ h => h) (.inl HS) (Or.inl ⟨by simp [Region.wanted], ?_⟩) ?_
  · intro w; go_simp
  refine Rest.takeS (i := 5) (v := .agg (frV F fa fc)) rfl (by kernel_rfl) (by kernel_rfl) (by kernel_rfl) (by kernel_rfl) (fun _ _ _ h => h) HS (yields_loadM rowF (by simp [Region.wanted]) _ rfl w.heap.size 0 (by simp [Act.eval, Act.put]) _ rfl hr) ?_
  refine Rest.one (i := 6) (by kernel_rfl) rfl (fun K hK => ?_)
  refine draw_callF 25 (by kernel_rfl) (by simp [Region.wanted]) _ _ _ rfl (by simp [Act.eval]) #[.slice k.fa k.fl.length k.fc, .agg (frV F fa fc)] (by simp [Act.eval, Act.put]) _ hP ?_
  rintro e5 w5 ⟨rfl, g5⟩
  refine ⟨_, rfl, ?_⟩
  refine hK _ _ ⟨.inr (thru_of (by kernel_rfl)), Rest.of_any _ _ _ _ (thru_of (by kernel_rfl)) ?_⟩; clear hK K
  refine wpAny_take (i := 7) (v := .bool (!v)) rfl (by kernel_rfl) (by kernel_rfl) (by kernel_rfl) (fun _ _ _ h => h) (Or.inl ⟨by simp [Region.wanted], ?_⟩) ?_
  · intro w; go_simp
  refine wpAny_take (i := 8) (v := .bool (!v)) rfl (by kernel_rfl) (by kernel_rfl) (by kernel_rfl) (fun _ _ _ h => h) (Or.inl ⟨by simp [Region.wanted], ?_⟩) ?_
  · intro w; go_simp
  refine wpAny_done (by kernel_rfl) ?_ _
  have g05 : Below w0.heap.size w0 w5 := HS.trans g5
  have h5 := h1.below g05
  have b5 := bx_below hb g05
  have n5 := bx_below hn g05
  have gg5 := bstep hg g05
  clear HS hq hr hP h1 hb hn g5 g05 hg
  simp [Act.put]
  cases v
  · go_wp2_with (with_reducible refine wpList_storeR rowN rfl _ _ rfl _ _ rfl rfl n5 rfl rfl (by kernel_rfl) ?_)
    have gF := below_setRow gg5 (show w.heap.size ≤ w.heap.size + 1 by omega) noZ
    rw [HT.out]
    exact bodyPost_ret (v := .agg (noV noN none 0)) (results_row rowN rfl _ _ _ rfl (setRow_heap _ _ _ _ _ _ n5) rfl) rfl ⟨none, 0, rfl, .inl ⟨rfl, rfl, rfl⟩, h.r gF⟩
  · have hT2 : Hid (tkD d F t = (if d.rx.length < d.keep then ({ d with rx := d.rx ++ [(F, t)] }, (2, 0, F)) else ({ d with ov := true }, (3, 0, F)))) := hid (by rw [HT.out]; rfl)
    clear HT
    have hP := dv_push h5.drew F fa fc t hlen (fun w' c => hR w' (((Ch.of_below gg5).drew).trans c fun b hb => .inl hb))
    go_upto_region 3 with (fail)
    have HS : Below w5.heap.size w5 w5.drew := (Below.refl _ _).drew
    have hq : ∀ w', Below w5.heap.size w5 w' → w'.cell? ⟨g, 29, none⟩ = some (.pointer (some ⟨k.gf, 0, none⟩)) := fun w' hw => (h5.below hw).q29
    refine Rest.begin (S := fun w' => Below w5.heap.size w5 w') (X := [5]) (by kernel_rfl) ?_
    change Rest _ _ _ _ _ _ _ _ _ w5.drew
    refine Rest.take (i := 0) (v := .pointer (some ⟨g, 0, none⟩)) rfl (by kernel_rfl) (by kernel_rfl) (by kernel_rfl) (by kernel_rfl) (fun _ _ _ h => h) (.inl HS) (Or.inl ⟨by simp [Region.wanted], ?_⟩) ?_
    · intro w; go_simp
    refine Rest.take (i := 1) (v := .pointer (some ⟨g, 0, none⟩)) rfl (by kernel_rfl) (by kernel_rfl) (by kernel_rfl) (by kernel_rfl) (fun _ _ _ h => h) (.inl HS) (Or.inl ⟨by simp [Region.wanted], ?_⟩) ?_
    · intro w; go_simp
    refine Rest.take (i := 2) (v := .pointer (some ⟨g, 29, none⟩)) rfl (by kernel_rfl) (by kernel_rfl) (by kernel_rfl) (by kernel_rfl) (fun _ _ _ h => h) (.inl HS) (Or.inl ⟨by simp [Region.wanted], ?_⟩) ?_
    · intro w; go_simp
    refine Rest.takeS (i := 3) (v := .pointer (some ⟨k.gf, 0, none⟩)) rfl (by kernel_rfl) (by kernel_rfl) (by kernel_rfl) (by kernel_rfl) (fun _ _ _ h => h) HS (.inl ⟨by simp [Region.wanted], ?_⟩) ?_
    · intro w hw; have q29 := hq w hw; go_simp
    refine Rest.takeS (i := 4) (v := .agg (rxV ((F, (fa, fc)), t))) rfl (by kernel_rfl) (by kernel_rfl) (by kernel_rfl) (by kernel_rfl) (fun _ _ _ h => h) HS (yields_loadR rowX (by simp [Region.wanted]) _ rfl w.heap.size (by simp [Act.eval, Act.put]) _ rfl (fun w' hw => ⟨_, _, bx_below b5 hw⟩)) ?_
    refine Rest.one (i := 5) (by kernel_rfl) rfl (fun K hK => ?_)
    refine draw_callF 91 (by kernel_rfl) (by simp [Region.wanted]) _ _ _ rfl (by simp [Act.eval]) #[.pointer (some ⟨k.gf, 0, none⟩), .agg (rxV ((F, (fa, fc)), t))] (by simp [Act.eval, Act.put]) _ hP ?_
    rintro e6 w6 ⟨rfl, k6, S6, o6, c6, s6, x6⟩
    refine ⟨_, rfl, ?_⟩
    refine hK _ _ ⟨.inr (thru_of (by kernel_rfl)), Rest.of_any _ _ _ _ (thru_of (by kernel_rfl)) ?_⟩; clear hK K
    have ne0 : ∀ b, S b → w.heap.size ≠ b := fun b hb => by have := hsL b hb; omega
    have ne1 : ∀ b, S b → w.heap.size + 1 ≠ b := fun b hb => by have := hsL b hb; omega
    have b6 := c6.bx (show w5.drew.heap[w.heap.size]? = _ from b5) (fun e => ne0 _ (h5.wr e) rfl)
    have n6 := c6.bx (show w5.drew.heap[w.heap.size + 1]? = _ from n5) (fun e => ne1 _ (h5.wr e) rfl)
    have cc : Ch (wrS g k) w w6 := ((Ch.of_below gg5).drew).trans c6 (fun b hb => .inl hb)
    have sz := gg5.size
    have hz6 : w5.drew.heap.size = w5.heap.size := rfl
    have hbl := bx_lt b5
    have hnl := bx_lt n5
    have ss : ∀ b, S6 b → S b ∨ w.heap.size ≤ b := fun b hb => (s6 b hb).imp id fun x => by omega
    have xx : ∀ b, wrS g k6 b → wrS g k b ∨ w.heap.size ≤ b := fun b hb => (x6 b hb).imp id fun x => by omega
    have s61 : ¬ S6 (w.heap.size + 1) := fun e => (s6 _ e).elim (fun x => ne1 _ x rfl) (fun x => by omega)
    have hr6 := rx_rng b6
    by_cases hl : d.rx.length < d.keep
    · rw [if_pos hl] at hT2
      rw [if_pos hl] at o6
      rw [if_pos hl]
      refine wpAny_take (i := 6) (v := .bool false) rfl (by kernel_rfl) (by kernel_rfl) (by kernel_rfl) (fun _ _ _ h => h) (Or.inl ⟨by simp [Region.wanted], ?_⟩) ?_
      · intro w; go_simp
      refine wpAny_take (i := 7) (v := .bool false) rfl (by kernel_rfl) (by kernel_rfl) (by kernel_rfl) (fun _ _ _ h => h) (Or.inl ⟨by simp [Region.wanted], ?_⟩) ?_
      · intro w; go_simp
      refine wpAny_done (by kernel_rfl) ?_ _
      clear HS hq hP h5 b5 n5 hl
      simp [Act.put]
      go_wp2_with (first
        | (with_reducible refine wpList_loadM rowF rfl _ rfl _ _ rfl (frV F fa fc) hr6 rfl ?_)
        | (with_reducible refine wpList_storeR rowN rfl _ _ rfl _ _ rfl rfl n6 rfl rfl (no_ones (2, 0, F) fa fc) ?_))
      have kr : Ch (fun b => b = w.heap.size + 1) w6 (w6.setRow (w.heap.size + 1) (noV (2, 0, F) fa fc)) := Ch.setRow (S := fun b => b = w.heap.size + 1) (Ch.refl _ w6) (.inl rfl) _
      rw [hT2.out]
      exact bodyPost_ret (v := .agg (noV (2, 0, F) fa fc)) (results_row rowN rfl _ _ _ rfl (setRow_heap _ _ _ _ _ _ n6) rfl) rfl ⟨fa, fc, rfl, .inr ⟨rfl, rfl, rfl⟩, _, _, o6.ch kr (fun b hb e => s61 (e ▸ hb)), cc.setRow (.inr (by omega)) _, ss, xx⟩
    · rw [if_neg hl] at hT2
      rw [if_neg hl] at o6
      rw [if_neg hl]
      refine wpAny_take (i := 6) (v := .bool true) rfl (by kernel_rfl) (by kernel_rfl) (by kernel_rfl) (fun _ _ _ h => h) (Or.inl ⟨by simp [Region.wanted], ?_⟩) ?_
      · intro w; go_simp
      refine wpAny_take (i := 7) (v := .bool true) rfl (by kernel_rfl) (by kernel_rfl) (by kernel_rfl) (fun _ _ _ h => h) (Or.inl ⟨by simp [Region.wanted], ?_⟩) ?_
      · intro w; go_simp
      refine wpAny_done (by kernel_rfl) ?_ _
      clear HS hq hP h5 b5 n5 hl
      simp [Act.put]
      go_wp2_with (first
        | (with_reducible refine wpList_loadM rowF rfl _ rfl _ _ rfl (frV F fa fc) hr6 rfl ?_)
        | (with_reducible refine wpList_storeR rowN rfl _ _ rfl _ _ rfl rfl n6 rfl rfl (no_ones (3, 0, F) fa fc) ?_))
      have kr : Ch (fun b => b = w.heap.size + 1) w6 (w6.setRow (w.heap.size + 1) (noV (3, 0, F) fa fc)) := Ch.setRow (S := fun b => b = w.heap.size + 1) (Ch.refl _ w6) (.inl rfl) _
      rw [hT2.out]
      exact bodyPost_ret (v := .agg (noV (3, 0, F) fa fc)) (results_row rowN rfl _ _ _ rfl (setRow_heap _ _ _ _ _ _ n6) rfl) rfl ⟨fa, fc, rfl, .inr ⟨rfl, rfl, rfl⟩, _, _, o6.ch kr (fun b hb e => s61 (e ▸ hb)), cc.setRow (.inr (by omega)) _, ss, xx⟩
end
end Go.Proofs.YtajdbimdiodalaaGreat

namespace Go.Proofs.YtajdbimdiodalaaGreat
open Go.RowKit Go.Sort
set_option linter.unusedVariables false

/-- What happened, in the middle of a box: the frame. -/
theorem hap_rng {w : World} {b : Nat} {h : Hp} {a : Option Addr} {c : Nat} {T : TypeId} (hb : w.heap[b]? = some (.cells (hapA h a c) T (0, 0))) : w.rangeAt b 1 (frV h.2 a c).toList := by
  intro j v hv
  rw [cell_of_row w b _ _ _ _ hb]
  match j, hv with
  | 0, hv => simpa [hapA] using hv
  | 1, hv => simpa [hapA] using hv
  | 2, hv => simpa [hapA] using hv
  | 3, hv => simpa [hapA] using hv
  | 4, hv => simpa [hapA] using hv
  | j + 5, hv => simp at hv

theorem hp_took {d : Dv} {c' : Ct} {h : Hp} (h2 : h.1 = 2) : ({ (hpD { d with c := c' } h).1 with now := d.now + 1 } : Dv) = (tkD { d with c := c', now := d.now + 1 } h.2 d.now).1 ∧ (hpD { d with c := c' } h).2 = (tkD { d with c := c', now := d.now + 1 } h.2 d.now).2 := by
  unfold hpD tkD
  rw [if_neg (by omega), if_pos h2]
  dsimp only
  split
  · split <;> exact ⟨rfl, rfl⟩
  · exact ⟨rfl, rfl⟩

section
variable {B : Nat} {w w1 w2 : World} {g j : Nat} {d : Dv} {k : Dm} {S : Nat → Prop}

/-- What a driver tells. -/
def StO (B : Nat) (w : World) (g : Nat) (k : Dm) (S : Nat → Prop) (d' : Dv) (t : No) (r : Ending) (w' : World) : Prop := ∃ a c k' S', r = .returned (.agg (noV t a c)) ∧ OL bv 5 w.heap.size w' a t.2.2.data.length c t.2.2.data ∧ (∀ q, a = some q → ¬ wrS g k' q.block) ∧ DvM B w' g d' k' S' ∧ Ch (wrS g k) w w' ∧ (∀ b, S' b → S b ∨ w.heap.size ≤ b) ∧ ∀ b, wrS g k' b → wrS g k b ∨ w.heap.size ≤ b

/-- The door: what is told lies in its box; the driver is fed. -/
theorem step_door {tmps : Array Value} {nb : Nat} {e : Dv} {k5 : Dm} {S5 : Nat → Prop} {w5 : World} {t : No} {a : Option Addr} {c : Nat} (hp : tmps.getD 4 undef = .pointer (some ⟨nb, 0, none⟩)) (hn : w5.heap[nb]? = some (.cells (noV t a c) 73 (0, 0)))
    (h5 : DvM B w5 g e k5 S5) (hJ : DvJ e) (hs : SmC j e.c) (hj : j ≤ 1000000000) (ho : OL bv 5 w.heap.size w5 a t.2.2.data.length c t.2.2.data) (hd : ∀ q, a = some q → ¬ wrS g k5 q.block) (hnb : ¬ wrS g k5 nb)
    (cc : Ch (wrS g k) w w5) (ss : ∀ b, S5 b → S b ∨ w.heap.size ≤ b) (xx : ∀ b, wrS g k5 b → wrS g k b ∨ w.heap.size ≤ b) :
    Leaves Tryz.prog Tryz.f28 tmps (StO B w g k S (feD e) t) [{ target := .fn (.func 55) #[], args := #[.pointer (some ⟨g, 0, none⟩)] }] .returning w5 := by
  refine leaves_cons (f := 55) (args := #[.pointer (some ⟨g, 0, none⟩)]) (by simp) (by simp [go_sem]) ?_
  refine (feed_any h5 hJ hs hj .returning).mono ?_
  rintro e u' w'' ⟨rfl, rfl, hR⟩
  obtain ⟨k6, S6, o6, c6, s6, x6⟩ := hR
  have hz := cc.size
  refine ⟨_, results_row rowN rfl _ _ nb hp (c6.bx hn hnb) rfl, a, c, k6, S6, rfl, ho.ch c6 hd, fun q hq hb => ?_, o6, cc.trans c6 xx, fun b hb => ?_, fun b hb => ?_⟩
  · rcases x6 _ hb with y | y
    · exact hd q hq y
    · have := (ho.ltB hq).1; omega
  · rcases s6 b hb with y | y
    · exact ss b y
    · right; omega
  · rcases x6 b hb with y | y
    · exact xx b y
    · right; omega
set_option maxRecDepth 100000 in
set_option maxHeartbeats 8000000 in
theorem dvStep_any (h : DvM B w g d k S) (hG : DvG j d) (hj : j + 1 ≤ 1000000000) (x : Bool) :
    Calls Tryz.prog 28 #[.pointer (some ⟨g, 0, none⟩), .bool x] w (StO B w g k S (stD d x).1 (stD d x).2) := by
  obtain ⟨w0, hw0, hn, h1, hg⟩ : ∃ w0, Hid (w.alloc (.cells noZ 73) = w0) ∧ w0.heap[w.heap.size]? = some (.cells noZ 73 (0, 0)) ∧ DvM B w0 g d k S ∧ Below w.heap.size w w0 := ⟨_, rfl, heap_alloc_new w _, h.alloc _, bnew0 w _⟩
  have hm := dvMade_any h1
  have hgl := h.lt
  have hsL := h.sL
  have hstep := on_step hG.I.on x
  have hok := sm_ok hG.I.on hG.sm (show j ≤ 1000000000 by omega)
  have hMI := hG.I.toDvJ.mli h.q
  have HN := hid hG.now
  have hJ := peD_J hG.I x
  have hs : SmC (j + 1) (peD d x).c := by rw [(peD_c d x).1]; exact sm_step hG.I.on hG.sm x
  have HP : Hid (peD d x = { (hpD { d with c := (stC d.c x).1 } (stC d.c x).2).1 with now := d.now + 1 }) := hid rfl
  have HE : Hid (stD d x = (feD (peD d x), (hpD { d with c := (stC d.c x).1 } (stC d.c x).2).2)) := hid rfl
  have hq30 := h1.q30
  have hf0 := h1.thaw
  have hS := fun (w1 : World) (k1 : CtR w1 d.c k.s) => step_any w1 d.c k.s x k1 hok
  have hG1 := hG.I.toDvJ
  clear hok hG
  rw [HE.out]
  generalize peD d x = e at *
  obtain ⟨⟨c', wh, F⟩, hr⟩ : ∃ r, r = stC d.c x := ⟨_, rfl⟩
  rw [← hr] at hS hstep HP
  rw [← hr]
  clear hr HE
  rw [HN.out] at hq30
  go_enter_defers Tryz.func28, Tryz.ntmps28
  go_upto_region 6 with (first
    | (rw [hw0.out])
    | (go_at_call 46; (with_reducible refine hm.mono ?_); rintro e w1 ⟨rfl, rfl⟩))
  have h2 := h1.setNow ((j : Int) + 1)
  have n2 := h2.2.bx hn (show w.heap.size ≠ g by omega)
  have c2 := (Ch.of_below (S := wrS g k) hg).trans h2.2 (fun b hb => .inl (.inl hb))
  have h2 := h2.1
  have hgz := bx_lt n2
  clear hq30 hf0 hm hw0 hn h1 hg
  generalize w0.setCell ⟨g, 30, none⟩ (.int .i64 ((j : Int) + 1)) = W at *
  have hrng := h2.rng
  have hS2 := hS W h2.ct.r
  clear hS
  go_upto_region 7 with (first
    | (with_reducible refine wpList_loadM rowC rfl _ rfl g 1 rfl (ctA d.c k.s) hrng rfl ?_)
    | (go_at_call 59; (with_reducible refine hS2.mono ?_); rintro e5 w3 ⟨s3, a3, n3, rfl, o3, d3, g3⟩
       have T := two8 w3 (c', (wh, F)) s3 a3 n3
       have tz1 := T.z1
       have th1 := T.h1)
    | (with_reducible refine wpList_storeR rowC rfl _ _ rfl _ _ rfl rfl tz1 rfl rfl (ct_ones _ _) ?_)
    | (with_reducible refine wpList_storeR rowH rfl _ _ rfl _ _ rfl rfl th1 rfl rfl (by kernel_rfl) ?_))
  have Tc := T.c2
  have Th := T.h2
  have Tb := T.b
  have h3 := h2.below (bstep g3 Tb)
  have n4 := bx_below n2 (bstep g3 Tb)
  have c4 := c2.call (bstep g3 Tb)
  have o4 := o3.below Tb
  have d4 := d3.below Tb
  have g3z := g3.size
  have cz := c2.size
  have ol : ∀ q, AtS s3 q → W.heap.size ≤ q.block ∧ q.block < w3.heap.size := fun q hq => ⟨(ctO_at o3 hq).2, (ctO_at o3 hq).1⟩
  have dl : ∀ q, a3 = some q → W.heap.size ≤ q.block ∧ q.block < w3.heap.size := fun q hq => ⟨(d3.ltB hq).2, (d3.ltB hq).1⟩
  clear T tz1 th1 hrng hS2 o3 d3 h2 n2 c2 Tb g3
  generalize ((((w3.alloc (.cells ctZ 42)).alloc (.cells hap0 127)).setRow w3.heap.size (ctA c' s3)).setRow (w3.heap.size + 1) (hapA (wh, F) a3 n3)) = W2 at *
  have hWs : ∀ b, S b → b < W.heap.size := fun b hb => by have := hsL b hb; omega
  have t3 := h3.there
  go_upto_region 8 with (first
    | (with_reducible refine wpList_loadR rowC rfl _ rfl _ rfl Tc rfl ?_)
    | (with_reducible refine wpList_setM rowC rfl _ _ rfl g 1 (ctA c' s3) rfl rfl t3 rfl (ct_ones _ _) ?_
       intro W3 hW3))
  have f4 := h3.setC o4 hWs hW3
  have h5 := f4.1
  have n5 := f4.2.1.bx n4 (show w.heap.size ≠ g by omega)
  have p5 := f4.2.1.bx Th (show w3.heap.size + 1 ≠ g by omega)
  have c5 := c4.trans f4.2.1 (fun b hb => .inl (.inl hb))
  have d5 := d4.ch f4.2.1 (fun q hq e => by have := (dl q hq).1; omega)
  have hz5 := f4.2.2
  have l2 := bx_lt Th
  clear f4 hW3 h3 n4 Th c4 o4 d4 t3 Tc
  have hk5 : ∀ b, (S b ∨ ∃ q, AtS s3 q ∧ q.block = b) → S b ∨ w.heap.size ≤ b := fun b hb => by
    rcases hb with hb | ⟨q, hq, rfl⟩
    · exact .inl hb
    · right; have := (ol q hq).1; omega
  have hwn : ∀ b, w.heap.size ≤ b → ¬ wrS g k b := fun b hb e => by have := hsL b (h.wr e); omega
  have d6 : OL bv 5 w.heap.size W3 a3 F.data.length n3 F.data := d5.mono cz
  have q0 : W3.cell? ⟨w3.heap.size + 1, 0, none⟩ = some (.int .u8 (wh : Int)) := by rw [cell_of_row _ _ 0 _ _ _ p5]; rfl
  have hr5 := hap_rng p5
  have hbw : w.heap.size ≤ w3.heap.size + 1 := by omega
  generalize w3.heap.size + 1 = hb at *
  have NB0 : ¬ wrS g { k with s := s3 } w.heap.size := hwn _ (Nat.le_refl _)
  have ND0 : ∀ q, a3 = some q → ¬ wrS g { k with s := s3 } q.block := fun q hq => hwn _ (by have := (dl q hq).1; omega)
  have XX0 : ∀ b, wrS g { k with s := s3 } b → wrS g k b ∨ w.heap.size ≤ b := fun b hb => .inl hb
  have NA0 : ∀ q, a3 = some q → ¬ q.block = w.heap.size := fun q hq e => by have := (dl q hq).1; have := (dl q hq).2; have := h.sL g h.sg; have := hgz; omega
  have hr6 : ∀ w6, Ch (wrS g { k with s := s3 }) W3 w6 → w6.rangeAt hb 1 (frV F a3 n3).toList := fun w6 cc => hap_rng (cc.bx p5 (hwn _ hbw))
  clear dl hWs p5
  have NS0 : ∀ b, (S b ∨ ∃ q, AtS s3 q ∧ q.block = b) → ¬ b = w.heap.size := fun b hb e => by
    subst e
    rcases hb with hb | ⟨q, hq, e⟩
    · have := hsL _ hb; omega
    · have := (ol q hq).1; omega
  clear ol
  by_cases h1 : wh = 1
  · subst h1
    have hT : (hpD { d with c := c' } (1, F)) = ({ d with c := c', q := seQ d.q }, (1, d.q.wire, F)) := if_pos rfl
    rw [hT] at HP
    have HT : Hid ((hpD { d with c := c' } (1, F)).2 = (1, d.q.wire, F)) := hid (by rw [hT])
    clear hT
    have hL := sent_any h5.ml hMI
    have q27 := h5.q27
    have hwz : (decide (k.m.wire ≠ 0)) = true := by
      have := (hG1.hw (hstep.sent rfl).1).1
      rw [h.q] at this
      have : 1 ≤ k.m.wire := this
      simp; omega
    go_wp2_with (first
      | (go_at_call 60; (with_reducible refine hL.mono ?_); rintro e6 w6 ⟨rfl, o6, c6⟩
         have h6 := h5.mail0 c6 o6
         have c6w : Ch (wrS g { k with s := s3 }) W3 w6 := c6.mono (fun b hb => .inr (.inl hb))
         have n6 := c6w.bx n5 NB0
         have r6 : w6.rangeAt hb 1 (frV F a3 n3).toList := hr6 w6 c6w)
      | (with_reducible refine wpList_loadM rowF rfl _ rfl _ _ rfl (frV F a3 n3) r6 rfl ?_)
      | (with_reducible refine wpList_storeR rowN rfl _ _ rfl _ _ rfl rfl n6 rfl rfl (no_ones (1, k.m.wire, F) a3 n3) ?_))
    have kr : Ch (fun b => b = w.heap.size) w6 (w6.setRow w.heap.size (noV (1, k.m.wire, F) a3 n3)) := Ch.setRow (S := fun b => b = w.heap.size) (Ch.refl _ w6) (.inl rfl) _
    have d7 : OL bv 5 w.heap.size (w6.setRow w.heap.size (noV (1, k.m.wire, F) a3 n3)) a3 F.data.length n3 F.data := (d6.ch c6w ND0).ch kr (fun q hq e => NA0 q hq e)
    have hwe : d.q.wire = k.m.wire := by rw [h.q]; rfl
    rw [HT.out, hwe]
    exact step_door (nb := w.heap.size) (t := (1, k.m.wire, F)) (a := a3) (c := n3) rfl (setRow_heap _ _ _ _ _ _ n6) ((h6.ch kr NS0).as (by rw [HP.out, h.q, ← se_map, HN.out])) hJ hs hj d7 ND0 NB0 ((c5.trans (S1 := wrS g { k with s := s3 }) c6w XX0).setRow (.inr (Nat.le_refl _)) _) hk5 XX0
  · by_cases h2 : wh = 2
    · subst h2
      have hG : Good F := (hstep.took rfl).1
      have hid2 : F.id < 4294967296 := by have := hG.id; split at this <;> omega
      have hl8 : F.data.length ≤ 1000000 := by have := (riF_long ((good_iff F _ rfl).2 hG)).2.1; omega
      obtain ⟨t1, t2⟩ : ({ (hpD { d with c := c' } (2, F)).1 with now := d.now + 1 } : Dv) = (tkD { d with c := c', now := d.now + 1 } F d.now).1 ∧ (hpD { d with c := c' } (2, F)).2 = (tkD { d with c := c', now := d.now + 1 } F d.now).2 := hp_took (d := d) (c' := c') (h := (2, F)) rfl
      rw [t1, HN.out] at HP
      have HT : Hid ((hpD { d with c := c' } (2, F)).2 = (tkD { d with c := c', now := (j : Int) + 1 } F (j : Int)).2) := hid (by rw [t2, HN.out])
      have hT := took_any h5 F a3 n3 (j : Int) hid2 hl8 (fun w' c => (d6.ch c ND0).rl)
      generalize tkD { d with c := c', now := (j : Int) + 1 } F (j : Int) = z at *
      clear t1 t2 hMI
      go_wp2_with (first
        | (with_reducible refine wpList_loadM rowF rfl _ rfl _ _ rfl (frV F a3 n3) hr5 rfl ?_)
        | (go_at_call 61; (with_reducible refine hT.mono ?_); rintro e6 w6 ⟨a6, n6', rfl, ha6, k6, S6, o6, c6, s6, x6⟩
           have n6 := c6.bx n5 NB0)
        | (with_reducible refine wpList_storeR rowN rfl _ _ rfl _ _ rfl rfl n6 rfl rfl (no_ones z.2 a6 n6') ?_))
      have kr : Ch (fun b => b = w.heap.size) w6 (w6.setRow w.heap.size (noV z.2 a6 n6')) := Ch.setRow (S := fun b => b = w.heap.size) (Ch.refl _ w6) (.inl rfl) _
      have z5 := c5.size
      have n5l := bx_lt n5
      have d7 : OL bv 5 w.heap.size (w6.setRow w.heap.size (noV z.2 a6 n6')) a6 z.2.2.2.data.length n6' z.2.2.2.data ∧ ∀ q, a6 = some q → ¬ wrS g k6 q.block := by
        rcases ha6 with ⟨e1, rfl, rfl⟩ | ⟨e1, rfl, rfl⟩
        · rw [e1]; exact ⟨OL.nil _ _ _ _, fun q hq => by cases hq⟩
        · rw [e1]
          refine ⟨(d6.ch c6 ND0).ch kr (fun q hq e => NA0 q hq e), fun q hq hb => ?_⟩
          rcases x6 _ hb with y | y
          · exact ND0 q hq y
          · have := (d6.ltB hq).1; omega
      rw [HT.out]
      exact step_door (nb := w.heap.size) (t := z.2) (a := a6) (c := n6') rfl (setRow_heap _ _ _ _ _ _ n6) ((o6.ch kr (fun b hb e => by subst e; rcases s6 _ hb with y | y; exact NS0 _ y rfl; omega)).as HP.out.symm) hJ hs hj d7.1 d7.2 (fun hb => by rcases x6 _ hb with y | y; exact NB0 y; omega) ((c5.trans c6 XX0).setRow (.inr (Nat.le_refl _)) _) (fun b hb => (s6 b hb).elim (hk5 b) (fun y => by right; omega)) (fun b hb => (x6 b hb).elim (XX0 b) (fun y => by right; omega))
    · by_cases h10 : wh = 10
      · subst h10
        have HT : Hid ((hpD { d with c := c' } (10, F)).2 = (4, 0, zeroFr)) := hid (by unfold hpD; rw [if_neg (show ¬ (10 : Nat) = 1 by decide), if_neg (show ¬ (10 : Nat) = 2 by decide), if_pos rfl])
        have HF : Hid (e = { d with c := c', now := (j : Int) + 1 }) := hid (by rw [HP.out, ← HN.out]; unfold hpD; rw [if_neg (show ¬ (10 : Nat) = 1 by decide), if_neg (show ¬ (10 : Nat) = 2 by decide), if_pos rfl])
        clear hr5 hstep
        go_wp2_with (with_reducible refine wpList_storeR rowN rfl _ _ rfl _ _ rfl rfl n5 rfl rfl (by kernel_rfl) ?_)
        have kr : Ch (fun b => b = w.heap.size) W3 (W3.setRow w.heap.size (noV (4, 0, zeroFr) none 0)) := Ch.setRow (S := fun b => b = w.heap.size) (Ch.refl _ W3) (.inl rfl) _
        rw [HT.out]
        exact step_door (nb := w.heap.size) (t := (4, 0, zeroFr)) (a := none) (c := 0) rfl (setRow_heap _ _ _ _ _ _ n5) ((h5.ch kr NS0).as HF.out.symm) hJ hs hj (OL.nil _ _ _ _) (fun q hq => by cases hq) NB0 (c5.setRow (.inr (Nat.le_refl _)) _) hk5 XX0
      · by_cases h11 : wh = 11
        · subst h11
          have HT : Hid ((hpD { d with c := c' } (11, F)).2 = (5, 0, zeroFr)) := hid (by unfold hpD; rw [if_neg (show ¬ (11 : Nat) = 1 by decide), if_neg (show ¬ (11 : Nat) = 2 by decide), if_neg (show ¬ (11 : Nat) = 10 by decide), if_pos rfl])
          have HF : Hid (e = { d with c := c', now := (j : Int) + 1 }) := hid (by rw [HP.out, ← HN.out]; unfold hpD; rw [if_neg (show ¬ (11 : Nat) = 1 by decide), if_neg (show ¬ (11 : Nat) = 2 by decide), if_neg (show ¬ (11 : Nat) = 10 by decide), if_pos rfl])
          clear hr5 hstep
          go_wp2_with (with_reducible refine wpList_storeR rowN rfl _ _ rfl _ _ rfl rfl n5 rfl rfl (by kernel_rfl) ?_)
          have kr : Ch (fun b => b = w.heap.size) W3 (W3.setRow w.heap.size (noV (5, 0, zeroFr) none 0)) := Ch.setRow (S := fun b => b = w.heap.size) (Ch.refl _ W3) (.inl rfl) _
          rw [HT.out]
          exact step_door (nb := w.heap.size) (t := (5, 0, zeroFr)) (a := none) (c := 0) rfl (setRow_heap _ _ _ _ _ _ n5) ((h5.ch kr NS0).as HF.out.symm) hJ hs hj (OL.nil _ _ _ _) (fun q hq => by cases hq) NB0 (c5.setRow (.inr (Nat.le_refl _)) _) hk5 XX0
        · have e1 : ((wh : Int) == 1) = false := by simp; omega
          have e2 : ((wh : Int) == 2) = false := by simp; omega
          have e10 : ((wh : Int) == 10) = false := by simp; omega
          have e11 : ((wh : Int) == 11) = false := by simp; omega
          have HT : Hid ((hpD { d with c := c' } (wh, F)).2 = (0, 0, zeroFr)) := hid (by unfold hpD; rw [if_neg h1, if_neg h2, if_neg h10, if_neg h11]; try rfl)
          have HF : Hid (e = { d with c := c', now := (j : Int) + 1 }) := hid (by rw [HP.out, ← HN.out]; unfold hpD; rw [if_neg h1, if_neg h2, if_neg h10, if_neg h11]; try rfl)
          clear h1 h2 h10 h11
          clear hr5 hstep
          go_wp2_with (with_reducible refine wpList_storeR rowN rfl _ _ rfl _ _ rfl rfl n5 rfl rfl (by kernel_rfl) ?_)
          have kr : Ch (fun b => b = w.heap.size) W3 (W3.setRow w.heap.size (noV (0, 0, zeroFr) none 0)) := Ch.setRow (S := fun b => b = w.heap.size) (Ch.refl _ W3) (.inl rfl) _
          rw [HT.out]
          exact step_door (nb := w.heap.size) (t := (0, 0, zeroFr)) (a := none) (c := 0) rfl (setRow_heap _ _ _ _ _ _ n5) ((h5.ch kr NS0).as HF.out.symm) hJ hs hj (OL.nil _ _ _ _) (fun q hq => by cases hq) NB0 (c5.setRow (.inr (Nat.le_refl _)) _) hk5 XX0
end
end Go.Proofs.YtajdbimdiodalaaGreat

namespace Go.Proofs.YtajdbimdiodalaaGreat
open Go.RowKit Go.Sort
set_option linter.unusedVariables false

abbrev dvZ : Array Value := #[.pointer none, .int .u8 0, .int .i64 0, .int .i64 0, .int .i64 0, .bool false, .int .i64 0, .int .i64 0, .bool false, .int .u32 0, .bool false, .bool false, .int .u8 0, .slice none 0 0, .bool false, .bool false, .slice none 0 0, .int .i64 0, .bool false, .int .u8 0, .slice none 0 0, .int .u8 0, .bool false, .bool false, .int .u8 0, .bool false, .bool false, .pointer none, .slice none 0 0, .pointer none, .int .i64 0]
/-- A driver that is none: nil, or one that New did not answer. -/
def NoD (w : World) (v : Value) : Prop := v = .pointer none ∨ ∃ g, v = .pointer (some ⟨g, 0, none⟩) ∧ w.heap[g]? = some (.cells dvZ 96 (0, 0))

section
variable {w w1 : World} {v : Value}
theorem NoD.below (h : NoD w v) (k : Below w.heap.size w w1) : NoD w1 v := by
  rcases h with h | ⟨g, h1, h2⟩
  · exact .inl h
  · exact .inr ⟨g, h1, bx_below h2 k⟩

end
end Go.Proofs.YtajdbimdiodalaaGreat

namespace Go.Proofs.YtajdbimdiodalaaGreat
open Go.RowKit Go.Sort
set_option linter.unusedVariables false

/-- A driver on a bus. -/
structure De where
  g : Nat
  d : Dv
  k : Dm
  S : Nat → Prop

abbrev pvD (g : Nat) : Value := .pointer (some ⟨g, 0, none⟩)
def gsD (l : List De) : List Nat := l.map De.g
def dsD (l : List De) : List Dv := l.map De.d
/-- The blocks that are theirs, and those that they write. -/
def busS (l : List De) (b : Nat) : Prop := ∃ x ∈ l, x.S b
def busW (l : List De) (b : Nat) : Prop := ∃ x ∈ l, wrS x.g x.k b

structure BuO (B : Nat) (w : World) (l : List De) : Prop where
  dv : ∀ x ∈ l, DvM B w x.g x.d x.k x.S
  ap : l.Pairwise (fun x y => ∀ b, x.S b → ¬ y.S b)

section
variable {B : Nat} {w w1 : World} {l : List De} {S1 : Nat → Prop}
theorem BuO.wr (h : BuO B w l) {b : Nat} (hb : busW l b) : busS l b := by
  obtain ⟨x, hx, hb⟩ := hb
  exact ⟨x, hx, (h.dv x hx).wr hb⟩
theorem BuO.ch (h : BuO B w l) (e : Ch S1 w w1) (hn : ∀ b, busS l b → ¬ S1 b) : BuO B w1 l := ⟨fun x hx => (h.dv x hx).ch e fun b hb => hn b ⟨x, hx, hb⟩, h.ap⟩
theorem BuO.below (h : BuO B w l) (e : Below w.heap.size w w1) : BuO B w1 l := ⟨fun x hx => (h.dv x hx).below e, h.ap⟩
theorem BuO.lt (h : BuO B w l) {b : Nat} (hb : busS l b) : b < w.heap.size ∧ B ≤ b := by
  obtain ⟨x, hx, hb⟩ := hb
  exact ⟨(h.dv x hx).sL b hb, (h.dv x hx).sB b hb⟩

/-- One of them has changed. -/
theorem BuO.set (h : BuO B w l) {i : Nat} {x : De} (hi : l[i]? = some x) {d' : Dv} {k' : Dm} {S' : Nat → Prop} (o : DvM B w1 x.g d' k' S') (c : Ch (wrS x.g x.k) w w1) (ss : ∀ b, S' b → x.S b ∨ w.heap.size ≤ b) (xx : ∀ b, wrS x.g k' b → wrS x.g x.k b ∨ w.heap.size ≤ b) :
    BuO B w1 (l.set i ⟨x.g, d', k', S'⟩) ∧ Ch (busW l) w w1 ∧ (∀ b, busS (l.set i ⟨x.g, d', k', S'⟩) b → busS l b ∨ w.heap.size ≤ b) ∧ (∀ b, busW (l.set i ⟨x.g, d', k', S'⟩) b → busW l b ∨ w.heap.size ≤ b) ∧ (∀ b, busW (l.set i ⟨x.g, d', k', S'⟩) b → wrS x.g k' b ∨ busW l b) := by
  obtain ⟨hlt, rfl⟩ := List.getElem?_eq_some_iff.1 hi
  have hx : l[i] ∈ l := List.getElem_mem hlt
  have hap : ∀ j y, j ≠ i → l[j]? = some y → ∀ b, l[i].S b → ¬ y.S b := by
    intro j y hj hy b hb hyb
    obtain ⟨hjl, rfl⟩ := List.getElem?_eq_some_iff.1 hy
    have hp := List.pairwise_iff_getElem.1 h.ap
    rcases Nat.lt_or_gt_of_ne hj with hj | hj
    · exact hp j i hjl hlt hj b hyb hb
    · exact hp i j hlt hjl hj b hb hyb
  have hmem : ∀ y ∈ l.set i ⟨l[i].g, d', k', S'⟩, y = ⟨l[i].g, d', k', S'⟩ ∨ ∃ j, j ≠ i ∧ l[j]? = some y := by
    intro y hy
    obtain ⟨j, hj, rfl⟩ := List.mem_iff_getElem.1 hy
    rw [List.getElem_set]
    split
    · exact .inl rfl
    · rename_i hne
      rw [List.length_set] at hj
      exact .inr ⟨j, fun e => hne e.symm, by simp [hj]⟩
  refine ⟨⟨fun y hy => ?_, ?_⟩, c.mono fun b hb => ⟨_, hx, hb⟩, fun b hb => ?_, fun b hb => ?_, fun b hb => ?_⟩
  · rcases hmem y hy with rfl | ⟨j, hj, hy⟩
    · exact o
    · exact (h.dv y (List.mem_of_getElem? hy)).ch c fun b hb hw => hap j y hj hy b ((h.dv _ hx).wr hw) hb
  · rw [List.pairwise_iff_getElem]
    intro p q hp hq hpq b
    have hp2 : p < l.length := by rw [List.length_set] at hp; exact hp
    have hq2 : q < l.length := by rw [List.length_set] at hq; exact hq
    rw [List.getElem_set, List.getElem_set]
    have old : ∀ j (hj : j < l.length), j ≠ i → ∀ b, S' b → ¬ l[j].S b := fun j hj hne b hb hb2 => by
      rcases ss b hb with y | y
      · exact hap j _ hne (by simp [hj]) b y hb2
      · have := (h.dv _ (List.getElem_mem hj)).sL b hb2; omega
    split
    · rename_i e1
      rw [if_neg (by omega)]
      exact old q hq2 (by omega) b
    · rename_i e1
      split
      · rename_i e2
        exact fun h1 h2 => old p hp2 (by omega) b h2 h1
      · exact List.pairwise_iff_getElem.1 h.ap p q hp2 hq2 hpq b
  · obtain ⟨y, hy, hb⟩ := hb
    rcases hmem y hy with rfl | ⟨j, hj, hy⟩
    · exact (ss b hb).imp (fun z => ⟨_, hx, z⟩) id
    · exact .inl ⟨y, List.mem_of_getElem? hy, hb⟩
  · obtain ⟨y, hy, hb⟩ := hb
    rcases hmem y hy with rfl | ⟨j, hj, hy⟩
    · exact (xx b hb).imp (fun z => ⟨_, hx, z⟩) id
    · exact .inl ⟨y, List.mem_of_getElem? hy, hb⟩
  · obtain ⟨y, hy, hb⟩ := hb
    rcases hmem y hy with rfl | ⟨j, hj, hy⟩
    · exact .inl hb
    · exact .inr ⟨y, List.mem_of_getElem? hy, hb⟩
theorem gs_set {l : List De} {i : Nat} {x : De} (hi : l[i]? = some x) (d' : Dv) (k' : Dm) (S' : Nat → Prop) : gsD (l.set i ⟨x.g, d', k', S'⟩) = gsD l := by
  unfold gsD
  rw [List.map_set]
  obtain ⟨hlt, rfl⟩ := List.getElem?_eq_some_iff.1 hi
  apply List.ext_getElem?
  intro j
  rw [List.getElem?_set]
  split
  · rename_i e; subst e; simp [hlt]
  · rfl
end
end Go.Proofs.YtajdbimdiodalaaGreat

namespace Go.Proofs.YtajdbimdiodalaaGreat
open Go.RowKit Go.Sort
set_option linter.unusedVariables false

/-- The drivers behind so many of a bus's steps. -/
def dnD (l : List Dv) (b : Bool) (k : Nat) : List (Dv × No) := (l.take k).map (fun d => stD d b)
theorem dn_zero (l : List Dv) (b : Bool) : dnD l b 0 = [] := by unfold dnD; rw [List.take_zero]; rfl
theorem dn_succ {l : List Dv} {b : Bool} {k : Nat} {d : Dv} (h : l[k]? = some d) : dnD l b (k + 1) = dnD l b k ++ [stD d b] := by
  unfold dnD
  rw [List.take_add_one, h, List.map_append]; rfl
theorem dn_all (l : List Dv) {k : Nat} (h : l.length ≤ k) : dnD l (buD l) k = alD l := by unfold dnD alD; rw [List.take_of_length_le h]
theorem tl_snoc (r : List (Dv × No)) (x : Dv × No) : tlD (r ++ [x]) = if x.2.1 = 1 then x.2 else tlD r := by
  unfold tlD; rw [List.foldl_append]; rfl
theorem ru_zero (l : List Dv) : ruD 0 l = (l, noN, false) := rfl
theorem ru_hit {l : List Dv} {n : Nat} (h : (tlD (alD l)).1 = 1) : ruD (n + 1) l = ((alD l).map Prod.fst, tlD (alD l), true) := by rw [ruD]; exact if_pos h
theorem ru_miss {l : List Dv} {n : Nat} (h : (tlD (alD l)).1 ≠ 1) : ruD (n + 1) l = ruD n ((alD l).map Prod.fst) := by rw [ruD]; exact if_neg h

/-- One more of them has stepped. -/
theorem dn_set {l1 l2 : List De} {b : Bool} {q : Nat} {z : De} (h : dsD l2 = (dnD (dsD l1) b q).map Prod.fst ++ (dsD l1).drop q) (hz : l2[q]? = some z) (k' : Dm) (S' : Nat → Prop) :
    (dsD l1)[q]? = some z.d ∧ dsD (l2.set q ⟨z.g, (stD z.d b).1, k', S'⟩) = (dnD (dsD l1) b (q + 1)).map Prod.fst ++ (dsD l1).drop (q + 1) := by
  have hlen : l2.length = l1.length := by
    have := congrArg List.length h
    unfold dsD dnD at this
    simp only [List.length_map, List.length_append, List.length_take, List.length_drop] at this
    omega
  have hq : q < l1.length := by have := (List.getElem?_eq_some_iff.1 hz).1; omega
  have hn : ((dnD (dsD l1) b q).map Prod.fst).length = q := by unfold dnD dsD; simp only [List.length_map, List.length_take]; omega
  have hd2 : (dsD l2)[q]? = some z.d := by unfold dsD; rw [List.getElem?_map, hz]; rfl
  have h1 : (dsD l1)[q]? = some z.d := by
    rw [h, List.getElem?_append_right (by omega), hn, Nat.sub_self, List.getElem?_drop, Nat.add_zero] at hd2
    exact hd2
  refine ⟨h1, ?_⟩
  have e1 : dsD (l2.set q ⟨z.g, (stD z.d b).1, k', S'⟩) = (dsD l2).set q (stD z.d b).1 := by unfold dsD; rw [List.map_set]
  obtain ⟨hq1, e2⟩ := List.getElem?_eq_some_iff.1 h1
  rw [e1, h, dn_succ h1, List.map_append, List.set_append_right _ _ (by omega), hn, Nat.sub_self, List.drop_eq_getElem_cons hq1, List.set_cons_zero]
  simp

/-- What run answers. -/
def RunR (B : Nat) (w : World) (l : List De) (j m : Nat) (e : Ending) (w' : World) : Prop := ∃ a' c' l' j', e = .returned (.tuple #[.agg (noV (ruD m (dsD l)).2.1 a' c'), .bool (ruD m (dsD l)).2.2]) ∧ dsD l' = (ruD m (dsD l)).1 ∧ gsD l' = gsD l ∧ BuO B w' l' ∧ Ch (busW l) w w' ∧
  (∀ b, busS l' b → busS l b ∨ w.heap.size ≤ b) ∧ (∀ b, busW l' b → busW l b ∨ w.heap.size ≤ b) ∧ (∀ x ∈ l', DvG j' x.d) ∧ j ≤ j' ∧ j' ≤ j + m ∧
  OL bv 5 w.heap.size w' a' (ruD m (dsD l)).2.1.2.2.data.length c' (ruD m (dsD l)).2.1.2.2.data ∧ ∀ q, a' = some q → ¬ busW l' q.block

set_option maxRecDepth 100000 in
set_option maxHeartbeats 4000000 in
theorem run14_any (B : Nat) (w : World) (l : List De) (a : Option Addr) (n c : Nat) (j m : Nat) (hr : RL pvD w a n c (gsD l)) (ha : ∀ q, a = some q → ¬ busW l q.block) (h : BuO B w l) (hG : ∀ x ∈ l, DvG j x.d) (hj : j + m ≤ 1000000000) (hn0 : 0 < n) (hn : n ≤ 1000000) :
    Calls Tryz.prog 23 #[.slice a n c, .int .i64 (m : Int)] w (RunR B w l j m) := by
  obtain ⟨rb, hrb⟩ : ∃ rb, rb = w.heap.size := ⟨_, rfl⟩
  obtain ⟨w0, hw0, hb, h1, hg⟩ : ∃ w0, Hid (w.alloc (.cells noZ 73) = w0) ∧ w0.heap[rb]? = some (.cells noZ 73 (0, 0)) ∧ BuO B w0 l ∧ Below w.heap.size w w0 := ⟨_, rfl, hrb ▸ heap_alloc_new w _, h.below (bnew0 w _), bnew0 w _⟩
  have hrb0 : ¬ busW l rb := fun e => by have := (h.lt (h.wr e)).1; omega
  have hrbS : ∀ b, busS l b → b ≠ rb := fun b hb e => by have := (h.lt hb).1; omega
  have hlen : l.length = n := by have := hr.len; unfold gsD at this; rw [List.length_map] at this; exact this
  have ha0 : ∀ q, a = some q → q.block < w.heap.size := fun q hq => by
    obtain ⟨b, off, e, hlt, _⟩ := hr.cell hn0
    rw [hq] at e; cases e; exact hlt
  have HN0 := hid hn0
  clear hn0
  have HRB := hid hrb
  have HL := hid hlen
  clear hlen hrb
  go_enter Tryz.func23, Tryz.ntmps23
  go_wp2_with (rw [← HRB.out, hw0.out])
  go_loopg [14] m (fun gn s14 wr => ∃ (i : Nat) (l1 : List De), i ≤ m ∧ gn = m - i ∧ s14 = .int .i64 (i : Int) ∧ Hid (ruD m (dsD l) = ruD (m - i) (dsD l1)) ∧ gsD l1 = gsD l ∧ BuO B wr l1 ∧ Ch (busW l) w0 wr ∧ (∀ b, busS l1 b → busS l b ∨ w0.heap.size ≤ b) ∧ (∀ b, busW l1 b → busW l b ∨ w0.heap.size ≤ b) ∧ (∀ x ∈ l1, DvG (j + i) x.d))
  case atStart => exact ⟨0, l, by omega, by omega, rfl, rfl, rfl, h1, Ch.refl _ _, fun b hb => .inl hb, fun b hb => .inl hb, hG⟩
  case round =>
    obtain ⟨i, l1, hi, rfl, rfl, HR, hgs, hB, hC, hS, hW, hG1⟩ := hrel
    clear hw0 h1 hG h
    have hrl : RL pvD wr a n c (gsD l1) := by rw [hgs]; exact (hr.below hg).ch hC (fun q hq => ha q hq)
    have hl1 : l1.length = n := by have := hrl.len; unfold gsD at this; rwa [List.length_map] at this
    have hlt0 := bx_lt hb
    have b1 := hC.bx hb hrb0
    have HL1 := hid hl1
    have HGS := hid hgs
    clear hl1 hgs
    by_cases hlt : i < m
    rotate_left
    · obtain rfl : i = m := by omega
      have HZ : Hid (ruD i (dsD l) = (dsD l1, noN, false)) := hid (by rw [HR.out, Nat.sub_self, ru_zero])
      clear HR hlt
      go_wp2_with (with_reducible refine wpList_storeR rowN rfl _ _ rfl _ _ rfl rfl b1 rfl rfl (by kernel_rfl) ?_)
      have hz0 := hg.size
      have hCz := hC.size
      have kr : Ch (fun b => b = rb) wr (wr.setRow rb (noV noN none 0)) := Ch.setRow (S := fun b => b = rb) (Ch.refl _ wr) (.inl rfl) _
      have hne : ∀ b, busS l1 b → ¬ b = rb := fun b hy e => by
        rcases hS b hy with y | y
        · exact hrbS b y e
        · omega
      refine bodyPost_ret (v := .tuple #[.agg (noV noN none 0), .bool false]) (results_row1 rowN rfl _ _ _ rfl rfl (setRow_heap _ _ _ _ _ _ b1) rfl) rfl ?_
      unfold RunR
      rw [HZ.out]
      exact ⟨none, 0, l1, j + i, rfl, rfl, HGS.out, hB.ch kr hne, ((Ch.of_below hg).trans hC fun b hb => .inl hb).setRow (.inr (by have := HRB.out; omega)) _, fun b hb => (hS b hb).imp id fun y => by omega, fun b hb => (hW b hb).imp id fun y => by omega, hG1, by omega, by omega, OL.nil _ _ _ _, fun q hq => by cases hq⟩
    · have hGk := fun x hx => sm_ok (hG1 x hx).I.on (hG1 x hx).sm (show j + i ≤ 1000000000 by omega)
      obtain ⟨w20, rfl⟩ : ∃ w20, w20 = wr := ⟨_, rfl⟩
      go_wp2_with (fail)
      go_loopg [6, 18] n (fun gn s6 s18 wr => ∃ k : Nat, k ≤ n ∧ gn = n - k ∧ s18 = .int .i64 (k : Int) ∧ s6 = .bool (((dsD l1).take k).all (fun d => dvC d.c)) ∧ Below w20.heap.size w20 wr)
      case atStart => exact ⟨0, by omega, by omega, rfl, by rw [List.take_zero]; rfl, Below.refl _ _⟩
      case round =>
        obtain ⟨k, hk, rfl, rfl, rfl, g2⟩ := hrel
        by_cases hkn : k < n
        · obtain ⟨b, off, x, rfl, hx, hc⟩ := (hrl.below g2).at hkn
          obtain ⟨z, hz⟩ : ∃ z, l1[k]? = some z := ⟨l1[k]'(by rw [HL1.out]; exact hkn), by simp⟩
          have hzg : z.g = x := by
            have : (gsD l1)[k]? = some z.g := by unfold gsD; rw [List.getElem?_map, hz]; rfl
            rw [this] at hx; exact Option.some.inj hx
          subst hzg
          have hzd : (dsD l1)[k]? = some z.d := by unfold dsD; rw [List.getElem?_map, hz]; rfl
          have hzm := List.mem_of_getElem? hz
          have hD := dvDrive_any ((hB.dv z hzm).below g2) (hGk z hzm)
          have HV : Hid (((dsD l1).take (k + 1)).all (fun d => dvC d.c) = (((dsD l1).take k).all (fun d => dvC d.c) && dvC z.d.c)) := hid (by rw [List.take_add_one, hzd, List.all_append]; simp)
          have HX := hid hx
          clear hx hz hzd hzm
          generalize ((dsD l1).take k).all (fun d => dvC d.c) = v at *
          generalize dvC z.d.c = v2 at *
          cases v
          · go_wp2_with fail
            go_roundg (n - (k + 1))
            case measure => omega
            case rel => exact ⟨k + 1, by omega, rfl, by go_num, by rw [HV.out]; rfl, g2⟩
          · go_wp2_with (go_at_call 29; (with_reducible refine hD.mono ?_); rintro e w3 ⟨rfl, g3⟩)
            go_roundg (n - (k + 1))
            case measure => omega
            case rel => exact ⟨k + 1, by omega, rfl, by go_num, by rw [HV.out]; rfl, bstep g2 g3⟩
        · obtain rfl : k = n := by omega
          have hbu : ((dsD l1).take k).all (fun d => dvC d.c) = buD (dsD l1) := by
            rw [List.take_of_length_le (by show (l1.map De.d).length ≤ k; rw [List.length_map, HL1.out]; exact Nat.le_refl _)]; rfl
          rw [hbu]
          clear hbu hkn hk
          obtain ⟨bb, hbb⟩ : ∃ bb, bb = buD (dsD l1) := ⟨_, rfl⟩
          rw [← hbb]
          have HBB := hid hbb
          clear hbb
          have hB2 := hB.below g2
          have hC2 := hC.call g2
          have hC3' := hC2
          have hz20 := hC2.size
          have hrl2 := hrl.below g2
          have b2 := bx_below b1 g2
          clear hB hC hrl b1 hGk
          obtain ⟨w21, rfl⟩ : ∃ w21, w21 = wr := ⟨_, rfl⟩
          obtain ⟨nb, hnb⟩ : ∃ nb, nb = w21.heap.size := ⟨_, rfl⟩
          obtain ⟨w2, hw2, n2, hB3, g3⟩ : ∃ w2, Hid (w21.alloc (.cells noZ 73) = w2) ∧ w2.heap[nb]? = some (.cells noZ 73 (0, 0)) ∧ BuO B w2 l1 ∧ Below w21.heap.size w21 w2 := ⟨_, rfl, hnb ▸ heap_alloc_new w21 _, hB2.below (bnew0 w21 _), bnew0 w21 _⟩
          have hC3 := hC2.call g3
          have hrl3 := hrl2.below g3
          have b3 := bx_below b2 g3
          have hnbl := bx_lt n2
          have hnbS : ∀ b, busS l1 b → b ≠ nb := fun b hb e => by have := (hB2.lt hb).1; omega
          have hz2 : w.heap.size ≤ w21.heap.size := by have := hg.size; have := hC2.size; omega
          have hrbn : rb ≠ nb := by have := bx_lt b2; omega
          have hrbS1 : ∀ b, busS l1 b → b ≠ rb := fun b hy e => by
            rcases hS b hy with y | y
            · exact hrbS b y e
            · omega
          have haS : ∀ q, a = some q → ¬ busW l1 q.block := fun q hq hw => by
            rcases hW _ hw with y | y
            · exact ha q hq y
            · have := ha0 q hq; have := hg.size; omega
          have hrbW1 : ¬ busW l1 rb := fun e => hrbS1 _ (hB3.wr e) rfl
          have hnbW1 : ¬ busW l1 nb := fun e => hnbS _ (hB3.wr e) rfl
          have hg0z := hg.size
          have hgz2 := g3.size
          have HNB := hid hnb
          clear hnb hB2 hC2 hrl2 b2 g2
          go_wp2_with (rw [← HNB.out, hw2.out])
          go_loopg [30] k (fun gn s30 wr => ∃ (q : Nat) (l2 : List De) (t : No) (ta : Option Addr) (tc : Nat), q ≤ k ∧ gn = k - q ∧ s30 = .int .i64 (q : Int) ∧ Hid (dsD l2 = (dnD (dsD l1) bb q).map Prod.fst ++ (dsD l1).drop q) ∧ Hid (t = tlD (dnD (dsD l1) bb q)) ∧ Hid (gsD l2 = gsD l1) ∧
            wr.heap[nb]? = some (.cells (noV t ta tc) 73 (0, 0)) ∧ OL bv 5 w.heap.size wr ta t.2.2.data.length tc t.2.2.data ∧ (∀ q, ta = some q → ¬ busW l2 q.block ∧ q.block ≠ nb ∧ q.block ≠ rb) ∧ BuO B wr l2 ∧ Ch (fun b => busW l1 b ∨ b = nb) w2 wr ∧ (∀ b, busS l2 b → busS l1 b ∨ w2.heap.size ≤ b) ∧ (∀ b, busW l2 b → busW l1 b ∨ w2.heap.size ≤ b) ∧
            (∀ p x, l2[p]? = some x → DvG (if p < q then j + i + 1 else j + i) x.d))
          case atStart => exact ⟨0, l1, noN, none, 0, by omega, by omega, rfl, by show _ = _; rw [dn_zero]; rfl, by show _ = _; rw [dn_zero]; rfl, rfl, n2, OL.nil _ _ _ _, fun q hq => (by cases hq), hB3, Ch.refl _ _, fun b hb => .inl hb, fun b hb => .inl hb, fun p x hp => by rw [if_neg (by omega)]; exact hG1 x (List.mem_of_getElem? hp)⟩
          case round =>
            obtain ⟨q, l2, t, ta, tc, hq, rfl, rfl, HD, HT, HG, n4, ot, nt, hB4, hC4, hS4, hW4, hG4⟩ := hrel
            clear n2 hB3 hw2
            have hrl4 := hrl3.ch hC4 (fun q hq e => e.elim (haS q hq) (fun e => by have := ha0 q hq; have := HNB.out; omega))
            have b4 := hC4.bx b3 (fun e => e.elim hrbW1 hrbn)
            have hl2 : l2.length = k := by
              have := congrArg List.length HG.out
              unfold gsD at this
              rw [List.length_map, List.length_map, HL1.out] at this
              exact this
            have hz4 := hC4.size
            by_cases hqk : q < k
            · obtain ⟨b, off, x, rfl, hx, hc⟩ := hrl4.at hqk
              obtain ⟨z, hz⟩ : ∃ z, l2[q]? = some z := ⟨l2[q]'(by omega), by simp⟩
              have hzg : z.g = x := by
                have e1 : (gsD l2)[q]? = some z.g := by unfold gsD; rw [List.getElem?_map, hz]; rfl
                rw [HG.out, hx] at e1; exact (Option.some.inj e1).symm
              subst hzg
              have hS5 := dvStep_any (hB4.dv z (List.mem_of_getElem? hz)) (by have := hG4 q z hz; rwa [if_neg (by omega)] at this) (show j + i + 1 ≤ 1000000000 by omega) bb
              have HZ := hid hz
              have HGQ : Hid (DvG (j + i) z.d) := hid (by have := hG4 q z hz; rwa [if_neg (by omega)] at this)
              have HX := hid hx
              have HL2 := hid hl2
              clear hx hz hl2 hrl4
              obtain ⟨d5, hd5⟩ : ∃ d5, d5 = (stD z.d bb).1 := ⟨_, rfl⟩
              obtain ⟨t5, ht5⟩ : ∃ t5, t5 = (stD z.d bb).2 := ⟨_, rfl⟩
              rw [← hd5, ← ht5] at hS5
              have HD5 := hid hd5
              have HT5 := hid ht5
              clear hd5 ht5
              go_upto_region 14 with (first
                | (go_at_call 28; (with_reducible refine hS5.mono ?_); rintro e w5 ⟨a5, c5, k5, S5, rfl, od, hd, o5, cc, ss, xx⟩
                   have z5 := heap_alloc_new w5 (.cells noZ 73))
                | (with_reducible refine wpList_storeR rowN rfl _ _ rfl _ _ rfl rfl z5 rfl rfl (no_ones _ _ _) ?_))
              have g5 : Below w5.heap.size w5 ((w5.alloc (.cells noZ 73)).setRow w5.heap.size (noV t5 a5 c5)) := below_setRow (bnew0 w5 _) (Nat.le_refl _) _
              have p5 := setRow_heap (w5.alloc (.cells noZ 73)) w5.heap.size noZ (noV t5 a5 c5) 73 (0, 0) z5
              obtain ⟨B5, C5, S5', W5', X5'⟩ := hB4.set HZ.out o5 cc ss xx
              have hzg5 := hgz2
              have hccz := cc.size
              have hdsn := dn_set HD.out HZ.out k5 S5
              rw [← HD5.out] at hdsn
              have hgs5 := gs_set HZ.out d5 k5 S5
              have hnbl4 := bx_lt n4
              have n5 := cc.bx n4 (fun e => by rcases hW4 nb ⟨z, List.mem_of_getElem? HZ.out, e⟩ with y | y; exact hnbW1 y; omega)
              have HTN : Hid (tlD (dnD (dsD l1) bb (q + 1)) = if t5.1 = 1 then t5 else t) := hid (by rw [dn_succ hdsn.1, tl_snoc, ← HT5.out, ← HT.out])
              have hGN : ∀ p x, (l2.set q ⟨z.g, d5, k5, S5⟩)[p]? = some x → DvG (if p < q + 1 then j + i + 1 else j + i) x.d := fun p x hp => by
                rw [List.getElem?_set] at hp
                split at hp
                · rename_i e
                  subst e
                  split at hp
                  · cases hp
                    rw [if_pos (by omega)]
                    rw [HD5.out]; exact stD_G HGQ.out bb
                  · cases hp
                · rename_i e
                  have := hG4 p x hp
                  by_cases hpq : p < q
                  · rw [if_pos (by omega)]; rwa [if_pos hpq] at this
                  · rw [if_neg (by omega)]; rwa [if_neg hpq] at this
              have B6 := B5.below g5
              have n6 := bx_below n5 g5
              have C6 := (hC4.trans C5 (fun b hb => (hW4 b hb).imp .inl id)).call g5
              have od6 := od.below g5
              have ot6 := (ot.ch C5 (fun q hq => (nt q hq).1)).below g5
              have odl : ∀ q, a5 = some q → wr.heap.size ≤ q.block := fun q hq => (od.ltB hq).2
              have otl : ∀ q, ta = some q → q.block < wr.heap.size := fun q hq => (ot.ltB hq).1
              have hz5 := g5.size
              have q0 : ((w5.alloc (.cells noZ 73)).setRow w5.heap.size (noV t5 a5 c5)).cell? ⟨w5.heap.size, 0, none⟩ = some (.int .u8 (t5.1 : Int)) := by rw [cell_of_row _ _ 0 _ _ _ p5]; rfl
              have S6 : ∀ b, busS (l2.set q ⟨z.g, d5, k5, S5⟩) b → busS l1 b ∨ w2.heap.size ≤ b := fun b hb => by
                rcases S5' b hb with y | y
                · exact hS4 b y
                · right; omega
              have W6 : ∀ b, busW (l2.set q ⟨z.g, d5, k5, S5⟩) b → busW l1 b ∨ w2.heap.size ≤ b := fun b hb => by
                rcases W5' b hb with y | y
                · exact hW4 b y
                · right; omega
              have N6 : ∀ b, busS (l2.set q ⟨z.g, d5, k5, S5⟩) b → ¬ b = nb := fun b hb e => by
                rcases S6 b hb with y | y
                · exact hnbS b y e
                · omega
              have hlW : ∀ b, busW l2 b → b < wr.heap.size := fun b hb => (hB4.lt (hB4.wr hb)).1
              have hrb4 := bx_lt b4
              clear z5 B5 n5 od ot hB4 C5 cc g5 hC4 n4 hS5 o5
              generalize (w5.alloc (.cells noZ 73)).setRow w5.heap.size (noV t5 a5 c5) = V at *
              by_cases e1 : t5.1 = 1
              · have i1 : ((t5.1 : Int) == 1) = true := by rw [e1]; rfl
                have HTT : Hid (t5 = tlD (dnD (dsD l1) bb (q + 1))) := hid (by rw [HTN.out, if_pos e1])
                clear e1 HTN
                go_wp2_with (first
                  | (with_reducible refine wpList_loadR rowN rfl _ rfl _ rfl p5 rfl ?_)
                  | (with_reducible refine wpList_storeR rowN rfl _ _ rfl _ _ rfl rfl n6 rfl rfl (no_ones _ _ _) ?_))
                have kr : Ch (fun b => b = nb) V (V.setRow nb (noV t5 a5 c5)) := Ch.setRow (S := fun b => b = nb) (Ch.refl _ V) (.inl rfl) _
                go_roundg (k - (q + 1))
                case measure => omega
                case rel => exact ⟨q + 1, _, t5, a5, c5, by omega, rfl, by go_num, hid hdsn.2, HTT, hid (hgs5.trans HG.out), setRow_heap _ _ _ _ _ _ n6, (od6.mono (by omega)).ch kr (fun y hy e => by have := odl y hy; omega), fun y hy => ⟨fun hb => (X5' _ hb).elim (hd y hy) (fun hb => by have := hlW _ hb; have := odl y hy; omega), by have := odl y hy; omega, by have := odl y hy; omega⟩, B6.ch kr N6, C6.setRow (.inl (.inr rfl)) _, S6, W6, hGN⟩
              · have i1 : ((t5.1 : Int) == 1) = false := by simp; omega
                have HTT : Hid (t = tlD (dnD (dsD l1) bb (q + 1))) := hid (by rw [HTN.out, if_neg e1])
                clear e1 HTN
                go_wp2_with fail
                go_roundg (k - (q + 1))
                case measure => omega
                case rel => exact ⟨q + 1, _, t, ta, tc, by omega, rfl, by go_num, hid hdsn.2, HTT, hid (hgs5.trans HG.out), n6, ot6, fun y hy => ⟨fun hb => (W5' _ hb).elim (nt y hy).1 (fun hb => by have := otl y hy; omega), (nt y hy).2⟩, B6, C6, S6, W6, hGN⟩
            · obtain rfl : q = k := by omega
              have hDE : dsD l2 = (alD (dsD l1)).map Prod.fst := by
                rw [HD.out, HBB.out, dn_all _ (by unfold dsD; rw [List.length_map, HL1.out]; exact Nat.le_refl _), List.drop_eq_nil_of_le (by unfold dsD; rw [List.length_map, HL1.out]; exact Nat.le_refl _), List.append_nil]
              have hTE : t = tlD (alD (dsD l1)) := by rw [HT.out, HBB.out, dn_all _ (by unfold dsD; rw [List.length_map, HL1.out]; exact Nat.le_refl _)]
              have hGE : ∀ x ∈ l2, DvG (j + i + 1) x.d := fun x hx => by
                obtain ⟨p, hp, rfl⟩ := List.mem_iff_getElem.1 hx
                have := hG4 p l2[p] (by simp [hp])
                rwa [if_pos (by omega)] at this
              have HDE := hid hDE
              have HTE := hid hTE
              have q0 : wr.cell? ⟨nb, 0, none⟩ = some (.int .u8 (t.1 : Int)) := by rw [cell_of_row _ _ 0 _ _ _ n4]; rfl
              have hC5 : Ch (busW l) w0 wr := hC3'.trans ((Ch.of_below (S := busW l1) g3).trans hC4 (fun b hb => hb.elim .inl (fun e => .inr (by have := HNB.out; omega)))) (fun b hb => hW b hb)
              have hS5 : ∀ b, busS l2 b → busS l b ∨ w0.heap.size ≤ b := fun b hb => by
                rcases hS4 b hb with y | y
                · exact hS b y
                · right; omega
              have hW5 : ∀ b, busW l2 b → busW l b ∨ w0.heap.size ≤ b := fun b hb => by
                rcases hW4 b hb with y | y
                · exact hW b y
                · right; omega
              have hgE := HG.out.trans HGS.out
              have HGE := hid hgE
              clear hDE hTE hG4 hqk hl2 hgE hrl4 hq
              by_cases e1 : t.1 = 1
              · have i1 : ((t.1 : Int) == 1) = true := by rw [e1]; rfl
                have HH : Hid (ruD m (dsD l) = (dsD l2, t, true)) := hid (by
                  rw [HR.out, show m - i = (m - i - 1) + 1 by omega, ru_hit (by rw [← HTE.out]; exact e1), HDE.out, HTE.out])
                clear e1
                go_wp2_with (first
                  | (with_reducible refine wpList_loadR rowN rfl _ rfl _ rfl n4 rfl ?_)
                  | (with_reducible refine wpList_storeR rowN rfl _ _ rfl _ _ rfl rfl b4 rfl rfl (no_ones _ _ _) ?_))
                have kr : Ch (fun b => b = rb) wr (wr.setRow rb (noV t ta tc)) := Ch.setRow (S := fun b => b = rb) (Ch.refl _ wr) (.inl rfl) _
                have hne : ∀ b, busS l2 b → ¬ b = rb := fun b hy e => by
                  rcases hS5 b hy with y | y
                  · exact hrbS b y e
                  · omega
                refine bodyPost_ret (v := .tuple #[.agg (noV t ta tc), .bool true]) (results_row1 rowN rfl _ _ _ rfl rfl (setRow_heap _ _ _ _ _ _ b4) rfl) rfl ?_
                unfold RunR
                rw [HH.out]
                exact ⟨ta, tc, l2, j + i + 1, rfl, rfl, HGE.out, hB4.ch kr hne, ((Ch.of_below hg).trans hC5 fun b hb => .inl hb).setRow (.inr (by have := HRB.out; omega)) _, fun b hb => (hS5 b hb).imp id fun y => by omega, fun b hb => (hW5 b hb).imp id fun y => by omega, hGE, by omega, by omega, ot.ch kr (fun y hy e => (nt y hy).2.2 e), fun y hy => (nt y hy).1⟩
              · have i1 : ((t.1 : Int) == 1) = false := by simp; omega
                have HH : Hid (ruD m (dsD l) = ruD (m - (i + 1)) (dsD l2)) := hid (by
                  rw [HR.out, show m - i = (m - (i + 1)) + 1 by omega, ru_miss (by rw [← HTE.out]; exact e1), HDE.out])
                clear e1
                go_wp2_with fail
                go_roundg (m - (i + 1))
                case measure => omega
                case rel => exact ⟨i + 1, l2, by omega, rfl, by go_num, HH, HGE.out, hB4, hC5, hS5, hW5, fun x hx => by have := hGE x hx; rwa [Nat.add_assoc] at this⟩
end Go.Proofs.YtajdbimdiodalaaGreat

namespace Go.Proofs.YtajdbimdiodalaaGreat
open Go.RowKit Go.Sort
set_option linter.unusedVariables false

theorem base14_any (w : World) (id : Nat) : Calls Tryz.prog 31 #[.int .u32 (id : Int)] w fun e w' => e = .returned (.agg (frV (baF id) none 0)) ∧ Below w.heap.size w w' := by
  have hb := heap_alloc_new w (.cells frZr 35)
  go_enter Tryz.func31, Tryz.ntmps31
  go_wp2_with (with_reducible refine wpList_storeR rowF rfl _ _ rfl _ _ rfl rfl hb rfl rfl (by kernel_rfl) ?_)
  exact bodyPost_ret (v := .agg (frV (baF id) none 0)) (results_row rowF rfl _ _ _ rfl (setRow_heap _ _ _ _ _ _ hb) rfl) rfl ⟨rfl, below_setRow (bnew0 w _) (Nat.le_refl _) _⟩

theorem base_good {id : Nat} (h : id ≤ 2047) : Good (baF id) := ⟨by show id ≤ if false = true then 536870911 else 2047; rw [if_neg (by simp)]; exact h, by show 0 ≤ 15; omega, rfl⟩
theorem pass_nil : (fun F : Fr => passF F.id F.ext []) = fun _ => true := by funext F; rfl

section
variable {B : Nat} {w w1 w2 : World} {x y : De} {l : List De}
/-- Two of them, side by side. -/
theorem BuO.two (h1 : DvM B w x.g x.d x.k x.S) (h2 : DvM B w y.g y.d y.k y.S) (hd : ∀ b, x.S b → ¬ y.S b) : BuO B w [x, y] :=
  ⟨fun z hz => by rcases List.mem_cons.1 hz with rfl | hz; exact h1; rw [List.mem_singleton] at hz; subst hz; exact h2, by simpa using hd⟩
/-- One more behind them. -/
theorem BuO.snoc (h : BuO B w l) (h2 : DvM B w y.g y.d y.k y.S) (hd : ∀ b, busS l b → ¬ y.S b) : BuO B w (l ++ [y]) :=
  ⟨fun z hz => by rcases List.mem_append.1 hz with hz | hz; exact h.dv z hz; rw [List.mem_singleton] at hz; subst hz; exact h2,
    List.pairwise_append.2 ⟨h.ap, List.pairwise_singleton _ _, fun z hz v hv b hb => by rw [List.mem_singleton] at hv; subst hv; exact hd b ⟨z, hz, hb⟩⟩⟩
theorem BuO.mono (h : BuO B w l) {C : Nat} (hC : C ≤ B) : BuO C w l := ⟨fun x hx => (h.dv x hx).mono hC, h.ap⟩
end

/-- What two answers. -/
def TwoR (w : World) (e : Ending) (w' : World) : Prop := ∃ a c l, e = .returned (.tuple #[.slice a 2 c, .bool true]) ∧ RL pvD w' a 2 c (gsD l) ∧ (∀ q, a = some q → ¬ busS l q.block) ∧ BuO w.heap.size w' l ∧ dsD l = twD ∧ (∀ x ∈ l, DvG 0 x.d) ∧ Below w.heap.size w w'

set_option maxRecDepth 100000 in
set_option maxHeartbeats 4000000 in
theorem two14_any (w : World) : Calls Tryz.prog 39 #[] w (TwoR w) := by
  have hN : ∀ w1, Calls Tryz.prog 9 #[.slice none 0 0, .int .i64 4, .int .i64 4] w1 (NewD w1 [] 4 4) := fun w1 => dvNew_any w1 none 0 0 [] ⟨rfl, Nat.le_refl _, fun h => by omega⟩ (fun x hx => by cases hx) (by omega) rfl 4 4 (by omega) (by omega) (by omega) (by omega)
  have hB5 : ∀ w1, Calls Tryz.prog 31 #[.int .u32 5] w1 fun e w' => e = .returned (.agg (frV (baF 5) none 0)) ∧ Below w1.heap.size w1 w' := fun w1 => base14_any w1 5
  have hB3 : ∀ w1, Calls Tryz.prog 31 #[.int .u32 3] w1 fun e w' => e = .returned (.agg (frV (baF 3) none 0)) ∧ Below w1.heap.size w1 w' := fun w1 => base14_any w1 3
  have hG0 := newD_G (fun F => passF F.id F.ext []) 4 4
  rw [pass_nil] at hG0
  have hG1 := snD_G hG0 (base_good (id := 5) (by omega))
  have hG2 := snD_G hG1 (base_good (id := 3) (by omega))
  have nil0 : ∀ (F : Fr) (w' : World), F.data = [] → RL bv w' none F.data.length 0 F.data := fun F w' e => by rw [e]; exact RL.nil _ _ _ _
  go_enter Tryz.func39, Tryz.ntmps39
  go_upto_region 2 with (go_at_call 9; (with_reducible refine (hN _).mono ?_); rintro e w1 ⟨g1, k1, S1, rfl, o1, b1⟩)
  go_upto_region 3 with (go_at_call 9; (with_reducible refine (hN _).mono ?_); rintro e w2 ⟨g2, k2, S2, rfl, o2, b2⟩)
  rw [pass_nil] at o1 o2
  have s1L := o1.sL
  have o1 := o1.below b2
  have hdis : ∀ b, S1 b → ¬ S2 b := fun b h1 h2 => by
    have := o2.sB b h2
    have := s1L b h1
    omega
  have o2 := o2.mono b1.size
  have b12 := bstep b1 b2
  have hS5 : ∀ w3, Below w2.heap.size w2 w3 → Calls Tryz.prog 22 #[.pointer (some ⟨g1, 0, none⟩), .agg (frV (baF 5) none 0)] w3 fun e w' => e = .returned (.tuple #[.int .i64 1, .int .i64 0]) ∧ DvR w.heap.size w3 g1 k1 S1 (snD (newD (fun _ => true) 4 4) (baF 5)) w' :=
    fun w3 g3 => dvSend_any (o1.below g3) hG0 (by omega) (baF 5) none 0 (base_good (by omega)) (by decide) (by decide) (fun w' _ => nil0 _ _ rfl)
  go_upto_region 6 with (first
    | (go_at_call 31; (with_reducible refine (hB5 _).mono ?_); rintro e w3 ⟨rfl, g3⟩; have hS5' := hS5 _ g3)
    | (go_at_call 22; (with_reducible refine hS5'.mono ?_); rintro e w4 ⟨rfl, k4, S4, o4, c4, s4, x4⟩))
  have O2 := ((o2.below g3).ch c4 (fun b hb hw => hdis b ((o1.below g3).wr hw) hb))
  have cc4 : Ch S1 w2 w4 := (Ch.of_below g3).trans c4 (fun b hb => .inl ((o1.below g3).wr hb))
  have z3 := g3.size
  have hdis4 : ∀ b, S4 b → ¬ S2 b := fun b h1 h2 => by
    rcases s4 b h1 with y | y
    · exact hdis b y h2
    · have := o2.sL b h2; omega
  have b4 := cc4.below b12 (Nat.le_refl _) (fun b hb => o1.sB b hb)
  clear hS5 hS5' hB5 o1 o2 c4 s4 x4 cc4 g3 b12 hN s1L b1 b2
  have hS3 : ∀ w3, Below w4.heap.size w4 w3 → Calls Tryz.prog 22 #[.pointer (some ⟨g1, 0, none⟩), .agg (frV (baF 3) none 0)] w3 fun e w' => e = .returned (.tuple #[.int .i64 2, .int .i64 0]) ∧ DvR w.heap.size w3 g1 k4 S4 (snD (snD (newD (fun _ => true) 4 4) (baF 5)) (baF 3)) w' :=
    fun w3 g3 => dvSend_any (o4.below g3) hG1 (by omega) (baF 3) none 0 (base_good (by omega)) (by decide) (by decide) (fun w' _ => nil0 _ _ rfl)
  go_upto_region 7 with (first
    | (go_at_call 31; (with_reducible refine (hB3 _).mono ?_); rintro e w5 ⟨rfl, g5⟩; have hS3' := hS3 _ g5)
    | (go_at_call 22; (with_reducible refine hS3'.mono ?_); rintro e w6 ⟨rfl, k6, S6, o6, c6, s6, x6⟩))
  have O3 := ((O2.below g5).ch c6 (fun b hb hw => hdis4 b ((o4.below g5).wr hw) hb))
  have cc6 : Ch S4 w4 w6 := (Ch.of_below g5).trans c6 (fun b hb => .inl ((o4.below g5).wr hb))
  have z5 := g5.size
  have hdis6 : ∀ b, S6 b → ¬ S2 b := fun b h1 h2 => by
    rcases s6 b h1 with y | y
    · exact hdis4 b y h2
    · have := O2.sL b h2; omega
  have b6 := cc6.below b4 (Nat.le_refl _) (fun b hb => o4.sB b hb)
  clear hS3 hS3' hB3 o4 O2 c6 s6 x6 cc6 g5 b4 hdis hdis4
  go_wp2
  go_ret2
  have hbus : BuO w.heap.size w6 [⟨g1, _, k6, S6⟩, ⟨g2, _, k2, S2⟩] := BuO.two o6 O3 hdis6
  have hol := ol_lit pvD 24 0 w6 [g1, g2] #[pvD g1, pvD g2] 2 rfl rfl (by omega) (Nat.zero_le _)
  refine ⟨_, _, [⟨g1, _, k6, S6⟩, ⟨g2, _, k2, S2⟩], rfl, hol.rl, fun q hq hb => ?_, hbus.below (bnew0 w6 _), rfl, fun x hx => ?_, b6.alloc (by have := b6.size; omega) _⟩
  · cases hq
    have := (hbus.lt hb).1
    exact absurd this (Nat.lt_irrefl _)
  · rcases List.mem_cons.1 hx with rfl | hx
    · exact hG2
    · rw [List.mem_singleton] at hx; subst hx; exact hG0
end Go.Proofs.YtajdbimdiodalaaGreat

namespace Go.Proofs.YtajdbimdiodalaaGreat
open Go.RowKit Go.Sort
set_option linter.unusedVariables false

theorem ex1_out : ∃ D1 D2 k1 F1 k2 F2 a b r rs, ruD 200 twD = (D1, (k1, 2, F1), true) ∧ F1.id = 3 ∧ ruD 200 D1 = (D2, (k2, 1, F2), true) ∧ D2 = [a, b] ∧ b.rx = r :: rs ∧ r.1.id = 3 := by
  have h := exD1_true
  unfold exD1 at h
  obtain ⟨⟨D1, ⟨k1, n1, F1⟩, b1⟩, hx⟩ : ∃ x, x = ruD 200 twD := ⟨_, rfl⟩
  rw [← hx] at h
  dsimp only at h
  obtain ⟨⟨D2, ⟨k2, n2, F2⟩, b2⟩, hy⟩ : ∃ y, y = ruD 200 D1 := ⟨_, rfl⟩
  rw [← hy] at h
  dsimp only at h
  simp only [Bool.and_eq_true, decide_eq_true_eq] at h
  obtain ⟨⟨⟨⟨⟨h1, h2⟩, h3⟩, h4⟩, h5⟩, h6⟩ := h
  subst h1 h2 h4 h5
  rcases D2 with _ | ⟨a, _ | ⟨b, _ | ⟨c, l⟩⟩⟩
  · cases h6
  · cases h6
  · dsimp only at h6
    cases hr : b.rx with
    | nil => rw [hr] at h6; cases h6
    | cons r rs => rw [hr] at h6; exact ⟨D1, _, k1, F1, k2, F2, a, b, r, rs, hx.symm, h3, hy.symm, rfl, hr, of_decide_eq_true h6⟩
  · cases h6

theorem ex2_out : ∃ a b t s D2 k2 F2, ruD 20 twD = ([a, b], t, s) ∧ waD a 1 = true ∧ waD (abD a 1) 2 = true ∧ waD (abD a 1) 1 = false ∧ waD (abD (abD a 1) 2) 2 = true ∧ ruD 200 [abD (abD a 1) 2, b] = (D2, (k2, 2, F2), true) := by
  have h := exD2_true
  unfold exD2 at h
  obtain ⟨⟨D1, t, s⟩, hx⟩ : ∃ x, x = ruD 20 twD := ⟨_, rfl⟩
  rw [← hx] at h
  dsimp only at h
  rcases D1 with _ | ⟨a, _ | ⟨b, _ | ⟨c, l⟩⟩⟩
  · cases h
  · cases h
  · dsimp only at h
    obtain ⟨⟨D2, ⟨k2, n2, F2⟩, b2⟩, hy⟩ : ∃ y, y = ruD 200 [abD (abD a 1) 2, b] := ⟨_, rfl⟩
    rw [← hy] at h
    dsimp only at h
    simp only [Bool.and_eq_true, decide_eq_true_eq, Bool.not_eq_true'] at h
    obtain ⟨⟨⟨⟨h1, h2⟩, h3⟩, h4⟩, h5, h6⟩ := h
    subst h5 h6
    exact ⟨a, b, t, s, D2, k2, F2, hx.symm, h1, h2, h3, h4, hy.symm⟩
  · cases h

/-- What run answers, computed. -/
def RunX (B : Nat) (w : World) (l : List De) (j m : Nat) (D' : List Dv) (t : No) (s : Bool) (e : Ending) (w' : World) : Prop := ∃ a' c' l' j', e = .returned (.tuple #[.agg (noV t a' c'), .bool s]) ∧ dsD l' = D' ∧ gsD l' = gsD l ∧ BuO B w' l' ∧ Ch (busW l) w w' ∧
  (∀ b, busS l' b → busS l b ∨ w.heap.size ≤ b) ∧ (∀ b, busW l' b → busW l b ∨ w.heap.size ≤ b) ∧ (∀ x ∈ l', DvG j' x.d) ∧ j ≤ j' ∧ j' ≤ j + m ∧
  OL bv 5 w.heap.size w' a' t.2.2.data.length c' t.2.2.data ∧ ∀ q, a' = some q → ¬ busW l' q.block
theorem run_x {B : Nat} {w : World} {l : List De} {j m : Nat} {args : Array Value} {D' : List Dv} {t : No} {s : Bool} (h : Calls Tryz.prog 23 args w (RunR B w l j m)) (hd : ruD m (dsD l) = (D', t, s)) :
    Calls Tryz.prog 23 args w (RunX B w l j m D' t s) := by
  refine h.mono fun e w' hr => ?_
  unfold RunR at hr
  rw [hd] at hr
  exact hr
theorem wa_int (d : Dv) (n : Nat) : waI d (n : Int) = waD d n := by
  unfold waI waD
  congr 1
  funext p
  by_cases e : p.2 = n
  · simp [e]
  · rw [decide_eq_false e, decide_eq_false (by omega)]
/-- A box laid behind a call: it lies in none of theirs. -/
theorem BuO.box {B : Nat} {w : World} {l : List De} (h : BuO B w l) {T : TypeId} (z cs : Array Value) : BuO B ((w.alloc (.cells z T)).setRow w.heap.size cs) l ∧ ¬ busS l w.heap.size ∧ ((w.alloc (.cells z T)).setRow w.heap.size cs).heap[w.heap.size]? = some (.cells cs T (0, 0)) ∧ Below w.heap.size w ((w.alloc (.cells z T)).setRow w.heap.size cs) := by
  have g := below_setRow (bnew0 w (.cells z T)) (Nat.le_refl _) cs
  exact ⟨h.below g, fun e => absurd (h.lt e).1 (Nat.lt_irrefl _), setRow_heap _ _ _ _ _ _ (heap_alloc_new w _), g⟩
end Go.Proofs.YtajdbimdiodalaaGreat

namespace Go.Proofs.YtajdbimdiodalaaGreat
open Go.RowKit Go.Sort
set_option linter.unusedVariables false

set_option maxRecDepth 100000 in
set_option maxHeartbeats 8000000 in
theorem awake14_any (w : World) : Calls Tryz.prog 11 #[] w fun e w' => e = .returned (.bool true) ∧ Below w.heap.size w w' := by
  obtain ⟨D1, D2, k1, F1, k2, F2, da, db, rr, rs, e1, f1, e2, rfl, e4, e5⟩ := ex1_out
  obtain ⟨ea, eb, t5, s5, D5, k5, F5, x1, x2, x3, x4, x5, x6⟩ := ex2_out
  have E1 := hid e1
  have E2 := hid e2
  have E4 := hid e4
  have E5 := hid e5
  have X1 := hid x1
  have X2 := hid x2
  have X3 := hid x3
  have X4 := hid x4
  have X5 := hid x5
  have X6 := hid x6
  have HF1 := hid f1
  clear e1 e2 e4 e5 x1 x2 x3 x4 x5 x6 f1
  go_enter Tryz.func11, Tryz.ntmps11
  go_upto_region 4 with (go_at_call 39; (with_reducible refine (two14_any _).mono ?_); rintro e w1 ⟨a1, c1, l1, rfl, r1, n1, o1, d1, g1, b1⟩)
  have hR1 : Calls Tryz.prog 23 #[.slice a1 2 c1, .int .i64 200] w1 (RunX w.heap.size w1 l1 0 200 D1 (k1, 2, F1) true) :=
    run_x (run14_any w.heap.size w1 l1 a1 2 c1 0 200 r1 (fun q hq hb => n1 q hq (o1.wr hb)) o1 g1 (by omega) (by omega) (by omega)) (by rw [d1]; exact E1.out)
  go_upto_region 5 with (first
    | (go_at_call 23; (with_reducible refine hR1.mono ?_); rintro e w2 ⟨a2, c2, l2, j2, rfl, d2, s2, o2, ch2, ss2, sw2, g2, jl2, ju2, ol2, nl2⟩
       have z2 := heap_alloc_new w2 (.cells noZ 73))
    | (with_reducible refine wpList_storeR rowN rfl _ _ rfl _ _ rfl rfl z2 rfl rfl (no_ones _ _ _) ?_))
  obtain ⟨o3, nx, bx, gx⟩ := o2.box (T := 73) noZ (noV (k1, 2, F1) a2 c2)
  have hsz1 := b1.size
  have r2 : RL pvD w2 a1 2 c1 (gsD l2) := by rw [s2]; exact r1.ch ch2 (fun q hq hb => n1 q hq (o1.wr hb))
  have a1lt : ∀ q, a1 = some q → q.block < w1.heap.size := fun q hq => by
    obtain ⟨b, off, e, hlt, _⟩ := r1.cell (by omega)
    rw [hq] at e; cases e; exact hlt
  have n2 : ∀ q, a1 = some q → ¬ busS l2 q.block := fun q hq hb => by
    rcases ss2 _ hb with y | y
    · exact n1 q hq y
    · have := a1lt q hq; omega
  have r3 := r2.below gx
  have b3 : Below w.heap.size w ((w2.alloc (.cells noZ 73)).setRow w2.heap.size (noV (k1, 2, F1) a2 c2)) := (ch2.below b1 (Nat.le_refl _) (fun b hb => (o1.lt (o1.wr hb)).2)).trans (gx.mono (by have := ch2.size; omega))
  have zx := bx_lt bx
  clear z2 hR1 r1 n1 o1 d1 g1 r2 o2 ch2 ss2 sw2 s2 ol2 nl2
  generalize (w2.alloc (.cells noZ 73)).setRow w2.heap.size (noV (k1, 2, F1) a2 c2) = V at *
  generalize w2.heap.size = xb at *
  have hR2 : Calls Tryz.prog 23 #[.slice a1 2 c1, .int .i64 200] V (RunX w.heap.size V l2 j2 200 [da, db] (k2, 1, F2) true) :=
    run_x (run14_any w.heap.size V l2 a1 2 c1 j2 200 r3 (fun q hq hb => n2 q hq (o3.wr hb)) o3 g2 (by omega) (by omega) (by omega)) (by rw [d2]; exact E2.out)
  go_upto_region 6 with (first
    | (go_at_call 23; (with_reducible refine hR2.mono ?_); rintro e w4 ⟨a4, c4, l4, j4, rfl, d4, s4, o4, ch4, ss4, sw4, g4, jl4, ju4, ol4, nl4⟩
       have z4 := heap_alloc_new w4 (.cells noZ 73))
    | (with_reducible refine wpList_storeR rowN rfl _ _ rfl _ _ rfl rfl z4 rfl rfl (no_ones _ _ _) ?_))
  obtain ⟨o5, ny, bY, gy⟩ := o4.box (T := 73) noZ (noV (k2, 1, F2) a4 c4)
  have bx5 := bx_below (ch4.bx bx (fun e => nx (o3.wr e))) gy
  have nx5 : ¬ busS l4 xb := fun e => by
    rcases ss4 _ e with y | y
    · exact nx y
    · omega
  have r5 : RL pvD _ a1 2 c1 (gsD l4) := ((by rw [s4]; exact r3.ch ch4 (fun q hq hb => n2 q hq (o3.wr hb)) : RL pvD w4 a1 2 c1 (gsD l4))).below gy
  have b5 : Below w.heap.size w ((w4.alloc (.cells noZ 73)).setRow w4.heap.size (noV (k2, 1, F2) a4 c4)) := (ch4.below b3 (Nat.le_refl _) (fun b hb => (o3.lt (o3.wr hb)).2)).trans (gy.mono (by have := ch4.size; have := b3.size; omega))
  have zy := bx_lt bY
  clear z4 hR2 r3 n2 o3 d2 g2 o4 ch4 ss4 sw4 s4 ol4 nl4 bx nx b3 gx gy a1lt
  generalize (w4.alloc (.cells noZ 73)).setRow w4.heap.size (noV (k2, 1, F2) a4 c4) = V2 at *
  generalize w4.heap.size = yb at *
  obtain ⟨p0, p1, rfl, hp0, hp1⟩ : ∃ p0 p1, l4 = [p0, p1] ∧ p0.d = da ∧ p1.d = db := by
    rcases l4 with _ | ⟨p0, _ | ⟨p1, _ | ⟨p2, l⟩⟩⟩
    · cases d4
    · cases d4
    · simp only [dsD, List.map_cons, List.map_nil, List.cons.injEq] at d4; exact ⟨p0, p1, rfl, d4.1, d4.2.1⟩
    · simp [dsD] at d4
  obtain ⟨ab, off, xg, rfl, hxg, hc1⟩ := r5.at (k := 1) (by omega)
  have hxg : xg = p1.g := by simpa [gsD] using hxg.symm
  subst hxg
  have hRd := dvRead_any (o5.dv p1 (by simp)) rr rs (by rw [hp1]; exact E4.out)
  have nxw : ¬ wrS p1.g p1.k xb := fun e => nx5 ⟨p1, by simp, (o5.dv p1 (by simp)).wr e⟩
  have nyw : ¬ wrS p1.g p1.k yb := fun e => ny ⟨p1, by simp, (o5.dv p1 (by simp)).wr e⟩
  go_upto_region 7 with (first
    | (go_at_call 26; (with_reducible refine hRd.mono ?_); rintro e w6 ⟨a6, c6, rfl, od6, k6, S6, o6, ch6, ss6, sw6⟩
       have z6 := heap_alloc_new w6 (.cells rxZ 80))
    | (with_reducible refine wpList_storeR rowX rfl _ _ rfl _ _ rfl rfl z6 rfl rfl (rx_ones _) ?_))
  have g7 : Below w6.heap.size w6 ((w6.alloc (.cells rxZ 80)).setRow w6.heap.size (rxV ((rr.1, (a6, c6)), rr.2))) := below_setRow (bnew0 w6 _) (Nat.le_refl _) _
  have bz := setRow_heap (w6.alloc (.cells rxZ 80)) w6.heap.size rxZ (rxV ((rr.1, (a6, c6)), rr.2)) 80 (0, 0) z6
  have bx7 := bx_below (ch6.bx bx5 nxw) g7
  have by7 := bx_below (ch6.bx bY nyw) g7
  have b7 : Below w.heap.size w ((w6.alloc (.cells rxZ 80)).setRow w6.heap.size (rxV ((rr.1, (a6, c6)), rr.2))) := (ch6.below b5 (Nat.le_refl _) (fun b hb => (o5.lt ⟨p1, by simp, (o5.dv p1 (by simp)).wr hb⟩).2)).trans (g7.mono (by have := ch6.size; have := b5.size; omega))
  clear z6 hRd r5 o5 bx5 bY b5 o6 ch6 ss6 sw6 od6 g7 nxw nyw nx5 ny hc1
  generalize (w6.alloc (.cells rxZ 80)).setRow w6.heap.size (rxV ((rr.1, (a6, c6)), rr.2)) = V3 at *
  generalize w6.heap.size = zb at *
  have i1 : V3.cell? ⟨xb, 1, none⟩ = some (.int .i64 2) := by rw [cell_of_row _ _ 1 _ _ _ bx7]; rfl
  have i2 : V3.cell? ⟨xb, 2, none⟩ = some (.int .u32 3) := by rw [cell_of_row _ _ 2 _ _ _ bx7]; show some (Value.int .u32 (F1.id : Int)) = _; rw [HF1.out]; rfl
  have i3 : V3.cell? ⟨yb, 1, none⟩ = some (.int .i64 1) := by rw [cell_of_row _ _ 1 _ _ _ by7]; rfl
  have i4 : V3.cell? ⟨zb, 0, none⟩ = some (.int .u32 3) := by rw [cell_of_row _ _ 0 _ _ _ bz]; show some (Value.int .u32 (rr.1.id : Int)) = _; rw [E5.out]; rfl
  clear bx7 by7 bz
  go_upto_region 12 with (go_at_call 39; (with_reducible refine (two14_any _).mono ?_); rintro e w8 ⟨a8, c8, l8, rfl, r8, n8, o8, d8, g8, b8⟩)
  have b9 : Below w.heap.size w w8 := b7.trans (b8.mono b7.size)
  have b7z := b7.size
  clear i1 i2 i3 i4 b7
  have hR8 : Calls Tryz.prog 23 #[.slice a8 2 c8, .int .i64 20] w8 (RunX V3.heap.size w8 l8 0 20 [ea, eb] t5 s5) :=
    run_x (run14_any V3.heap.size w8 l8 a8 2 c8 0 20 r8 (fun q hq hb => n8 q hq (o8.wr hb)) o8 g8 (by omega) (by omega) (by omega)) (by rw [d8]; exact X1.out)
  go_upto_region 13 with (go_at_call 23; (with_reducible refine hR8.mono ?_); rintro e w10 ⟨a10, c10, l10, j10, rfl, d10, s10, o10, ch10, ss10, sw10, g10, jl10, ju10, ol10, nl10⟩)
  have a8lt : ∀ q, a8 = some q → q.block < w8.heap.size := fun q hq => by
    obtain ⟨b, off, e, hlt, _⟩ := r8.cell (by omega)
    rw [hq] at e; cases e; exact hlt
  have r10 : RL pvD w10 a8 2 c8 (gsD l10) := by rw [s10]; exact r8.ch ch10 (fun q hq hb => n8 q hq (o8.wr hb))
  have n10 : ∀ q, a8 = some q → ¬ busS l10 q.block := fun q hq hb => by
    rcases ss10 _ hb with y | y
    · exact n8 q hq y
    · have := a8lt q hq; omega
  have b10 : Below w.heap.size w w10 := ch10.below b9 (by have := b9.size; have := b8.size; omega) (fun b hb => by have := (o8.lt (o8.wr hb)).2; omega)
  have hz810 := ch10.size
  clear hR8 r8 n8 o8 d8 g8 ch10 ss10 sw10 s10 ol10 nl10 b9
  obtain ⟨p0, p1', rfl, hp0', hp1'⟩ : ∃ p0 p1, l10 = [p0, p1] ∧ p0.d = ea ∧ p1.d = eb := by
    rcases l10 with _ | ⟨p0, _ | ⟨p1, _ | ⟨p2, l⟩⟩⟩
    · cases d10
    · cases d10
    · simp only [dsD, List.map_cons, List.map_nil, List.cons.injEq] at d10; exact ⟨p0, p1, rfl, d10.1, d10.2.1⟩
    · simp [dsD] at d10
  obtain ⟨mb, mo, xg, rfl, hxg, hc0⟩ := r10.at (k := 0) (by omega)
  have hxg : xg = p0.g := by simpa [gsD] using hxg.symm
  subst hxg
  rw [Nat.add_zero] at hc0
  have G0 := g10 p0 (by simp)
  have hA1 : Calls Tryz.prog 30 #[.pointer (some ⟨p0.g, 0, none⟩), .int .i64 1] w10 fun r w' => r = .returned (.tuple #[.bool true, .int .i64 0]) ∧ DvR V3.heap.size w10 p0.g p0.k p0.S (abD p0.d 1) w' := by
    have := dvAbort_any (o10.dv p0 (by simp)) G0 (by omega) 1 (by rw [hp0']; exact X2.out)
    rw [wa_int, hp0', X4.out] at this
    rw [hp0']; exact this
  have G1 := abD_G G0 (n := 1) (by rw [hp0']; exact X2.out)
  go_upto_region 14 with (go_at_call 30; (with_reducible refine hA1.mono ?_); rintro e w11 ⟨rfl, k11, S11, o11, ch11, ss11, sw11⟩)
  obtain ⟨q11, cq11, sq11, wq11, _⟩ := o10.set (i := 0) (x := p0) rfl o11 ch11 ss11 sw11
  rw [List.set_cons_zero] at q11 sq11 wq11
  have hz11 := ch11.size
  have r11 : RL pvD w11 (some ⟨mb, mo, none⟩) 2 c8 [p0.g, p1'.g] := r10.ch cq11 (fun q hq hb => n10 q hq (o10.wr hb))
  have n11 : ∀ q : Addr, some (⟨mb, mo, none⟩ : Addr) = some q → ¬ busS [⟨p0.g, abD p0.d 1, k11, S11⟩, p1'] q.block := fun q hq hb => by
    rcases sq11 _ hb with y | y
    · exact n10 q hq y
    · have := a8lt q hq; have := b8.size; have hzz : w8.heap.size ≤ w10.heap.size := hz810; omega
  have b11 : Below w.heap.size w w11 := cq11.below b10 (by have := b10.size; omega) (fun b hb => by have := (o10.lt (o10.wr hb)).2; have := b7z; omega)
  have hc11 : w11.cell? ⟨mb, mo, none⟩ = some (pvD p0.g) := by
    obtain ⟨b, off, x, e, hx, hc⟩ := r11.at (k := 0) (by omega)
    cases e
    rw [Nat.add_zero] at hc
    have : x = p0.g := by simpa using hx.symm
    rw [this] at hc; exact hc
  clear r10 n10 b10 hc0 hA1 o10 cq11 sq11 wq11
  have hA2 : Calls Tryz.prog 30 #[.pointer (some ⟨p0.g, 0, none⟩), .int .i64 2] w11 fun r w' => r = .returned (.tuple #[.bool false, .int .i64 0]) ∧ DvR V3.heap.size w11 p0.g k11 S11 (abD (abD p0.d 1) 2) w' := by
    have := dvAbort_any o11 G1 (by omega) 2 (by rw [hp0']; exact X3.out)
    rw [wa_int, hp0', X5.out] at this
    rw [hp0']; exact this
  have G2 := abD_G G1 (n := 2) (by rw [hp0']; exact X3.out)
  go_upto_region 15 with (go_at_call 30; (with_reducible refine hA2.mono ?_); rintro e w12 ⟨rfl, k12, S12, o12, ch12, ss12, sw12⟩)
  obtain ⟨q12, cq12, sq12, wq12, _⟩ := q11.set (i := 0) (x := ⟨p0.g, abD p0.d 1, k11, S11⟩) rfl o12 ch12 ss12 sw12
  rw [List.set_cons_zero] at q12 sq12 wq12
  have hz12 := ch12.size
  have r12 : RL pvD w12 (some ⟨mb, mo, none⟩) 2 c8 [p0.g, p1'.g] := r11.ch cq12 (fun q hq hb => n11 q hq (q11.wr hb))
  have n12 : ∀ q : Addr, some (⟨mb, mo, none⟩ : Addr) = some q → ¬ busS [⟨p0.g, abD (abD p0.d 1) 2, k12, S12⟩, p1'] q.block := fun q hq hb => by
    rcases sq12 _ hb with y | y
    · exact n11 q hq y
    · have := a8lt q hq; have hzz : w8.heap.size ≤ w10.heap.size := hz810; omega
  have b12 : Below w.heap.size w w12 := cq12.below b11 (by have := b11.size; omega) (fun b hb => by have := (q11.lt (q11.wr hb)).2; have := b7z; omega)
  clear r11 n11 b11 hc11 hA2 q11 cq12 sq12 wq12
  have hR3 : Calls Tryz.prog 23 #[.slice (some ⟨mb, mo, none⟩) 2 c8, .int .i64 200] w12 (RunX V3.heap.size w12 [⟨p0.g, abD (abD p0.d 1) 2, k12, S12⟩, p1'] j10 200 D5 (k5, 2, F5) true) :=
    run_x (run14_any V3.heap.size w12 [⟨p0.g, abD (abD p0.d 1) 2, k12, S12⟩, p1'] (some ⟨mb, mo, none⟩) 2 c8 j10 200 r12 (fun q hq hb => n12 q hq (q12.wr hb)) q12 (fun x hx => by
      rcases List.mem_cons.1 hx with rfl | hx
      · exact G2
      · rw [List.mem_singleton] at hx; subst hx; exact g10 _ (by simp)) (by omega) (by omega) (by omega)) (by show ruD 200 [abD (abD p0.d 1) 2, p1'.d] = _; rw [hp0', hp1']; exact X6.out)
  go_upto_region 16 with (first
    | (go_at_call 23; (with_reducible refine hR3.mono ?_); rintro e w13 ⟨a13, c13, l13, j13, rfl, d13, s13, o13, ch13, ss13, sw13, g13, jl13, ju13, ol13, nl13⟩
       have z13 := heap_alloc_new w13 (.cells noZ 73))
    | (with_reducible refine wpList_storeR rowN rfl _ _ rfl _ _ rfl rfl z13 rfl rfl (no_ones _ _ _) ?_))
  have bw := setRow_heap (w13.alloc (.cells noZ 73)) w13.heap.size noZ (noV (k5, 2, F5) a13 c13) 73 (0, 0) z13
  have b13 : Below w.heap.size w w13 := ch13.below b12 (by have := b12.size; omega) (fun b hb => by have := (q12.lt (q12.wr hb)).2; have := b7z; omega)
  have b14 := below_setRow (b13.alloc b13.size (.cells noZ 73)) b13.size (noV (k5, 2, F5) a13 c13)
  have i1 : ((w13.alloc (.cells noZ 73)).setRow w13.heap.size (noV (k5, 2, F5) a13 c13)).cell? ⟨w13.heap.size, 1, none⟩ = some (.int .i64 2) := by rw [cell_of_row _ _ 1 _ _ _ bw]; rfl
  clear z13 bw hR3 r12 n12 q12 o13 ch13 b12 b13
  generalize (w13.alloc (.cells noZ 73)).setRow w13.heap.size (noV (k5, 2, F5) a13 c13) = V4 at *
  generalize w13.heap.size = vb at *
  go_wp2
  go_ret
  exact ⟨rfl, b14⟩
end Go.Proofs.YtajdbimdiodalaaGreat

namespace Go.Proofs.YtajdbimdiodalaaGreat
open Go.RowKit Go.Sort
set_option linter.unusedVariables false

theorem elF14 : ElK Tryz.prog 62 35 5 (.agg frZr) 32 := ⟨by kernel_rfl, by kernel_rfl, by kernel_rfl, by kernel_rfl, rfl, by omega⟩

section
variable {B : Nat} {w w0 w1 : World} {g j : Nat} {d : Dv} {k : Dm} {S : Nat → Prop}

theorem DvM.belS (h : DvM B w g d k S) (c : Ch S w w1) (g0 : Below B w0 w) (hB : B ≤ w0.heap.size := by exact Nat.le_refl _) : Below B w0 w1 := c.below g0 hB (fun b hb => h.sB b hb)
end
end Go.Proofs.YtajdbimdiodalaaGreat
