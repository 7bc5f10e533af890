/-
  Contracts of a state's methods: a bit of a frame that the controller sends.
  Contracts of a state's methods: a bit of a frame that the controller sends, when it samples what it drove.
  Words on a controller as a value: its slices, read, or in memory of its own; a row of cells loaded and stored at once. Contracts: apart, doings, Drive.
-/
import Derived.Test.YtgpmhmdofefdcaaGreatB8k
import Derived.Test.YtgpmhmdofefdcaaGreatB1f
namespace Go.Proofs.YtgpmhmdofefdcaaGreat
open Go.RowKit Go.Sort
set_option linter.unusedVariables false

/-- What sending asks of a state. -/
structure SndOK (c : Ct) : Prop where
  pos : c.pos < c.wire.length
  len : c.wire.length ≤ 100000
  ack : c.pos + 9 = c.wire.length → c.wire[c.pos]?.getD false = true
  one : 1 ≤ c.tk.l.length

section
variable {B g : Nat} {w wr w2 : World} {c c' : Ct} {s s1 s2 : Sl}

/-- What happened, with a frame that was there. -/
theorem Mb.tells' {r : Ct × Hp} {a : Option Addr} {n : Nat} (m : Mb B w wr g r.1 s s1) (ho : OL bv 5 B wr a r.2.2.data.length n r.2.2.data) (hn : NB a w.heap.size) (hb : ∀ k, k < w.heap.size → NBs s k → NB a k) (v0 v1 v2 v3 v4 v5 : Value) :
    Told B w g s r (.returned (.agg (hapA r.2 a n))) ((((((wr.setCell ⟨w.heap.size, 0, none⟩ v0).setCell ⟨w.heap.size, 1, none⟩ v1).setCell ⟨w.heap.size, 2, none⟩ v2).setCell ⟨w.heap.size, 3, none⟩ v3).setCell ⟨w.heap.size, 4, none⟩ v4).setCell ⟨w.heap.size, 5, none⟩ v5) :=
  ⟨s1, a, n, rfl, m.fin _ _ _ _ _ _, ho.kept fun k hk => set6_other (hn _ hk) _ _ _ _ _ _, hb⟩

theorem bx_wr {q : Nat} {cs : Array Value} {T : TypeId} (h : w.heap[q]? = some (.cells cs T (0, 0))) (hw : Wr g w w2) (hq : q ≠ g) : w2.heap[q]? = some (.cells cs T (0, 0)) := by
  rw [hw.block q (bx_lt h) hq]; exact h

/-- The frame, struck. -/
theorem Mb.putG0 (h : Mb B w wr g c s s1) : Mb B w (((((wr.setCell ⟨g, 8, none⟩ (.int .u32 0)).setCell ⟨g, 9, none⟩ (.bool false)).setCell ⟨g, 10, none⟩ (.bool false)).setCell ⟨g, 11, none⟩ (.int .u8 0)).setCell ⟨g, 12, none⟩ (.slice none 0 0)) g { c with give := zeroFr } s { s1 with da := none, dc := 0 } := by
  have hg := h.lt
  refine ⟨h.st.putGv zeroFr none 0 (OL.nil _ _ _ _) (NB.nil g), hg, ?_, ((((h.wr.setCell (.inl rfl) _).setCell (.inl rfl) _).setCell (.inl rfl) _).setCell (.inl rfl) _).setCell (.inl rfl) _, ⟨NB.nil _, h.nh.w, h.nh.t⟩, fun k hk hn => ⟨NB.nil _, (h.ns k hk hn).w, (h.ns k hk hn).t⟩⟩
  have hk : ∀ (v : World) i u, (v.setCell ⟨g, i, none⟩ u).heap[w.heap.size]? = v.heap[w.heap.size]? := fun v i u => Below.heap_setCell _ _ _ _ (by show w.heap.size ≠ g; omega)
  rw [hk, hk, hk, hk, hk]; exact h.hp

/-- The wire, struck. -/
theorem Mb.putW0 (h : Mb B w wr g c s s1) : Mb B w (wr.setCell ⟨g, 15, none⟩ (.slice none 0 0)) g { c with wire := [] } s { s1 with wa := none, wc := 0 } := by
  have hg := h.lt
  refine ⟨h.st.putWi [] none 0 0 rfl (OL.nil _ _ _ _) (NB.nil g), hg, ?_, h.wr.setCell (.inl rfl) _, ⟨h.nh.d, NB.nil _, h.nh.t⟩, fun k hk hn => ⟨(h.ns k hk hn).d, NB.nil _, (h.ns k hk hn).t⟩⟩
  rw [Below.heap_setCell _ _ _ _ (by show w.heap.size ≠ g; omega)]; exact h.hp
end

section
variable (B : Nat) (w : World) (g : Nat) (c : Ct) (s : Sl) (x : Bool)

set_option maxHeartbeats 4000000 in
theorem goOn_st (r : Ct × Hp) (hr : r = ({ c with tk := (nxT c.tk x).1, pos := c.pos + 1 }, noH)) (h : StB B w g c s) (hT : TkOK c.tk) (hp : c.pos ≤ 100000) :
    Calls Tryz.prog 88 #[.pointer (some ⟨g, 0, none⟩), .bool x] w (Told B w g s r) := by
  have m0 := Mb.start h
  have hB := h.hB
  have hg := h.lt
  have hN := fun (w1 : World) (h1 : RL .bool w1 s.ta c.tk.l.length s.tc c.tk.l) => read_next w1 c.tk s.ta s.tc x h1 hT
  generalize (nxT c.tk x).1 = t' at *
  generalize (nxT c.tk x).2 = q at *
  have H1 := hid (show r.1 = { { c with tk := t' } with pos := c.pos + 1 } by rw [hr])
  have H2 := hid (show r.2 = (0, zeroFr) by rw [hr]; rfl)
  have q16 := m0.st.q16
  have q17 := m0.st.q17
  have q18 := m0.st.q18
  have q19 := m0.st.q19
  have q20 := m0.st.q20
  have q21 := m0.st.q21
  have b0 : (c.pos : Int) ≤ 100000 := by omega
  clear hr hT h
  go_enter Tryz.func88, Tryz.ntmps88
  go_wp2_with (go_at_call 84; (with_reducible refine (hN _ m0.st.ti.rl).mono ?_); rintro e w2 ⟨a2, c2, rfl, o2, g2⟩; have z0 := m0.size; have z2 := g2.size; have m2 := m0.call g2; have m3 := (m2.putTk t' a2 c2 o2 (by omega) hB).put 16 (.int .i64 ((c.pos : Int) + 1)) { { c with tk := t' } with pos := c.pos + 1 } rfl rfl rfl rfl; have f := m2.st.fz; clear q16 q17 q18 q19 q20 q21; have q16 := m2.st.q16; have q17 := m2.st.q17; have q18 := m2.st.q18; have q19 := m2.st.q19; have q20 := m2.st.q20; have q21 := m2.st.q21; obtain ⟨p0, p1, p2, p3, p4, p5⟩ := m3.hps; have fp := m3.hpf)
  exact bodyPost_ret (v := .agg (hapA (0, zeroFr) none 0)) (by simp [results, Tryz.results88, go_sem, p0, p1, p2, p3, p4, p5]; rfl) rfl (m3.six 0 H1.out H2.out _ _ _ _ _ _)

set_option maxHeartbeats 4000000 in
theorem unheard_st (r : Ct × Hp) (hr : r = if moC c.cf = 1 then flagC c 7 0 true else failC c 7) (h : StB B w g c s) (hmo : moC c.cf ≤ 1) :
    Calls Tryz.prog 95 #[.pointer (some ⟨g, 0, none⟩)] w (Told B w g s r) := by
  have m0 := Mb.start h
  have hB := h.hB
  have hg := h.lt
  have hM := mode_st B _ g c s m0.st
  by_cases h1 : moC c.cf = 1
  · rw [if_pos h1] at hr
    rw [h1] at hM
    have hF := fun (w1 : World) (k : StB B w1 g c s) => flag_st B w1 g c s 1 7 k (by omega)
    simp only [if_true, show ((1 : Nat) : Int) = 1 from rfl, show ((7 : Nat) : Int) = 7 from rfl] at hF hM
    obtain ⟨r4, hr4⟩ : ∃ r4 : Ct × Hp, r4 = ({ newC c 3 with err := true }, (7, zeroFr)) := ⟨_, rfl⟩
    have hr2 : r = ({ r4.1 with owed := true }, r4.2) := by
      rw [hr, hr4]; unfold flagC cntC
      rw [if_pos (rfl : (0 : Nat) = 0), if_neg (by omega), if_pos h1]
    rw [← hr4] at hF
    subst hr2
    clear hr h hmo h1 hr4
    go_enter Tryz.func95, Tryz.ntmps95
    go_wp2_with (first
      | (go_at_call 81; (with_reducible refine hM.mono ?_); rintro e w1 ⟨rfl, g1⟩; have m1 := m0.call g1)
      | (go_at_call 85; (with_reducible refine (hF _ m1.st).mono ?_); rintro e w4 ⟨s4, a4, n4, rfl, l4, o4, b4⟩; have m4 := m1.left l4; have z1 := m1.size; have m5 := m4.alloc (.cells #[.int .u8 (r4.2.1 : Int), .int .u32 (r4.2.2.id : Int), .bool r4.2.2.ext, .bool r4.2.2.rem, .int .u8 (r4.2.2.dlc : Int), .slice a4 r4.2.2.data.length n4] 63); have m6 := m5.put 25 (.bool true) { r4.1 with owed := true } rfl rfl rfl rfl; obtain ⟨c0, c1, c2, c3, c4, c5⟩ := bx6 (bx_wr (heap_alloc_new w4 (.cells #[.int .u8 (r4.2.1 : Int), .int .u32 (r4.2.2.id : Int), .bool r4.2.2.ext, .bool r4.2.2.rem, .int .u8 (r4.2.2.dlc : Int), .slice a4 r4.2.2.data.length n4] 63)) ((Wr.refl g _).setCell (.inl (rfl : (⟨g, 25, none⟩ : Addr).block = g)) (.bool true)) (by have := m4.st.lt; omega)); have q25 := m5.st.q25; have f := m5.st.fz; obtain ⟨p0, p1, p2, p3, p4, p5⟩ := m6.hps; have fp := m6.hpf))
    exact bodyPost_ret (v := .agg (hapA r4.2 a4 n4)) (by simp [results, Tryz.results95, go_sem, p0, p1, p2, p3, p4, p5]; rfl) rfl (m6.tells' (r := ({ r4.1 with owed := true }, r4.2)) ((o4.alloc (.cells #[.int .u8 (r4.2.1 : Int), .int .u32 (r4.2.2.id : Int), .bool r4.2.2.ext, .bool r4.2.2.rem, .int .u8 (r4.2.2.dlc : Int), .slice a4 r4.2.2.data.length n4] 63)).wr ((Wr.refl g _).setCell (.inl rfl) _) (b4 g (by have := m1.st.lt; omega) m1.st.nb)) (b4 _ (by omega) m1.nh) (fun k hk hs => b4 k (by omega) (m1.ns k hk hs)) _ _ _ _ _ _)
  · rw [if_neg h1] at hr
    have h0 : moC c.cf = 0 := by omega
    rw [h0] at hM
    have hF := fun (w1 : World) (k : StB B w1 g c s) => fail_st B w1 g c s 7 r hr k hmo
    simp only [show ((0 : Nat) : Int) = 0 from rfl, show ((7 : Nat) : Int) = 7 from rfl] at hF hM
    clear hr h hmo h1 h0
    go_enter Tryz.func95, Tryz.ntmps95
    go_wp2_with (first
      | (go_at_call 81; (with_reducible refine hM.mono ?_); rintro e w1 ⟨rfl, g1⟩; have m1 := m0.call g1)
      | (go_at_call 72; (with_reducible refine (hF _ m1.st).mono ?_); rintro e w4 ⟨s4, a4, n4, rfl, l4, o4, b4⟩; have m4 := m1.left l4; obtain ⟨p0, p1, p2, p3, p4, p5⟩ := m4.hps; have fp := m4.hpf))
    exact bodyPost_ret (v := .agg (hapA r.2 a4 n4)) (by simp [results, Tryz.results95, go_sem, p0, p1, p2, p3, p4, p5]; rfl) rfl (m1.told l4 o4 b4 _ _ _ _ _ _)
end
end Go.Proofs.YtgpmhmdofefdcaaGreat

namespace Go.Proofs.YtgpmhmdofefdcaaGreat
open Go.RowKit Go.Sort
set_option linter.unusedVariables false

section
variable (B : Nat) (w : World) (g : Nat) (c : Ct) (s : Sl) (x : Bool)

set_option maxHeartbeats 4000000 in
theorem asDriven_ack (r : Ct × Hp) (hr : r = if moC c.cf = 1 then flagC c 7 0 true else failC c 7) (h : StB B w g c s) (hS : SndOK c) (hmo : moC c.cf ≤ 1) (ha : c.pos + 9 = c.wire.length) :
    Calls Tryz.prog 86 #[.pointer (some ⟨g, 0, none⟩), .bool x] w (Told B w g s r) := by
  have m0 := Mb.start h
  have hK := fun (w1 : World) (k : StB B w1 g c s) => atAck_st B w1 g c s k hS.len (by have := hS.pos; have := hS.len; omega)
  rw [decide_eq_true ha] at hK
  have hU := fun (w1 : World) (k : StB B w1 g c s) => unheard_st B w1 g c s r hr k hmo
  clear hr h hS hmo ha
  go_enter Tryz.func86, Tryz.ntmps86
  go_wp2_with (first
    | (go_at_call 87; (with_reducible refine (hK _ m0.st).mono ?_); rintro e w1 ⟨rfl, g1⟩; have m1 := m0.call g1)
    | (go_at_call 95; (with_reducible refine (hU _ m1.st).mono ?_); rintro e w4 ⟨s4, a4, n4, rfl, l4, o4, b4⟩; have m4 := m1.left l4; obtain ⟨p0, p1, p2, p3, p4, p5⟩ := m4.hps; have fp := m4.hpf))
  exact bodyPost_ret (v := .agg (hapA r.2 a4 n4)) (by simp [results, Tryz.results86, go_sem, p0, p1, p2, p3, p4, p5]; rfl) rfl (m1.told l4 o4 b4 _ _ _ _ _ _)

set_option maxHeartbeats 4000000 in
theorem asDriven_on (r : Ct × Hp) (hr : r = ({ c with tk := (nxT c.tk x).1, pos := c.pos + 1 }, noH)) (h : StB B w g c s) (hS : SndOK c) (hT : TkOK c.tk) (ha : ¬ c.pos + 9 = c.wire.length) (hl : c.pos + 1 < c.wire.length) :
    Calls Tryz.prog 86 #[.pointer (some ⟨g, 0, none⟩), .bool x] w (Told B w g s r) := by
  have m0 := Mb.start h
  have hK := fun (w1 : World) (k : StB B w1 g c s) => atAck_st B w1 g c s k hS.len (by have := hS.pos; have := hS.len; omega)
  rw [decide_eq_false ha] at hK
  have hU := fun (w1 : World) (k : StB B w1 g c s) => goOn_st B w1 g c s x r hr k hT (by have := hS.pos; have := hS.len; omega)
  have b1 : (c.pos : Int) < (c.wire.length : Int) - 1 := by omega
  have b2 : (c.wire.length : Int) ≤ 100000 := by have := hS.len; omega
  have b3 : (0 : Int) ≤ (c.wire.length : Int) := by omega
  clear hr h hS hT ha hl
  go_enter Tryz.func86, Tryz.ntmps86
  go_wp2_with (go_at_call 87; (with_reducible refine (hK _ m0.st).mono ?_); rintro e w1 ⟨rfl, g1⟩; have m1 := m0.call g1; have q15 := m1.st.q15; have q16 := m1.st.q16)
  go_quiet (fail)
  have m2 := m1.call (below_drewN (Below.refl _ _) nq)
  clear q15 q16
  generalize w1.drewN nq = wd at *
  go_wp2_with (go_at_call 88; (with_reducible refine (hU _ m2.st).mono ?_); rintro e w4 ⟨s4, a4, n4, rfl, l4, o4, b4⟩; have m4 := m2.left l4; obtain ⟨p0, p1, p2, p3, p4, p5⟩ := m4.hps; have fp := m4.hpf)
  exact bodyPost_ret (v := .agg (hapA r.2 a4 n4)) (by simp [results, Tryz.results86, go_sem, p0, p1, p2, p3, p4, p5]; rfl) rfl (m2.told l4 o4 b4 _ _ _ _ _ _)

set_option maxHeartbeats 4000000 in
theorem asDriven_sent (r : Ct × Hp) (hr : r = (newC { c with cf := evC c.cf 8, has := false, give := zeroFr } 7, (1, c.give))) (h : StB B w g c s) (hS : SndOK c) (ha : ¬ c.pos + 9 = c.wire.length) (hl : ¬ c.pos + 1 < c.wire.length) :
    Calls Tryz.prog 86 #[.pointer (some ⟨g, 0, none⟩), .bool x] w (Told B w g s r) := by
  have m0 := Mb.start h
  have hK := fun (w1 : World) (k : StB B w1 g c s) => atAck_st B w1 g c s k hS.len (by have := hS.pos; have := hS.len; omega)
  rw [decide_eq_false ha] at hK
  have b1 : ¬ (c.pos : Int) < (c.wire.length : Int) - 1 := by omega
  have b2 : (c.wire.length : Int) ≤ 100000 := by have := hS.len; omega
  have b3 : (0 : Int) ≤ (c.wire.length : Int) := by omega
  obtain ⟨d, hd⟩ : ∃ d, d = ({ { { c with has := false } with give := zeroFr } with cf := evC c.cf 8 } : Ct) := ⟨_, rfl⟩
  have hC : ∀ (w1 : World) (s1 : Sl), StB B w1 g { { c with has := false } with give := zeroFr } s1 → Calls Tryz.prog 79 #[.pointer (some ⟨g, 0, none⟩), .int .u8 8] w1 fun e w' => e = .returned (.tuple #[]) ∧ Left B w1 w' g d s1 s1 := fun w1 s1 k => by
    rw [hd]; exact count_st B w1 g { { c with has := false } with give := zeroFr } s1 8 (by omega) k
  have hE : ∀ (w1 : World) (s1 : Sl), StB B w1 g d s1 → Calls Tryz.prog 78 #[.pointer (some ⟨g, 0, none⟩), .int .u8 7] w1 fun e w' => e = .returned (.tuple #[]) ∧ Left B w1 w' g r.1 s1 s1.new := fun w1 s1 k => by
    have hh : r.1 = newC d 7 := by rw [hr, hd]
    rw [hh]; exact enter_any B w1 g d s1 7 k
  have H21 := hid (show r.2.1 = 1 by rw [hr])
  have H22 := hid (show r.2.2 = c.give by rw [hr])
  clear hr h hS ha hl hd
  go_enter Tryz.func86, Tryz.ntmps86
  go_wp2_with (go_at_call 87; (with_reducible refine (hK _ m0.st).mono ?_); rintro e w1 ⟨rfl, g1⟩; have m1 := m0.call g1; have q15 := m1.st.q15; have q16 := m1.st.q16)
  go_quiet (fail)
  have m2 := m1.call (below_drewN (Below.refl _ _) nq)
  clear q15 q16
  generalize w1.drewN nq = wd at *
  have q8 := m2.st.q8
  have q9 := m2.st.q9
  have q10 := m2.st.q10
  have q11 := m2.st.q11
  have q12 := m2.st.q12
  have m3 := m2.alloc (.cells #[.int .u8 1, .int .u32 (c.give.id : Int), .bool c.give.ext, .bool c.give.rem, .int .u8 (c.give.dlc : Int), .slice s.da c.give.data.length s.dc] 63)
  have f := m3.st.fz
  have r7 := m3.st.q7
  have r8 := m3.st.q8
  have r9 := m3.st.q9
  have r10 := m3.st.q10
  have r11 := m3.st.q11
  have r12 := m3.st.q12
  have hne : wd.heap.size ≠ g := by have := m2.st.lt; omega
  go_wp2_with (first
    | (go_at_call 79; have m4 := (m3.put 7 (.bool false) { c with has := false } rfl rfl rfl rfl).putG0; have w4 : Wr g (wd.alloc (.cells #[.int .u8 1, .int .u32 (c.give.id : Int), .bool c.give.ext, .bool c.give.rem, .int .u8 (c.give.dlc : Int), .slice s.da c.give.data.length s.dc] 63)) _ := ((((((Wr.refl g _).setCell (.inl (rfl : (⟨g, 7, none⟩ : Addr).block = g)) (.bool false)).setCell (.inl (rfl : (⟨g, 8, none⟩ : Addr).block = g)) (.int .u32 0)).setCell (.inl (rfl : (⟨g, 9, none⟩ : Addr).block = g)) (.bool false)).setCell (.inl (rfl : (⟨g, 10, none⟩ : Addr).block = g)) (.bool false)).setCell (.inl (rfl : (⟨g, 11, none⟩ : Addr).block = g)) (.int .u8 0)).setCell (.inl (rfl : (⟨g, 12, none⟩ : Addr).block = g)) (.slice none 0 0); have hx4 := bx_wr (heap_alloc_new wd (.cells #[.int .u8 1, .int .u32 (c.give.id : Int), .bool c.give.ext, .bool c.give.rem, .int .u8 (c.give.dlc : Int), .slice s.da c.give.data.length s.dc] 63)) w4 hne; have o4 := (m3.st.da).wr w4 m3.st.nb.d; (with_reducible refine (hC _ _ m4.st).mono ?_); rintro e w5 ⟨rfl, l5⟩; have m5 := m4.left l5; have hx5 := bx_wr hx4 l5.wr hne; have o5 := o4.wr l5.wr m3.st.nb.d; clear q8 q9 q10 q11 q12 r7 r8 r9 r10 r11 r12 f)
    | (go_at_call 78; (with_reducible refine (hE _ _ m5.st).mono ?_); rintro e w6 ⟨rfl, l6⟩; have m6 := m5.left l6; have hx6 := bx_wr hx5 l6.wr hne; have o6 := o5.wr l6.wr m3.st.nb.d; obtain ⟨c0, c1, c2, c3, c4, c5⟩ := bx6 hx6; obtain ⟨p0, p1, p2, p3, p4, p5⟩ := m6.hps; have fp := m6.hpf))
  exact bodyPost_ret (v := .agg #[.int .u8 1, .int .u32 (c.give.id : Int), .bool c.give.ext, .bool c.give.rem, .int .u8 (c.give.dlc : Int), .slice s.da c.give.data.length s.dc]) (by simp [results, Tryz.results86, go_sem, p0, p1, p2, p3, p4, p5]) rfl (by
    rw [← H22.out] at o6
    have := m6.tells' (r := r) o6 m2.nh.d (fun k hk hs => hs.d) (.int .u8 1) (.int .u32 (c.give.id : Int)) (.bool c.give.ext) (.bool c.give.rem) (.int .u8 (c.give.dlc : Int)) (.slice s.da c.give.data.length s.dc)
    unfold hapA at this; rw [H21.out, H22.out] at this; exact this)
end
end Go.Proofs.YtgpmhmdofefdcaaGreat

namespace Go.Proofs.YtgpmhmdofefdcaaGreat
open Go.RowKit Go.Sort
set_option linter.unusedVariables false

theorem rowC : RowT Tryz.prog 54 26 := rowT_of (by kernel_rfl) (by kernel_rfl)
theorem rowS : RowT Tryz.prog 92 26 := rowT_of (by kernel_rfl) (by kernel_rfl)
theorem rowH : RowT Tryz.prog 63 6 := rowT_of (by kernel_rfl) (by kernel_rfl)

/-- The slices of a controller, read. -/
structure CtR (w : World) (c : Ct) (s : Sl) : Prop where
  da : RL bv w s.da c.give.data.length s.dc c.give.data
  wi : RL .bool w s.wa c.wire.length s.wc c.wire
  ti : RL .bool w s.ta c.tk.l.length s.tc c.tk.l

/-- .. in memory of its own, from B on. -/
structure CtO (B : Nat) (w : World) (c : Ct) (s : Sl) : Prop where
  da : OL bv 5 B w s.da c.give.data.length s.dc c.give.data
  wi : OL .bool 4 B w s.wa c.wire.length s.wc c.wire
  ti : OL .bool 4 B w s.ta c.tk.l.length s.tc c.tk.l

/-- No slices. -/
def sl0 : Sl := ⟨none, 0, none, 0, none, 0⟩

section
variable {B g : Nat} {w w1 w2 : World} {c : Ct} {s : Sl}
theorem CtR.below (h : CtR w c s) (k : Below w.heap.size w w1) : CtR w1 c s := ⟨h.da.below k, h.wi.below k, h.ti.below k⟩
theorem CtO.r (h : CtO B w c s) : CtR w c s := ⟨h.da.rl, h.wi.rl, h.ti.rl⟩
theorem CtO.mono {B' : Nat} (h : CtO B w c s) (hB : B' ≤ B) : CtO B' w c s := ⟨h.da.mono hB, h.wi.mono hB, h.ti.mono hB⟩
theorem CtO.below (h : CtO B w c s) (k : Below w.heap.size w w1) : CtO B w1 c s := ⟨h.da.below k, h.wi.below k, h.ti.below k⟩
theorem CtO.alloc (h : CtO B w c s) (o : Obj) : CtO B (w.alloc o) c s := ⟨h.da.alloc o, h.wi.alloc o, h.ti.alloc o⟩
theorem CtO.nbs (h : CtO B w c s) {k : Nat} (hk : k < B) : NBs s k := ⟨ol_nb h.da hk, ol_nb h.wi hk, ol_nb h.ti hk⟩
/-- Where only blocks were written in which none of the slices lies. -/
theorem CtO.kept (h : CtO B w c s) (hk : ∀ k, NBs s k ∨ w1.heap[k]? = w.heap[k]?) : CtO B w1 c s :=
  ⟨h.da.kept fun q hq => (hk q).resolve_left fun n => n.d _ hq rfl, h.wi.kept fun q hq => (hk q).resolve_left fun n => n.w _ hq rfl, h.ti.kept fun q hq => (hk q).resolve_left fun n => n.t _ hq rfl⟩
theorem CtO.setRow (h : CtO B w c s) {p : Nat} (hn : NBs s p) (cs : Array Value) : CtO B (w.setRow p cs) c s :=
  h.kept fun k => by
    by_cases e : k = p
    · subst e; exact .inl hn
    · exact .inr (setRow_other _ _ _ _ e)
theorem CtO.setCell (h : CtO B w c s) {p i : Nat} (hn : NBs s p) (v : Value) : CtO B (w.setCell ⟨p, i, none⟩ v) c s :=
  h.kept fun k => by
    by_cases e : k = p
    · subst e; exact .inl hn
    · exact .inr (Below.heap_setCell _ _ _ _ e)
theorem CtO.zero (B : Nat) (w : World) : CtO B w c0 sl0 := ⟨OL.nil _ _ _ _, OL.nil _ _ _ _, OL.nil _ _ _ _⟩
theorem nbs0 (k : Nat) : NBs sl0 k := ⟨NB.nil k, NB.nil k, NB.nil k⟩
theorem StB.o (h : StB B w g c s) : CtO B w c s := ⟨h.da, h.wi, h.ti⟩
end

theorem ct_ones (c : Ct) (s : Sl) : (ctA c s).all (·.oneCell') = true := by kernel_rfl
theorem hap_ones (h : Hp) (a : Option Addr) (n : Nat) : (hapA h a n).all (·.oneCell') = true := by kernel_rfl

/-- What a box of a controller's cells holds. -/
theorem bxC {w : World} {g : Nat} {T : TypeId} {c : Ct} {s : Sl} (h : w.heap[g]? = some (.cells (ctA c s) T (0, 0))) (i : Nat) : w.cell? ⟨g, i, none⟩ = (ctA c s)[i]? := cell_of_row w g i _ _ _ h

/-- The five cells of a frame in the middle of a controller's box, stored. -/
theorem gv5_same {w1 : World} {g : Nat} {T : TypeId} {c : Ct} {s : Sl} (h : w1.heap[g]? = some (.cells (ctA c s) T (0, 0))) (v0 v1 v2 v3 v4 : Value) :
    (((((w1.setCell ⟨g, 8, none⟩ v0).setCell ⟨g, 9, none⟩ v1).setCell ⟨g, 10, none⟩ v2).setCell ⟨g, 11, none⟩ v3).setCell ⟨g, 12, none⟩ v4).heap[g]? = some (.cells ((((((ctA c s).setIfInBounds 8 v0).setIfInBounds 9 v1).setIfInBounds 10 v2).setIfInBounds 11 v3).setIfInBounds 12 v4) T (0, 0)) :=
  heap_setCell_same _ g 12 _ _ _ (heap_setCell_same _ g 11 _ _ _ (heap_setCell_same _ g 10 _ _ _ (heap_setCell_same _ g 9 _ _ _ (heap_setCell_same _ g 8 _ _ _ h))))
theorem gv5_other {w1 : World} {g k : Nat} (h : k ≠ g) (v0 v1 v2 v3 v4 : Value) :
    (((((w1.setCell ⟨g, 8, none⟩ v0).setCell ⟨g, 9, none⟩ v1).setCell ⟨g, 10, none⟩ v2).setCell ⟨g, 11, none⟩ v3).setCell ⟨g, 12, none⟩ v4).heap[k]? = w1.heap[k]? := by
  rw [Below.heap_setCell _ _ _ _ h, Below.heap_setCell _ _ _ _ h, Below.heap_setCell _ _ _ _ h, Below.heap_setCell _ _ _ _ h, Below.heap_setCell _ _ _ _ h]
theorem gv5_below {w w1 : World} (h : Below w.heap.size w w1) (v0 v1 v2 v3 v4 : Value) :
    Below w.heap.size w (((((w1.setCell ⟨w.heap.size, 8, none⟩ v0).setCell ⟨w.heap.size, 9, none⟩ v1).setCell ⟨w.heap.size, 10, none⟩ v2).setCell ⟨w.heap.size, 11, none⟩ v3).setCell ⟨w.heap.size, 12, none⟩ v4) :=
  ((((h.setCell (Nat.le_refl _) _).setCell (Nat.le_refl _) _).setCell (Nat.le_refl _) _).setCell (Nat.le_refl _) _).setCell (Nat.le_refl _) _

set_option maxHeartbeats 2000000 in
theorem apart_any (w : World) (c : Ct) (s : Sl) (h : CtR w c s) (hd : c.give.data.length ≤ 1000000) (hw : c.wire.length ≤ 1000000) (ht : c.tk.l.length ≤ 1000000) :
    Calls Tryz.prog 42 #[.agg (ctA c s)] w fun e w' => ∃ s', e = .returned (.agg (ctA c s')) ∧ CtO w.heap.size w' c s' ∧ Below w.heap.size w w' := by
  have hb0 : ((w.alloc (.cells (ctA c s) 54)).alloc (.cells (ctA c0 sl0) 54)).heap[w.heap.size]? = some (.cells (ctA c s) 54 (0, 0)) := bx_alloc _ (heap_alloc_new w _)
  have hr0 : ((w.alloc (.cells (ctA c s) 54)).alloc (.cells (ctA c0 sl0) 54)).heap[w.heap.size + 1]? = some (.cells (ctA c0 sl0) 54 (0, 0)) := by
    have := heap_alloc_new (w.alloc (.cells (ctA c s) 54)) (.cells (ctA c0 sl0) 54); rwa [heap_size_alloc] at this
  have g0 : Below w.heap.size w ((w.alloc (.cells (ctA c s) 54)).alloc (.cells (ctA c0 sl0) 54)) := bnew (bnew0 w _) _
  have h0 := h.below g0
  have q8 : (ctA c s)[8]? = some (.int .u32 (c.give.id : Int)) := rfl
  have q9 : (ctA c s)[9]? = some (.bool c.give.ext) := rfl
  have q10 : (ctA c s)[10]? = some (.bool c.give.rem) := rfl
  have q11 : (ctA c s)[11]? = some (.int .u8 (c.give.dlc : Int)) := rfl
  have q12 : (ctA c s)[12]? = some (.slice s.da c.give.data.length s.dc) := rfl
  have z0 : ((w.alloc (.cells (ctA c s) 54)).alloc (.cells (ctA c0 sl0) 54)).heap.size = w.heap.size + 2 := by simp
  go_enter Tryz.func42, Tryz.ntmps42
  go_wp2_with (first
    | (go_at_call 52; refine (cloneFr_any _ _ _ _ _ _ _ _ _ h0.da hd).mono ?_; rintro e w1 ⟨a1, c1, rfl, o1, g1⟩
       have hb1 := bx_below hb0 g1
       have hr1 := bx_below hr0 g1
       have gg1 := bstep g0 g1
       have h1 := h0.below g1
       have l1 := g1.size
       clear q8 q9 q10 q11 q12
       have q8 : w1.cell? ⟨w.heap.size, 8, none⟩ = some (.int .u32 (c.give.id : Int)) := bxC hb1 8
       have q9 : w1.cell? ⟨w.heap.size, 9, none⟩ = some (.bool c.give.ext) := bxC hb1 9
       have q10 : w1.cell? ⟨w.heap.size, 10, none⟩ = some (.bool c.give.rem) := bxC hb1 10
       have q11 : w1.cell? ⟨w.heap.size, 11, none⟩ = some (.int .u8 (c.give.dlc : Int)) := bxC hb1 11
       have q12 : w1.cell? ⟨w.heap.size, 12, none⟩ = some (.slice s.da c.give.data.length s.dc) := bxC hb1 12
       have q15 : w1.cell? ⟨w.heap.size, 15, none⟩ = some (.slice s.wa c.wire.length s.wc) := bxC hb1 15
       have f1 := bx_thaw hb1
       have hb2 : (((((w1.setCell ⟨w.heap.size, 8, none⟩ (.int .u32 (c.give.id : Int))).setCell ⟨w.heap.size, 9, none⟩ (.bool c.give.ext)).setCell ⟨w.heap.size, 10, none⟩ (.bool c.give.rem)).setCell ⟨w.heap.size, 11, none⟩ (.int .u8 (c.give.dlc : Int))).setCell ⟨w.heap.size, 12, none⟩ (.slice a1 c.give.data.length c1)).heap[w.heap.size]? = some (.cells (ctA c ⟨a1, c1, s.wa, s.wc, s.ta, s.tc⟩) 54 (0, 0)) := gv5_same hb1 _ _ _ _ _
       have hr2 : (((((w1.setCell ⟨w.heap.size, 8, none⟩ (.int .u32 (c.give.id : Int))).setCell ⟨w.heap.size, 9, none⟩ (.bool c.give.ext)).setCell ⟨w.heap.size, 10, none⟩ (.bool c.give.rem)).setCell ⟨w.heap.size, 11, none⟩ (.int .u8 (c.give.dlc : Int))).setCell ⟨w.heap.size, 12, none⟩ (.slice a1 c.give.data.length c1)).heap[w.heap.size + 1]? = some (.cells (ctA c0 sl0) 54 (0, 0)) := (gv5_other (by omega) _ _ _ _ _).trans hr1
       have gg2 : Below w.heap.size w (((((w1.setCell ⟨w.heap.size, 8, none⟩ (.int .u32 (c.give.id : Int))).setCell ⟨w.heap.size, 9, none⟩ (.bool c.give.ext)).setCell ⟨w.heap.size, 10, none⟩ (.bool c.give.rem)).setCell ⟨w.heap.size, 11, none⟩ (.int .u8 (c.give.dlc : Int))).setCell ⟨w.heap.size, 12, none⟩ (.slice a1 c.give.data.length c1)) := gv5_below gg1 _ _ _ _ _
       have o2 : OL bv 5 (w.heap.size + 2) (((((w1.setCell ⟨w.heap.size, 8, none⟩ (.int .u32 (c.give.id : Int))).setCell ⟨w.heap.size, 9, none⟩ (.bool c.give.ext)).setCell ⟨w.heap.size, 10, none⟩ (.bool c.give.rem)).setCell ⟨w.heap.size, 11, none⟩ (.int .u8 (c.give.dlc : Int))).setCell ⟨w.heap.size, 12, none⟩ (.slice a1 c.give.data.length c1)) a1 c.give.data.length c1 c.give.data := (o1.mono (by omega)).kept fun k hk => gv5_other (by have := (o1.ltB hk).2; dsimp only at this ⊢; omega) _ _ _ _ _
       have h2w : RL .bool (((((w1.setCell ⟨w.heap.size, 8, none⟩ (.int .u32 (c.give.id : Int))).setCell ⟨w.heap.size, 9, none⟩ (.bool c.give.ext)).setCell ⟨w.heap.size, 10, none⟩ (.bool c.give.rem)).setCell ⟨w.heap.size, 11, none⟩ (.int .u8 (c.give.dlc : Int))).setCell ⟨w.heap.size, 12, none⟩ (.slice a1 c.give.data.length c1)) s.wa c.wire.length s.wc c.wire := h.wi.below gg2
       have h2t : RL .bool (((((w1.setCell ⟨w.heap.size, 8, none⟩ (.int .u32 (c.give.id : Int))).setCell ⟨w.heap.size, 9, none⟩ (.bool c.give.ext)).setCell ⟨w.heap.size, 10, none⟩ (.bool c.give.rem)).setCell ⟨w.heap.size, 11, none⟩ (.int .u8 (c.give.dlc : Int))).setCell ⟨w.heap.size, 12, none⟩ (.slice a1 c.give.data.length c1)) s.ta c.tk.l.length s.tc c.tk.l := h.ti.below gg2
       have l2 : w.heap.size + 2 ≤ (((((w1.setCell ⟨w.heap.size, 8, none⟩ (.int .u32 (c.give.id : Int))).setCell ⟨w.heap.size, 9, none⟩ (.bool c.give.ext)).setCell ⟨w.heap.size, 10, none⟩ (.bool c.give.rem)).setCell ⟨w.heap.size, 11, none⟩ (.int .u8 (c.give.dlc : Int))).setCell ⟨w.heap.size, 12, none⟩ (.slice a1 c.give.data.length c1)).heap.size := by rw [sz_set, sz_set, sz_set, sz_set, sz_set]; omega)
    | (go_at_call 53; (with_reducible refine (clone7_any _ _ _ _ _ h2w hw).mono ?_); rintro e w3 ⟨a3, c3, rfl, o3, g3⟩
       have hb3 := bx_below hb2 g3
       have hr3 := bx_below hr2 g3
       have gg3 := bstep gg2 g3
       have o3y := o2.below g3
       clear q12 q15
       have q15 : w3.cell? ⟨w.heap.size, 15, none⟩ = some (.slice s.wa c.wire.length s.wc) := bxC hb3 15
       have q19 : w3.cell? ⟨w.heap.size, 19, none⟩ = some (.slice s.ta c.tk.l.length s.tc) := bxC hb3 19
       have f3 := bx_thaw hb3
       have hb4 : (w3.setCell ⟨w.heap.size, 15, none⟩ (.slice a3 c.wire.length c3)).heap[w.heap.size]? = some (.cells (ctA c ⟨a1, c1, a3, c3, s.ta, s.tc⟩) 54 (0, 0)) := heap_setCell_same w3 _ 15 _ _ _ hb3
       have hr4 : (w3.setCell ⟨w.heap.size, 15, none⟩ (.slice a3 c.wire.length c3)).heap[w.heap.size + 1]? = some (.cells (ctA c0 sl0) 54 (0, 0)) := (Below.heap_setCell _ _ _ _ (by simp)).trans hr3
       have gg4 : Below w.heap.size w (w3.setCell ⟨w.heap.size, 15, none⟩ (.slice a3 c.wire.length c3)) := gg3.setCell (Nat.le_refl _) _
       have l3 := g3.size
       have o4 : OL .bool 4 (w.heap.size + 2) (w3.setCell ⟨w.heap.size, 15, none⟩ (.slice a3 c.wire.length c3)) a3 c.wire.length c3 c.wire := (o3.mono l2).kept fun k hk => Below.heap_setCell _ _ _ _ (by have := (o3.ltB hk).2; dsimp only at this ⊢; omega)
       have o4y : OL bv 5 (w.heap.size + 2) (w3.setCell ⟨w.heap.size, 15, none⟩ (.slice a3 c.wire.length c3)) a1 c.give.data.length c1 c.give.data := o3y.kept fun k hk => Below.heap_setCell _ _ _ _ (by have := (o3y.ltB hk).2; dsimp only at this ⊢; omega)
       have h4t : RL .bool (w3.setCell ⟨w.heap.size, 15, none⟩ (.slice a3 c.wire.length c3)) s.ta c.tk.l.length s.tc c.tk.l := h.ti.below gg4
       have l4 : w.heap.size + 2 ≤ (w3.setCell ⟨w.heap.size, 15, none⟩ (.slice a3 c.wire.length c3)).heap.size := by rw [sz_set]; omega)
    | (go_at_call 53; (with_reducible refine (clone7_any _ _ _ _ _ h4t ht).mono ?_); rintro e w5 ⟨a5, c5, rfl, o5, g5⟩
       have hb5 := bx_below hb4 g5
       have hr5 := bx_below hr4 g5
       have gg5 := bstep gg4 g5
       have o5y := o4y.below g5
       have o5w := o4.below g5
       clear q15 q19
       have q19 : w5.cell? ⟨w.heap.size, 19, none⟩ = some (.slice s.ta c.tk.l.length s.tc) := bxC hb5 19
       have f5 := bx_thaw hb5
       have hb6 : (w5.setCell ⟨w.heap.size, 19, none⟩ (.slice a5 c.tk.l.length c5)).heap[w.heap.size]? = some (.cells (ctA c ⟨a1, c1, a3, c3, a5, c5⟩) 54 (0, 0)) := heap_setCell_same w5 _ 19 _ _ _ hb5
       have hr6 : (w5.setCell ⟨w.heap.size, 19, none⟩ (.slice a5 c.tk.l.length c5)).heap[w.heap.size + 1]? = some (.cells (ctA c0 sl0) 54 (0, 0)) := (Below.heap_setCell _ _ _ _ (by simp)).trans hr5
       have gg6 : Below w.heap.size w (w5.setCell ⟨w.heap.size, 19, none⟩ (.slice a5 c.tk.l.length c5)) := gg5.setCell (Nat.le_refl _) _
       have o6 : CtO (w.heap.size + 2) (w5.setCell ⟨w.heap.size, 19, none⟩ (.slice a5 c.tk.l.length c5)) c ⟨a1, c1, a3, c3, a5, c5⟩ := CtO.setCell (w := w5) ⟨o5y, o5w, o5.mono l4⟩ (CtO.nbs (w := w5) ⟨o5y, o5w, o5.mono l4⟩ (by omega)) _)
    | (with_reducible refine wpList_loadR rowC rfl _ rfl _ rfl hb6 rfl ?_)
    | (with_reducible refine wpList_storeR rowC rfl _ _ rfl _ _ rfl rfl hr6 rfl rfl (ct_ones _ _) ?_))
  have o7 := o6.setRow (o6.nbs (show w.heap.size + 1 < w.heap.size + 2 by omega)) (ctA c ⟨a1, c1, a3, c3, a5, c5⟩)
  exact bodyPost_ret (v := .agg (ctA c ⟨a1, c1, a3, c3, a5, c5⟩)) (results_row rowC rfl _ _ _ rfl (setRow_heap _ _ _ _ _ _ hr6) rfl) rfl ⟨_, rfl, o7.mono (by omega), below_setRow gg6 (by omega) _⟩
end Go.Proofs.YtgpmhmdofefdcaaGreat
