/-
  Texts of this place, put together: B8o, B8g, B8i, B8p, B8r, B8u, M8j, B1. What stands here is used by the statement; conditions: none of their own.
-/
import Derived.Test.YtajdbimdiodalaaGreatZc4
import Derived.Deep.LoopGhost
import Derived.Deep.Light
import Derived.Deep.DeepCutAuto
namespace Go.Proofs.YtajdbimdiodalaaGreat
open Go.RowKit Go.Sort
set_option linter.unusedVariables false

/-- What sending asks of a state. -/
structure SndOK (c : Ct) : Prop where
  pos : c.pos < c.wire.length
  len : c.wire.length ≤ 100000
  ack : c.pos + 9 = c.wire.length → c.wire[c.pos]?.getD false = true
  one : 1 ≤ c.tk.l.length

section
variable {B g : Nat} {w wr w2 : World} {c c' : Ct} {s s1 s2 : Sl}

/-- What happened, with a frame that was there. -/
theorem Mb.tells' {r : Ct × Hp} {a : Option Addr} {n : Nat} (m : Mb B w wr g r.1 s s1) (ho : OL bv 5 B wr a r.2.2.data.length n r.2.2.data) (hn : NB a w.heap.size) (hb : ∀ k, k < w.heap.size → NBs s k → NB a k) (v0 v1 v2 v3 v4 v5 : Value) :
    Told B w g s r (.returned (.agg (hapA r.2 a n))) ((((((wr.setCell ⟨w.heap.size, 0, none⟩ v0).setCell ⟨w.heap.size, 1, none⟩ v1).setCell ⟨w.heap.size, 2, none⟩ v2).setCell ⟨w.heap.size, 3, none⟩ v3).setCell ⟨w.heap.size, 4, none⟩ v4).setCell ⟨w.heap.size, 5, none⟩ v5) :=
  ⟨s1, a, n, rfl, m.fin _ _ _ _ _ _, ho.kept fun k hk => set6_other (hn _ hk) _ _ _ _ _ _, hb⟩

theorem bx_wr {q : Nat} {cs : Array Value} {T : TypeId} (h : w.heap[q]? = some (.cells cs T (0, 0))) (hw : Wr g w w2) (hq : q ≠ g) : w2.heap[q]? = some (.cells cs T (0, 0)) := by
  rw [hw.block q (bx_lt h) hq]; exact h

/-- The frame, struck. -/
theorem Mb.putG0 (h : Mb B w wr g c s s1) : Mb B w (((((wr.setCell ⟨g, 8, none⟩ (.int .u32 0)).setCell ⟨g, 9, none⟩ (.bool false)).setCell ⟨g, 10, none⟩ (.bool false)).setCell ⟨g, 11, none⟩ (.int .u8 0)).setCell ⟨g, 12, none⟩ (.slice none 0 0)) g { c with give := zeroFr } s { s1 with da := none, dc := 0 } := by
  have hg := h.lt
  refine ⟨h.st.putGv zeroFr none 0 (OL.nil _ _ _ _) (NB.nil g), hg, ?_, ((((h.wr.setCell (.inl rfl) _).setCell (.inl rfl) _).setCell (.inl rfl) _).setCell (.inl rfl) _).setCell (.inl rfl) _, ⟨NB.nil _, h.nh.w, h.nh.t⟩, fun k hk hn => ⟨NB.nil _, (h.ns k hk hn).w, (h.ns k hk hn).t⟩⟩
  have hk : ∀ (v : World) i u, (v.setCell ⟨g, i, none⟩ u).heap[w.heap.size]? = v.heap[w.heap.size]? := fun v i u => Below.heap_setCell _ _ _ _ (by show w.heap.size ≠ g; omega)
  rw [hk, hk, hk, hk, hk]; exact h.hp

/-- The wire, struck. -/
theorem Mb.putW0 (h : Mb B w wr g c s s1) : Mb B w (wr.setCell ⟨g, 15, none⟩ (.slice none 0 0)) g { c with wire := [] } s { s1 with wa := none, wc := 0 } := by
  have hg := h.lt
  refine ⟨h.st.putWi [] none 0 0 rfl (OL.nil _ _ _ _) (NB.nil g), hg, ?_, h.wr.setCell (.inl rfl) _, ⟨h.nh.d, NB.nil _, h.nh.t⟩, fun k hk hn => ⟨(h.ns k hk hn).d, NB.nil _, (h.ns k hk hn).t⟩⟩
  rw [Below.heap_setCell _ _ _ _ (by show w.heap.size ≠ g; omega)]; exact h.hp
end

section
variable (B : Nat) (w : World) (g : Nat) (c : Ct) (s : Sl) (x : Bool)

set_option maxHeartbeats 4000000 in
theorem goOn_st (r : Ct × Hp) (hr : r = ({ c with tk := (nxT c.tk x).1, pos := c.pos + 1 }, noH)) (h : StB B w g c s) (hT : TkOK c.tk) (hp : c.pos ≤ 100000) :
    Calls Tryz.prog 170 #[.pointer (some ⟨g, 0, none⟩), .bool x] w (Told B w g s r) := by
  have m0 := Mb.start h
  have hB := h.hB
  have hg := h.lt
  have hN := fun (w1 : World) (h1 : RL .bool w1 s.ta c.tk.l.length s.tc c.tk.l) => read_next w1 c.tk s.ta s.tc x h1 hT
  generalize (nxT c.tk x).1 = t' at *
  generalize (nxT c.tk x).2 = q at *
  have H1 := hid (show r.1 = { { c with tk := t' } with pos := c.pos + 1 } by rw [hr])
  have H2 := hid (show r.2 = (0, zeroFr) by rw [hr]; rfl)
  have q16 := m0.st.q16
  have q17 := m0.st.q17
  have q18 := m0.st.q18
  have q19 := m0.st.q19
  have q20 := m0.st.q20
  have q21 := m0.st.q21
  have b0 : (c.pos : Int) ≤ 100000 := by omega
  clear hr hT h
  go_enter Tryz.func170, Tryz.ntmps170
  go_wp2_with (go_at_call 165; (with_reducible refine (hN _ m0.st.ti.rl).mono ?_); rintro e w2 ⟨a2, c2, rfl, o2, g2⟩; have z0 := m0.size; have z2 := g2.size; have m2 := m0.call g2; have m3 := (m2.putTk t' a2 c2 o2 (by omega) hB).put 16 (.int .i64 ((c.pos : Int) + 1)) { { c with tk := t' } with pos := c.pos + 1 } rfl rfl rfl rfl; have f := m2.st.fz; clear q16 q17 q18 q19 q20 q21; have q16 := m2.st.q16; have q17 := m2.st.q17; have q18 := m2.st.q18; have q19 := m2.st.q19; have q20 := m2.st.q20; have q21 := m2.st.q21; obtain ⟨p0, p1, p2, p3, p4, p5⟩ := m3.hps; have fp := m3.hpf)
  exact bodyPost_ret (v := .agg (hapA (0, zeroFr) none 0)) (by simp [results, Tryz.results170, go_sem, p0, p1, p2, p3, p4, p5]; rfl) rfl (m3.six 0 H1.out H2.out _ _ _ _ _ _)

set_option maxHeartbeats 4000000 in
theorem unheard_st (r : Ct × Hp) (hr : r = if moC c.cf = 1 then flagC c 7 0 true else failC c 7) (h : StB B w g c s) (hmo : moC c.cf ≤ 1) :
    Calls Tryz.prog 185 #[.pointer (some ⟨g, 0, none⟩)] w (Told B w g s r) := by
  have m0 := Mb.start h
  have hB := h.hB
  have hg := h.lt
  have hM := mode_st B _ g c s m0.st
  by_cases h1 : moC c.cf = 1
  · rw [if_pos h1] at hr
    rw [h1] at hM
    have hF := fun (w1 : World) (k : StB B w1 g c s) => flag_st B w1 g c s 1 7 k (by omega)
    simp only [if_true, show ((1 : Nat) : Int) = 1 from rfl, show ((7 : Nat) : Int) = 7 from rfl] at hF hM
    obtain ⟨r4, hr4⟩ : ∃ r4 : Ct × Hp, r4 = ({ newC c 3 with err := true }, (7, zeroFr)) := ⟨_, rfl⟩
    have hr2 : r = ({ r4.1 with owed := true }, r4.2) := by
      rw [hr, hr4]; unfold flagC cntC
      rw [if_pos (rfl : (0 : Nat) = 0), if_neg (by omega), if_pos h1]
    rw [← hr4] at hF
    subst hr2
    clear hr h hmo h1 hr4
    go_enter Tryz.func185, Tryz.ntmps185
    go_wp2_with (first
      | (go_at_call 155; (with_reducible refine hM.mono ?_); rintro e w1 ⟨rfl, g1⟩; have m1 := m0.call g1)
      | (go_at_call 167; (with_reducible refine (hF _ m1.st).mono ?_); rintro e w4 ⟨s4, a4, n4, rfl, l4, o4, b4⟩; have m4 := m1.left l4; have z1 := m1.size; have m5 := m4.alloc (.cells #[.int .u8 (r4.2.1 : Int), .int .u32 (r4.2.2.id : Int), .bool r4.2.2.ext, .bool r4.2.2.rem, .int .u8 (r4.2.2.dlc : Int), .slice a4 r4.2.2.data.length n4] 127); have m6 := m5.put 25 (.bool true) { r4.1 with owed := true } rfl rfl rfl rfl; obtain ⟨c0, c1, c2, c3, c4, c5⟩ := bx6 (bx_wr (heap_alloc_new w4 (.cells #[.int .u8 (r4.2.1 : Int), .int .u32 (r4.2.2.id : Int), .bool r4.2.2.ext, .bool r4.2.2.rem, .int .u8 (r4.2.2.dlc : Int), .slice a4 r4.2.2.data.length n4] 127)) ((Wr.refl g _).setCell (.inl (rfl : (⟨g, 25, none⟩ : Addr).block = g)) (.bool true)) (by have := m4.st.lt; omega)); have q25 := m5.st.q25; have f := m5.st.fz; obtain ⟨p0, p1, p2, p3, p4, p5⟩ := m6.hps; have fp := m6.hpf))
    exact bodyPost_ret (v := .agg (hapA r4.2 a4 n4)) (by simp [results, Tryz.results185, go_sem, p0, p1, p2, p3, p4, p5]; rfl) rfl (m6.tells' (r := ({ r4.1 with owed := true }, r4.2)) ((o4.alloc (.cells #[.int .u8 (r4.2.1 : Int), .int .u32 (r4.2.2.id : Int), .bool r4.2.2.ext, .bool r4.2.2.rem, .int .u8 (r4.2.2.dlc : Int), .slice a4 r4.2.2.data.length n4] 127)).wr ((Wr.refl g _).setCell (.inl rfl) _) (b4 g (by have := m1.st.lt; omega) m1.st.nb)) (b4 _ (by omega) m1.nh) (fun k hk hs => b4 k (by omega) (m1.ns k hk hs)) _ _ _ _ _ _)
  · rw [if_neg h1] at hr
    have h0 : moC c.cf = 0 := by omega
    rw [h0] at hM
    have hF := fun (w1 : World) (k : StB B w1 g c s) => fail_st B w1 g c s 7 r hr k hmo
    simp only [show ((0 : Nat) : Int) = 0 from rfl, show ((7 : Nat) : Int) = 7 from rfl] at hF hM
    clear hr h hmo h1 h0
    go_enter Tryz.func185, Tryz.ntmps185
    go_wp2_with (first
      | (go_at_call 155; (with_reducible refine hM.mono ?_); rintro e w1 ⟨rfl, g1⟩; have m1 := m0.call g1)
      | (go_at_call 146; (with_reducible refine (hF _ m1.st).mono ?_); rintro e w4 ⟨s4, a4, n4, rfl, l4, o4, b4⟩; have m4 := m1.left l4; obtain ⟨p0, p1, p2, p3, p4, p5⟩ := m4.hps; have fp := m4.hpf))
    exact bodyPost_ret (v := .agg (hapA r.2 a4 n4)) (by simp [results, Tryz.results185, go_sem, p0, p1, p2, p3, p4, p5]; rfl) rfl (m1.told l4 o4 b4 _ _ _ _ _ _)
end
end Go.Proofs.YtajdbimdiodalaaGreat

namespace Go.Proofs.YtajdbimdiodalaaGreat
open Go.RowKit Go.Sort
set_option linter.unusedVariables false

section
variable (B : Nat) (w : World) (g : Nat) (c : Ct) (s : Sl) (x : Bool)

set_option maxHeartbeats 4000000 in
theorem asDriven_ack (r : Ct × Hp) (hr : r = if moC c.cf = 1 then flagC c 7 0 true else failC c 7) (h : StB B w g c s) (hS : SndOK c) (hmo : moC c.cf ≤ 1) (ha : c.pos + 9 = c.wire.length) :
    Calls Tryz.prog 168 #[.pointer (some ⟨g, 0, none⟩), .bool x] w (Told B w g s r) := by
  have m0 := Mb.start h
  have hK := fun (w1 : World) (k : StB B w1 g c s) => atAck_st B w1 g c s k hS.len (by have := hS.pos; have := hS.len; omega)
  rw [decide_eq_true ha] at hK
  have hU := fun (w1 : World) (k : StB B w1 g c s) => unheard_st B w1 g c s r hr k hmo
  clear hr h hS hmo ha
  go_enter Tryz.func168, Tryz.ntmps168
  go_wp2_with (first
    | (go_at_call 169; (with_reducible refine (hK _ m0.st).mono ?_); rintro e w1 ⟨rfl, g1⟩; have m1 := m0.call g1)
    | (go_at_call 185; (with_reducible refine (hU _ m1.st).mono ?_); rintro e w4 ⟨s4, a4, n4, rfl, l4, o4, b4⟩; have m4 := m1.left l4; obtain ⟨p0, p1, p2, p3, p4, p5⟩ := m4.hps; have fp := m4.hpf))
  exact bodyPost_ret (v := .agg (hapA r.2 a4 n4)) (by simp [results, Tryz.results168, go_sem, p0, p1, p2, p3, p4, p5]; rfl) rfl (m1.told l4 o4 b4 _ _ _ _ _ _)

set_option maxHeartbeats 4000000 in
theorem asDriven_on (r : Ct × Hp) (hr : r = ({ c with tk := (nxT c.tk x).1, pos := c.pos + 1 }, noH)) (h : StB B w g c s) (hS : SndOK c) (hT : TkOK c.tk) (ha : ¬ c.pos + 9 = c.wire.length) (hl : c.pos + 1 < c.wire.length) :
    Calls Tryz.prog 168 #[.pointer (some ⟨g, 0, none⟩), .bool x] w (Told B w g s r) := by
  have m0 := Mb.start h
  have hK := fun (w1 : World) (k : StB B w1 g c s) => atAck_st B w1 g c s k hS.len (by have := hS.pos; have := hS.len; omega)
  rw [decide_eq_false ha] at hK
  have hU := fun (w1 : World) (k : StB B w1 g c s) => goOn_st B w1 g c s x r hr k hT (by have := hS.pos; have := hS.len; omega)
  have b1 : (c.pos : Int) < (c.wire.length : Int) - 1 := by omega
  have b2 : (c.wire.length : Int) ≤ 100000 := by have := hS.len; omega
  have b3 : (0 : Int) ≤ (c.wire.length : Int) := by omega
  clear hr h hS hT ha hl
  go_enter Tryz.func168, Tryz.ntmps168
  go_wp2_with (go_at_call 169; (with_reducible refine (hK _ m0.st).mono ?_); rintro e w1 ⟨rfl, g1⟩; have m1 := m0.call g1; have q15 := m1.st.q15; have q16 := m1.st.q16)
  go_quiet (fail)
  have m2 := m1.call (below_drewN (Below.refl _ _) nq)
  clear q15 q16
  generalize w1.drewN nq = wd at *
  go_wp2_with (go_at_call 170; (with_reducible refine (hU _ m2.st).mono ?_); rintro e w4 ⟨s4, a4, n4, rfl, l4, o4, b4⟩; have m4 := m2.left l4; obtain ⟨p0, p1, p2, p3, p4, p5⟩ := m4.hps; have fp := m4.hpf)
  exact bodyPost_ret (v := .agg (hapA r.2 a4 n4)) (by simp [results, Tryz.results168, go_sem, p0, p1, p2, p3, p4, p5]; rfl) rfl (m2.told l4 o4 b4 _ _ _ _ _ _)

set_option maxHeartbeats 4000000 in
theorem asDriven_sent (r : Ct × Hp) (hr : r = (newC { c with cf := evC c.cf 8, has := false, give := zeroFr } 7, (1, c.give))) (h : StB B w g c s) (hS : SndOK c) (ha : ¬ c.pos + 9 = c.wire.length) (hl : ¬ c.pos + 1 < c.wire.length) :
    Calls Tryz.prog 168 #[.pointer (some ⟨g, 0, none⟩), .bool x] w (Told B w g s r) := by
  have m0 := Mb.start h
  have hK := fun (w1 : World) (k : StB B w1 g c s) => atAck_st B w1 g c s k hS.len (by have := hS.pos; have := hS.len; omega)
  rw [decide_eq_false ha] at hK
  have b1 : ¬ (c.pos : Int) < (c.wire.length : Int) - 1 := by omega
  have b2 : (c.wire.length : Int) ≤ 100000 := by have := hS.len; omega
  have b3 : (0 : Int) ≤ (c.wire.length : Int) := by omega
  obtain ⟨d, hd⟩ : ∃ d, d = ({ { { c with has := false } with give := zeroFr } with cf := evC c.cf 8 } : Ct) := ⟨_, rfl⟩
  have hC : ∀ (w1 : World) (s1 : Sl), StB B w1 g { { c with has := false } with give := zeroFr } s1 → Calls Tryz.prog 153 #[.pointer (some ⟨g, 0, none⟩), .int .u8 8] w1 fun e w' => e = .returned (.tuple #[]) ∧ Left B w1 w' g d s1 s1 := fun w1 s1 k => by
    rw [hd]; exact count_st B w1 g { { c with has := false } with give := zeroFr } s1 8 (by omega) k
  have hE : ∀ (w1 : World) (s1 : Sl), StB B w1 g d s1 → Calls Tryz.prog 152 #[.pointer (some ⟨g, 0, none⟩), .int .u8 7] w1 fun e w' => e = .returned (.tuple #[]) ∧ Left B w1 w' g r.1 s1 s1.new := fun w1 s1 k => by
    have hh : r.1 = newC d 7 := by rw [hr, hd]
    rw [hh]; exact enter_any B w1 g d s1 7 k
  have H21 := hid (show r.2.1 = 1 by rw [hr])
  have H22 := hid (show r.2.2 = c.give by rw [hr])
  clear hr h hS ha hl hd
  go_enter Tryz.func168, Tryz.ntmps168
  go_wp2_with (go_at_call 169; (with_reducible refine (hK _ m0.st).mono ?_); rintro e w1 ⟨rfl, g1⟩; have m1 := m0.call g1; have q15 := m1.st.q15; have q16 := m1.st.q16)
  go_quiet (fail)
  have m2 := m1.call (below_drewN (Below.refl _ _) nq)
  clear q15 q16
  generalize w1.drewN nq = wd at *
  have q8 := m2.st.q8
  have q9 := m2.st.q9
  have q10 := m2.st.q10
  have q11 := m2.st.q11
  have q12 := m2.st.q12
  have m3 := m2.alloc (.cells #[.int .u8 1, .int .u32 (c.give.id : Int), .bool c.give.ext, .bool c.give.rem, .int .u8 (c.give.dlc : Int), .slice s.da c.give.data.length s.dc] 127)
  have f := m3.st.fz
  have r7 := m3.st.q7
  have r8 := m3.st.q8
  have r9 := m3.st.q9
  have r10 := m3.st.q10
  have r11 := m3.st.q11
  have r12 := m3.st.q12
  have hne : wd.heap.size ≠ g := by have := m2.st.lt; omega
  go_wp2_with (first
    | (go_at_call 153; have m4 := (m3.put 7 (.bool false) { c with has := false } rfl rfl rfl rfl).putG0; have w4 : Wr g (wd.alloc (.cells #[.int .u8 1, .int .u32 (c.give.id : Int), .bool c.give.ext, .bool c.give.rem, .int .u8 (c.give.dlc : Int), .slice s.da c.give.data.length s.dc] 127)) _ := ((((((Wr.refl g _).setCell (.inl (rfl : (⟨g, 7, none⟩ : Addr).block = g)) (.bool false)).setCell (.inl (rfl : (⟨g, 8, none⟩ : Addr).block = g)) (.int .u32 0)).setCell (.inl (rfl : (⟨g, 9, none⟩ : Addr).block = g)) (.bool false)).setCell (.inl (rfl : (⟨g, 10, none⟩ : Addr).block = g)) (.bool false)).setCell (.inl (rfl : (⟨g, 11, none⟩ : Addr).block = g)) (.int .u8 0)).setCell (.inl (rfl : (⟨g, 12, none⟩ : Addr).block = g)) (.slice none 0 0); have hx4 := bx_wr (heap_alloc_new wd (.cells #[.int .u8 1, .int .u32 (c.give.id : Int), .bool c.give.ext, .bool c.give.rem, .int .u8 (c.give.dlc : Int), .slice s.da c.give.data.length s.dc] 127)) w4 hne; have o4 := (m3.st.da).wr w4 m3.st.nb.d; (with_reducible refine (hC _ _ m4.st).mono ?_); rintro e w5 ⟨rfl, l5⟩; have m5 := m4.left l5; have hx5 := bx_wr hx4 l5.wr hne; have o5 := o4.wr l5.wr m3.st.nb.d; clear q8 q9 q10 q11 q12 r7 r8 r9 r10 r11 r12 f)
    | (go_at_call 152; (with_reducible refine (hE _ _ m5.st).mono ?_); rintro e w6 ⟨rfl, l6⟩; have m6 := m5.left l6; have hx6 := bx_wr hx5 l6.wr hne; have o6 := o5.wr l6.wr m3.st.nb.d; obtain ⟨c0, c1, c2, c3, c4, c5⟩ := bx6 hx6; obtain ⟨p0, p1, p2, p3, p4, p5⟩ := m6.hps; have fp := m6.hpf))
  exact bodyPost_ret (v := .agg #[.int .u8 1, .int .u32 (c.give.id : Int), .bool c.give.ext, .bool c.give.rem, .int .u8 (c.give.dlc : Int), .slice s.da c.give.data.length s.dc]) (by simp [results, Tryz.results168, go_sem, p0, p1, p2, p3, p4, p5]) rfl (by
    rw [← H22.out] at o6
    have := m6.tells' (r := r) o6 m2.nh.d (fun k hk hs => hs.d) (.int .u8 1) (.int .u32 (c.give.id : Int)) (.bool c.give.ext) (.bool c.give.rem) (.int .u8 (c.give.dlc : Int)) (.slice s.da c.give.data.length s.dc)
    unfold hapA at this; rw [H21.out, H22.out] at this; exact this)
end
end Go.Proofs.YtajdbimdiodalaaGreat

namespace Go.Proofs.YtajdbimdiodalaaGreat
open Go.RowKit Go.Sort
set_option linter.unusedVariables false

theorem rowC : RowT Tryz.prog 42 26 := rowT_of (by kernel_rfl) (by kernel_rfl)
theorem rowS : RowT Tryz.prog 166 26 := rowT_of (by kernel_rfl) (by kernel_rfl)
theorem rowH : RowT Tryz.prog 127 6 := rowT_of (by kernel_rfl) (by kernel_rfl)

/-- The slices of a controller, read. -/
structure CtR (w : World) (c : Ct) (s : Sl) : Prop where
  da : RL bv w s.da c.give.data.length s.dc c.give.data
  wi : RL .bool w s.wa c.wire.length s.wc c.wire
  ti : RL .bool w s.ta c.tk.l.length s.tc c.tk.l

/-- .. in memory of its own, from B on. -/
structure CtO (B : Nat) (w : World) (c : Ct) (s : Sl) : Prop where
  da : OL bv 5 B w s.da c.give.data.length s.dc c.give.data
  wi : OL .bool 4 B w s.wa c.wire.length s.wc c.wire
  ti : OL .bool 4 B w s.ta c.tk.l.length s.tc c.tk.l

/-- No slices. -/
def sl0 : Sl := ⟨none, 0, none, 0, none, 0⟩

section
variable {B g : Nat} {w w1 w2 : World} {c : Ct} {s : Sl}
theorem CtR.below (h : CtR w c s) (k : Below w.heap.size w w1) : CtR w1 c s := ⟨h.da.below k, h.wi.below k, h.ti.below k⟩
theorem CtO.r (h : CtO B w c s) : CtR w c s := ⟨h.da.rl, h.wi.rl, h.ti.rl⟩
theorem CtO.mono {B' : Nat} (h : CtO B w c s) (hB : B' ≤ B) : CtO B' w c s := ⟨h.da.mono hB, h.wi.mono hB, h.ti.mono hB⟩
theorem CtO.below (h : CtO B w c s) (k : Below w.heap.size w w1) : CtO B w1 c s := ⟨h.da.below k, h.wi.below k, h.ti.below k⟩
theorem CtO.alloc (h : CtO B w c s) (o : Obj) : CtO B (w.alloc o) c s := ⟨h.da.alloc o, h.wi.alloc o, h.ti.alloc o⟩
theorem CtO.nbs (h : CtO B w c s) {k : Nat} (hk : k < B) : NBs s k := ⟨ol_nb h.da hk, ol_nb h.wi hk, ol_nb h.ti hk⟩
/-- Where only blocks were written in which none of the slices lies. -/
theorem CtO.kept (h : CtO B w c s) (hk : ∀ k, NBs s k ∨ w1.heap[k]? = w.heap[k]?) : CtO B w1 c s :=
  ⟨h.da.kept fun q hq => (hk q).resolve_left fun n => n.d _ hq rfl, h.wi.kept fun q hq => (hk q).resolve_left fun n => n.w _ hq rfl, h.ti.kept fun q hq => (hk q).resolve_left fun n => n.t _ hq rfl⟩
theorem CtO.setRow (h : CtO B w c s) {p : Nat} (hn : NBs s p) (cs : Array Value) : CtO B (w.setRow p cs) c s :=
  h.kept fun k => by
    by_cases e : k = p
    · subst e; exact .inl hn
    · exact .inr (setRow_other _ _ _ _ e)
theorem CtO.setCell (h : CtO B w c s) {p i : Nat} (hn : NBs s p) (v : Value) : CtO B (w.setCell ⟨p, i, none⟩ v) c s :=
  h.kept fun k => by
    by_cases e : k = p
    · subst e; exact .inl hn
    · exact .inr (Below.heap_setCell _ _ _ _ e)
theorem CtO.zero (B : Nat) (w : World) : CtO B w c0 sl0 := ⟨OL.nil _ _ _ _, OL.nil _ _ _ _, OL.nil _ _ _ _⟩
theorem StB.o (h : StB B w g c s) : CtO B w c s := ⟨h.da, h.wi, h.ti⟩
end

theorem ct_ones (c : Ct) (s : Sl) : (ctA c s).all (·.oneCell') = true := by kernel_rfl
theorem hap_ones (h : Hp) (a : Option Addr) (n : Nat) : (hapA h a n).all (·.oneCell') = true := by kernel_rfl

/-- What a box of a controller's cells holds. -/
theorem bxC {w : World} {g : Nat} {T : TypeId} {c : Ct} {s : Sl} (h : w.heap[g]? = some (.cells (ctA c s) T (0, 0))) (i : Nat) : w.cell? ⟨g, i, none⟩ = (ctA c s)[i]? := cell_of_row w g i _ _ _ h

/-- The five cells of a frame in the middle of a controller's box, stored. -/
theorem gv5_same {w1 : World} {g : Nat} {T : TypeId} {c : Ct} {s : Sl} (h : w1.heap[g]? = some (.cells (ctA c s) T (0, 0))) (v0 v1 v2 v3 v4 : Value) :
    (((((w1.setCell ⟨g, 8, none⟩ v0).setCell ⟨g, 9, none⟩ v1).setCell ⟨g, 10, none⟩ v2).setCell ⟨g, 11, none⟩ v3).setCell ⟨g, 12, none⟩ v4).heap[g]? = some (.cells ((((((ctA c s).setIfInBounds 8 v0).setIfInBounds 9 v1).setIfInBounds 10 v2).setIfInBounds 11 v3).setIfInBounds 12 v4) T (0, 0)) :=
  heap_setCell_same _ g 12 _ _ _ (heap_setCell_same _ g 11 _ _ _ (heap_setCell_same _ g 10 _ _ _ (heap_setCell_same _ g 9 _ _ _ (heap_setCell_same _ g 8 _ _ _ h))))
theorem gv5_other {w1 : World} {g k : Nat} (h : k ≠ g) (v0 v1 v2 v3 v4 : Value) :
    (((((w1.setCell ⟨g, 8, none⟩ v0).setCell ⟨g, 9, none⟩ v1).setCell ⟨g, 10, none⟩ v2).setCell ⟨g, 11, none⟩ v3).setCell ⟨g, 12, none⟩ v4).heap[k]? = w1.heap[k]? := by
  rw [Below.heap_setCell _ _ _ _ h, Below.heap_setCell _ _ _ _ h, Below.heap_setCell _ _ _ _ h, Below.heap_setCell _ _ _ _ h, Below.heap_setCell _ _ _ _ h]
theorem gv5_below {w w1 : World} (h : Below w.heap.size w w1) (v0 v1 v2 v3 v4 : Value) :
    Below w.heap.size w (((((w1.setCell ⟨w.heap.size, 8, none⟩ v0).setCell ⟨w.heap.size, 9, none⟩ v1).setCell ⟨w.heap.size, 10, none⟩ v2).setCell ⟨w.heap.size, 11, none⟩ v3).setCell ⟨w.heap.size, 12, none⟩ v4) :=
  ((((h.setCell (Nat.le_refl _) _).setCell (Nat.le_refl _) _).setCell (Nat.le_refl _) _).setCell (Nat.le_refl _) _).setCell (Nat.le_refl _) _

set_option maxHeartbeats 2000000 in
theorem apart_any (w : World) (c : Ct) (s : Sl) (h : CtR w c s) (hd : c.give.data.length ≤ 1000000) (hw : c.wire.length ≤ 1000000) (ht : c.tk.l.length ≤ 1000000) :
    Calls Tryz.prog 52 #[.agg (ctA c s)] w fun e w' => ∃ s', e = .returned (.agg (ctA c s')) ∧ CtO w.heap.size w' c s' ∧ Below w.heap.size w w' := by
  have hb0 : ((w.alloc (.cells (ctA c s) 42)).alloc (.cells (ctA c0 sl0) 42)).heap[w.heap.size]? = some (.cells (ctA c s) 42 (0, 0)) := bx_alloc _ (heap_alloc_new w _)
  have hr0 : ((w.alloc (.cells (ctA c s) 42)).alloc (.cells (ctA c0 sl0) 42)).heap[w.heap.size + 1]? = some (.cells (ctA c0 sl0) 42 (0, 0)) := by
    have := heap_alloc_new (w.alloc (.cells (ctA c s) 42)) (.cells (ctA c0 sl0) 42); rwa [heap_size_alloc] at this
  have g0 : Below w.heap.size w ((w.alloc (.cells (ctA c s) 42)).alloc (.cells (ctA c0 sl0) 42)) := bnew (bnew0 w _) _
  have h0 := h.below g0
  have q8 : (ctA c s)[8]? = some (.int .u32 (c.give.id : Int)) := rfl
  have q9 : (ctA c s)[9]? = some (.bool c.give.ext) := rfl
  have q10 : (ctA c s)[10]? = some (.bool c.give.rem) := rfl
  have q11 : (ctA c s)[11]? = some (.int .u8 (c.give.dlc : Int)) := rfl
  have q12 : (ctA c s)[12]? = some (.slice s.da c.give.data.length s.dc) := rfl
  have z0 : ((w.alloc (.cells (ctA c s) 42)).alloc (.cells (ctA c0 sl0) 42)).heap.size = w.heap.size + 2 := by simp
  go_enter Tryz.func52, Tryz.ntmps52
  go_wp2_with (first
    | (go_at_call 79; refine (cloneFr_any _ _ _ _ _ _ _ _ _ h0.da hd).mono ?_; rintro e w1 ⟨a1, c1, rfl, o1, g1⟩
       have hb1 := bx_below hb0 g1
       have hr1 := bx_below hr0 g1
       have gg1 := bstep g0 g1
       have h1 := h0.below g1
       have l1 := g1.size
       clear q8 q9 q10 q11 q12
       have q8 : w1.cell? ⟨w.heap.size, 8, none⟩ = some (.int .u32 (c.give.id : Int)) := bxC hb1 8
       have q9 : w1.cell? ⟨w.heap.size, 9, none⟩ = some (.bool c.give.ext) := bxC hb1 9
       have q10 : w1.cell? ⟨w.heap.size, 10, none⟩ = some (.bool c.give.rem) := bxC hb1 10
       have q11 : w1.cell? ⟨w.heap.size, 11, none⟩ = some (.int .u8 (c.give.dlc : Int)) := bxC hb1 11
       have q12 : w1.cell? ⟨w.heap.size, 12, none⟩ = some (.slice s.da c.give.data.length s.dc) := bxC hb1 12
       have q15 : w1.cell? ⟨w.heap.size, 15, none⟩ = some (.slice s.wa c.wire.length s.wc) := bxC hb1 15
       have f1 := bx_thaw hb1
       have hb2 : (((((w1.setCell ⟨w.heap.size, 8, none⟩ (.int .u32 (c.give.id : Int))).setCell ⟨w.heap.size, 9, none⟩ (.bool c.give.ext)).setCell ⟨w.heap.size, 10, none⟩ (.bool c.give.rem)).setCell ⟨w.heap.size, 11, none⟩ (.int .u8 (c.give.dlc : Int))).setCell ⟨w.heap.size, 12, none⟩ (.slice a1 c.give.data.length c1)).heap[w.heap.size]? = some (.cells (ctA c ⟨a1, c1, s.wa, s.wc, s.ta, s.tc⟩) 42 (0, 0)) := gv5_same hb1 _ _ _ _ _
       have hr2 : (((((w1.setCell ⟨w.heap.size, 8, none⟩ (.int .u32 (c.give.id : Int))).setCell ⟨w.heap.size, 9, none⟩ (.bool c.give.ext)).setCell ⟨w.heap.size, 10, none⟩ (.bool c.give.rem)).setCell ⟨w.heap.size, 11, none⟩ (.int .u8 (c.give.dlc : Int))).setCell ⟨w.heap.size, 12, none⟩ (.slice a1 c.give.data.length c1)).heap[w.heap.size + 1]? = some (.cells (ctA c0 sl0) 42 (0, 0)) := (gv5_other (by omega) _ _ _ _ _).trans hr1
       have gg2 : Below w.heap.size w (((((w1.setCell ⟨w.heap.size, 8, none⟩ (.int .u32 (c.give.id : Int))).setCell ⟨w.heap.size, 9, none⟩ (.bool c.give.ext)).setCell ⟨w.heap.size, 10, none⟩ (.bool c.give.rem)).setCell ⟨w.heap.size, 11, none⟩ (.int .u8 (c.give.dlc : Int))).setCell ⟨w.heap.size, 12, none⟩ (.slice a1 c.give.data.length c1)) := gv5_below gg1 _ _ _ _ _
       have o2 : OL bv 5 (w.heap.size + 2) (((((w1.setCell ⟨w.heap.size, 8, none⟩ (.int .u32 (c.give.id : Int))).setCell ⟨w.heap.size, 9, none⟩ (.bool c.give.ext)).setCell ⟨w.heap.size, 10, none⟩ (.bool c.give.rem)).setCell ⟨w.heap.size, 11, none⟩ (.int .u8 (c.give.dlc : Int))).setCell ⟨w.heap.size, 12, none⟩ (.slice a1 c.give.data.length c1)) a1 c.give.data.length c1 c.give.data := (o1.mono (by omega)).kept fun k hk => gv5_other (by have := (o1.ltB hk).2; dsimp only at this ⊢; omega) _ _ _ _ _
       have h2w : RL .bool (((((w1.setCell ⟨w.heap.size, 8, none⟩ (.int .u32 (c.give.id : Int))).setCell ⟨w.heap.size, 9, none⟩ (.bool c.give.ext)).setCell ⟨w.heap.size, 10, none⟩ (.bool c.give.rem)).setCell ⟨w.heap.size, 11, none⟩ (.int .u8 (c.give.dlc : Int))).setCell ⟨w.heap.size, 12, none⟩ (.slice a1 c.give.data.length c1)) s.wa c.wire.length s.wc c.wire := h.wi.below gg2
       have h2t : RL .bool (((((w1.setCell ⟨w.heap.size, 8, none⟩ (.int .u32 (c.give.id : Int))).setCell ⟨w.heap.size, 9, none⟩ (.bool c.give.ext)).setCell ⟨w.heap.size, 10, none⟩ (.bool c.give.rem)).setCell ⟨w.heap.size, 11, none⟩ (.int .u8 (c.give.dlc : Int))).setCell ⟨w.heap.size, 12, none⟩ (.slice a1 c.give.data.length c1)) s.ta c.tk.l.length s.tc c.tk.l := h.ti.below gg2
       have l2 : w.heap.size + 2 ≤ (((((w1.setCell ⟨w.heap.size, 8, none⟩ (.int .u32 (c.give.id : Int))).setCell ⟨w.heap.size, 9, none⟩ (.bool c.give.ext)).setCell ⟨w.heap.size, 10, none⟩ (.bool c.give.rem)).setCell ⟨w.heap.size, 11, none⟩ (.int .u8 (c.give.dlc : Int))).setCell ⟨w.heap.size, 12, none⟩ (.slice a1 c.give.data.length c1)).heap.size := by rw [sz_set, sz_set, sz_set, sz_set, sz_set]; omega)
    | (go_at_call 80; (with_reducible refine (clone7_any _ _ _ _ _ h2w hw).mono ?_); rintro e w3 ⟨a3, c3, rfl, o3, g3⟩
       have hb3 := bx_below hb2 g3
       have hr3 := bx_below hr2 g3
       have gg3 := bstep gg2 g3
       have o3y := o2.below g3
       clear q12 q15
       have q15 : w3.cell? ⟨w.heap.size, 15, none⟩ = some (.slice s.wa c.wire.length s.wc) := bxC hb3 15
       have q19 : w3.cell? ⟨w.heap.size, 19, none⟩ = some (.slice s.ta c.tk.l.length s.tc) := bxC hb3 19
       have f3 := bx_thaw hb3
       have hb4 : (w3.setCell ⟨w.heap.size, 15, none⟩ (.slice a3 c.wire.length c3)).heap[w.heap.size]? = some (.cells (ctA c ⟨a1, c1, a3, c3, s.ta, s.tc⟩) 42 (0, 0)) := heap_setCell_same w3 _ 15 _ _ _ hb3
       have hr4 : (w3.setCell ⟨w.heap.size, 15, none⟩ (.slice a3 c.wire.length c3)).heap[w.heap.size + 1]? = some (.cells (ctA c0 sl0) 42 (0, 0)) := (Below.heap_setCell _ _ _ _ (by simp)).trans hr3
       have gg4 : Below w.heap.size w (w3.setCell ⟨w.heap.size, 15, none⟩ (.slice a3 c.wire.length c3)) := gg3.setCell (Nat.le_refl _) _
       have l3 := g3.size
       have o4 : OL .bool 4 (w.heap.size + 2) (w3.setCell ⟨w.heap.size, 15, none⟩ (.slice a3 c.wire.length c3)) a3 c.wire.length c3 c.wire := (o3.mono l2).kept fun k hk => Below.heap_setCell _ _ _ _ (by have := (o3.ltB hk).2; dsimp only at this ⊢; omega)
       have o4y : OL bv 5 (w.heap.size + 2) (w3.setCell ⟨w.heap.size, 15, none⟩ (.slice a3 c.wire.length c3)) a1 c.give.data.length c1 c.give.data := o3y.kept fun k hk => Below.heap_setCell _ _ _ _ (by have := (o3y.ltB hk).2; dsimp only at this ⊢; omega)
       have h4t : RL .bool (w3.setCell ⟨w.heap.size, 15, none⟩ (.slice a3 c.wire.length c3)) s.ta c.tk.l.length s.tc c.tk.l := h.ti.below gg4
       have l4 : w.heap.size + 2 ≤ (w3.setCell ⟨w.heap.size, 15, none⟩ (.slice a3 c.wire.length c3)).heap.size := by rw [sz_set]; omega)
    | (go_at_call 80; (with_reducible refine (clone7_any _ _ _ _ _ h4t ht).mono ?_); rintro e w5 ⟨a5, c5, rfl, o5, g5⟩
       have hb5 := bx_below hb4 g5
       have hr5 := bx_below hr4 g5
       have gg5 := bstep gg4 g5
       have o5y := o4y.below g5
       have o5w := o4.below g5
       clear q15 q19
       have q19 : w5.cell? ⟨w.heap.size, 19, none⟩ = some (.slice s.ta c.tk.l.length s.tc) := bxC hb5 19
       have f5 := bx_thaw hb5
       have hb6 : (w5.setCell ⟨w.heap.size, 19, none⟩ (.slice a5 c.tk.l.length c5)).heap[w.heap.size]? = some (.cells (ctA c ⟨a1, c1, a3, c3, a5, c5⟩) 42 (0, 0)) := heap_setCell_same w5 _ 19 _ _ _ hb5
       have hr6 : (w5.setCell ⟨w.heap.size, 19, none⟩ (.slice a5 c.tk.l.length c5)).heap[w.heap.size + 1]? = some (.cells (ctA c0 sl0) 42 (0, 0)) := (Below.heap_setCell _ _ _ _ (by simp)).trans hr5
       have gg6 : Below w.heap.size w (w5.setCell ⟨w.heap.size, 19, none⟩ (.slice a5 c.tk.l.length c5)) := gg5.setCell (Nat.le_refl _) _
       have o6 : CtO (w.heap.size + 2) (w5.setCell ⟨w.heap.size, 19, none⟩ (.slice a5 c.tk.l.length c5)) c ⟨a1, c1, a3, c3, a5, c5⟩ := CtO.setCell (w := w5) ⟨o5y, o5w, o5.mono l4⟩ (CtO.nbs (w := w5) ⟨o5y, o5w, o5.mono l4⟩ (by omega)) _)
    | (with_reducible refine wpList_loadR rowC rfl _ rfl _ rfl hb6 rfl ?_)
    | (with_reducible refine wpList_storeR rowC rfl _ _ rfl _ _ rfl rfl hr6 rfl rfl (ct_ones _ _) ?_))
  have o7 := o6.setRow (o6.nbs (show w.heap.size + 1 < w.heap.size + 2 by omega)) (ctA c ⟨a1, c1, a3, c3, a5, c5⟩)
  exact bodyPost_ret (v := .agg (ctA c ⟨a1, c1, a3, c3, a5, c5⟩)) (results_row rowC rfl _ _ _ rfl (setRow_heap _ _ _ _ _ _ hr6) rfl) rfl ⟨_, rfl, o7.mono (by omega), below_setRow gg6 (by omega) _⟩
end Go.Proofs.YtajdbimdiodalaaGreat

namespace Go.Proofs.YtajdbimdiodalaaGreat
open Go.RowKit Go.Sort
set_option linter.unusedVariables false

section
variable (B : Nat) (w : World) (g : Nat) (c : Ct) (s : Sl) (x : Bool)

/-- What a sender drives. -/
def drW (c : Ct) : Bool := c.wire[c.pos]?.getD false

set_option maxHeartbeats 4000000 in
theorem asDriven_st (r : Ct × Hp) (hr : r = sndC c x) (hx : drW c = x) (h : StB B w g c s) (hS : SndOK c) (hT : TkOK c.tk) (hmo : moC c.cf ≤ 1) :
    Calls Tryz.prog 168 #[.pointer (some ⟨g, 0, none⟩), .bool x] w (Told B w g s r) := by
  unfold sndC at hr
  by_cases ha : c.pos + 9 = c.wire.length
  · have hxt : x = true := by rw [← hx]; exact hS.ack ha
    rw [if_pos ha, if_neg (by rw [hxt]; decide)] at hr
    exact asDriven_ack B w g c s x r hr h hS hmo ha
  · rw [if_neg ha, if_pos (show c.wire[c.pos]?.getD false = x from hx)] at hr
    by_cases hl : c.pos + 1 < c.wire.length
    · rw [if_pos hl] at hr
      exact asDriven_on B w g c s x r hr h hS hT ha hl
    · rw [if_neg hl] at hr
      exact asDriven_sent B w g c s x r hr h hS ha hl

set_option maxHeartbeats 4000000 in
theorem send_same (r : Ct × Hp) (hr : r = sndC c x) (hx : drW c = x) (h : StB B w g c s) (hS : SndOK c) (hT : TkOK c.tk) (hmo : moC c.cf ≤ 1) :
    Calls Tryz.prog 147 #[.pointer (some ⟨g, 0, none⟩), .bool x] w (Told B w g s r) := by
  have m0 := Mb.start h
  have hO := fun (w1 : World) (k : StB B w1 g c s) => onWire_any w1 c s k.wi.rl hS.pos
  change ∀ w1, StB B w1 g c s → Calls _ _ _ w1 fun e w' => e = .returned (.bool (drW c)) ∧ _ at hO
  rw [hx] at hO
  have hA := fun (w1 : World) (k : StB B w1 g c s) => asDriven_st B w1 g c s x r hr hx k hS hT hmo
  clear hr hx h hS hT hmo
  cases x
  all_goals
    go_enter Tryz.func147, Tryz.ntmps147
    go_wp2_with (first
      | (with_reducible refine wpList_loadR rowC rfl _ rfl _ rfl m0.st.box rfl ?_)
      | (go_at_call 92; (with_reducible refine (hO _ m0.st).mono ?_); rintro e w1 ⟨rfl, g1⟩; have m1 := m0.call g1)
      | (go_at_call 168; (with_reducible refine (hA _ m1.st).mono ?_); rintro e w4 ⟨s4, a4, n4, rfl, l4, o4, b4⟩; have m4 := m1.left l4; obtain ⟨p0, p1, p2, p3, p4, p5⟩ := m4.hps; have fp := m4.hpf))
    exact bodyPost_ret (v := .agg (hapA r.2 a4 n4)) (by simp [results, Tryz.results147, go_sem, p0, p1, p2, p3, p4, p5]; rfl) rfl (m1.told l4 o4 b4 _ _ _ _ _ _)

end
end Go.Proofs.YtajdbimdiodalaaGreat

namespace Go.Proofs.YtajdbimdiodalaaGreat
open Go.RowKit Go.Sort
set_option linter.unusedVariables false

section
variable (B : Nat) (w : World) (g : Nat) (c : Ct) (s : Sl) (x : Bool)

set_option maxHeartbeats 4000000 in
theorem send_rec (r : Ct × Hp) (hr : r = failC c 4) (hx : drW c = false) (h : StB B w g c s) (hS : SndOK c) (hmo : moC c.cf ≤ 1) :
    Calls Tryz.prog 147 #[.pointer (some ⟨g, 0, none⟩), .bool true] w (Told B w g s r) := by
  have m0 := Mb.start h
  have hO := fun (w1 : World) (k : StB B w1 g c s) => onWire_any w1 c s k.wi.rl hS.pos
  change ∀ w1, StB B w1 g c s → Calls _ _ _ w1 fun e w' => e = .returned (.bool (drW c)) ∧ _ at hO
  rw [hx] at hO
  have hF := fun (w1 : World) (k : StB B w1 g c s) => fail_st B w1 g c s 4 r hr k hmo
  simp only [show ((4 : Nat) : Int) = 4 from rfl] at hF
  clear hr hx h hS hmo
  go_enter Tryz.func147, Tryz.ntmps147
  go_wp2_with (first
    | (with_reducible refine wpList_loadR rowC rfl _ rfl _ rfl m0.st.box rfl ?_)
    | (go_at_call 92; (with_reducible refine (hO _ m0.st).mono ?_); rintro e w1 ⟨rfl, g1⟩; have m1 := m0.call g1)
    | (go_at_call 146; (with_reducible refine (hF _ m1.st).mono ?_); rintro e w4 ⟨s4, a4, n4, rfl, l4, o4, b4⟩; have m4 := m1.left l4; obtain ⟨p0, p1, p2, p3, p4, p5⟩ := m4.hps; have fp := m4.hpf))
  exact bodyPost_ret (v := .agg (hapA r.2 a4 n4)) (by simp [results, Tryz.results147, go_sem, p0, p1, p2, p3, p4, p5]; rfl) rfl (m1.told l4 o4 b4 _ _ _ _ _ _)

end
end Go.Proofs.YtajdbimdiodalaaGreat

namespace Go.Proofs.YtajdbimdiodalaaGreat
open Go.RowKit Go.Sort
set_option linter.unusedVariables false

section
variable (B : Nat) (w : World) (g : Nat) (c : Ct) (s : Sl) (x : Bool)

set_option maxHeartbeats 4000000 in
theorem send_ack (r : Ct × Hp) (hr : r = ({ c with tk := (nxT c.tk false).1, pos := c.pos + 1 }, noH)) (hx : drW c = true) (h : StB B w g c s) (hS : SndOK c) (hT : TkOK c.tk) (ha : c.pos + 9 = c.wire.length) :
    Calls Tryz.prog 147 #[.pointer (some ⟨g, 0, none⟩), .bool false] w (Told B w g s r) := by
  have m0 := Mb.start h
  have hO := fun (w1 : World) (k : StB B w1 g c s) => onWire_any w1 c s k.wi.rl hS.pos
  change ∀ w1, StB B w1 g c s → Calls _ _ _ w1 fun e w' => e = .returned (.bool (drW c)) ∧ _ at hO
  rw [hx] at hO
  have hK := fun (w1 : World) (k : StB B w1 g c s) => atAck_st B w1 g c s k hS.len (by have := hS.pos; have := hS.len; omega)
  rw [decide_eq_true ha] at hK
  have hU := fun (w1 : World) (k : StB B w1 g c s) => goOn_st B w1 g c s false r hr k hT (by have := hS.pos; have := hS.len; omega)
  clear hr hx h hS hT ha
  go_enter Tryz.func147, Tryz.ntmps147
  go_wp2_with (first
    | (with_reducible refine wpList_loadR rowC rfl _ rfl _ rfl m0.st.box rfl ?_)
    | (go_at_call 92; (with_reducible refine (hO _ m0.st).mono ?_); rintro e w1 ⟨rfl, g1⟩; have m1 := m0.call g1)
    | (go_at_call 169; (with_reducible refine (hK _ m1.st).mono ?_); rintro e w2 ⟨rfl, g2⟩; have m2 := m1.call g2)
    | (go_at_call 170; (with_reducible refine (hU _ m2.st).mono ?_); rintro e w4 ⟨s4, a4, n4, rfl, l4, o4, b4⟩; have m4 := m2.left l4; obtain ⟨p0, p1, p2, p3, p4, p5⟩ := m4.hps; have fp := m4.hpf))
  exact bodyPost_ret (v := .agg (hapA r.2 a4 n4)) (by simp [results, Tryz.results147, go_sem, p0, p1, p2, p3, p4, p5]; rfl) rfl (m2.told l4 o4 b4 _ _ _ _ _ _)

end
end Go.Proofs.YtajdbimdiodalaaGreat

namespace Go.Proofs.YtajdbimdiodalaaGreat
open Go.RowKit Go.Sort
set_option linter.unusedVariables false

section
variable (B : Nat) (w : World) (g : Nat) (c : Ct) (s : Sl) (x : Bool)

set_option maxHeartbeats 4000000 in
theorem send_late (r : Ct × Hp) (hr : r = failC c 4) (hx : drW c = true) (h : StB B w g c s) (hS : SndOK c) (hmo : moC c.cf ≤ 1) (ha : ¬ c.pos + 9 = c.wire.length) (hc : ¬ c.tk.l.length ≤ if c.give.ext then 32 else 12) :
    Calls Tryz.prog 147 #[.pointer (some ⟨g, 0, none⟩), .bool false] w (Told B w g s r) := by
  have m0 := Mb.start h
  have hO := fun (w1 : World) (k : StB B w1 g c s) => onWire_any w1 c s k.wi.rl hS.pos
  change ∀ w1, StB B w1 g c s → Calls _ _ _ w1 fun e w' => e = .returned (.bool (drW c)) ∧ _ at hO
  rw [hx] at hO
  have hK := fun (w1 : World) (k : StB B w1 g c s) => atAck_st B w1 g c s k hS.len (by have := hS.pos; have := hS.len; omega)
  rw [decide_eq_false ha] at hK
  have hI := fun (w1 : World) (k : StB B w1 g c s) => inContest_st B w1 g c s k
  rw [decide_eq_false hc] at hI
  have hF := fun (w1 : World) (k : StB B w1 g c s) => fail_st B w1 g c s 4 r hr k hmo
  simp only [show ((4 : Nat) : Int) = 4 from rfl] at hF
  clear hr hx h hS hmo ha hc
  go_enter Tryz.func147, Tryz.ntmps147
  go_wp2_with (first
    | (with_reducible refine wpList_loadR rowC rfl _ rfl _ rfl m0.st.box rfl ?_)
    | (go_at_call 92; (with_reducible refine (hO _ m0.st).mono ?_); rintro e w1 ⟨rfl, g1⟩; have m1 := m0.call g1)
    | (go_at_call 169; (with_reducible refine (hK _ m1.st).mono ?_); rintro e w2 ⟨rfl, g2⟩; have m2 := m1.call g2)
    | (go_at_call 171; (with_reducible refine (hI _ m2.st).mono ?_); rintro e w3 ⟨rfl, g3⟩; have m3 := m2.call g3)
    | (go_at_call 146; (with_reducible refine (hF _ m3.st).mono ?_); rintro e w4 ⟨s4, a4, n4, rfl, l4, o4, b4⟩; have m4 := m3.left l4; obtain ⟨p0, p1, p2, p3, p4, p5⟩ := m4.hps; have fp := m4.hpf))
  exact bodyPost_ret (v := .agg (hapA r.2 a4 n4)) (by simp [results, Tryz.results147, go_sem, p0, p1, p2, p3, p4, p5]; rfl) rfl (m3.told l4 o4 b4 _ _ _ _ _ _)

end
end Go.Proofs.YtajdbimdiodalaaGreat

namespace Go.Proofs.YtajdbimdiodalaaGreat
open Go.RowKit Go.Sort
set_option linter.unusedVariables false

section
variable (B : Nat) (w : World) (g : Nat) (c : Ct) (s : Sl) (x : Bool)

set_option maxHeartbeats 4000000 in
theorem send_fill (r : Ct × Hp) (hr : r = flagC c 5 0 false) (hx : drW c = true) (h : StB B w g c s) (hS : SndOK c) (hT : TkOK c.tk) (hmo : moC c.cf ≤ 1) (ha : ¬ c.pos + 9 = c.wire.length) (hc : c.tk.l.length ≤ if c.give.ext then 32 else 12) (h5 : c.tk.m = 5) :
    Calls Tryz.prog 147 #[.pointer (some ⟨g, 0, none⟩), .bool false] w (Told B w g s r) := by
  have m0 := Mb.start h
  have hO := fun (w1 : World) (k : StB B w1 g c s) => onWire_any w1 c s k.wi.rl hS.pos
  change ∀ w1, StB B w1 g c s → Calls _ _ _ w1 fun e w' => e = .returned (.bool (drW c)) ∧ _ at hO
  rw [hx] at hO
  have hK := fun (w1 : World) (k : StB B w1 g c s) => atAck_st B w1 g c s k hS.len (by have := hS.pos; have := hS.len; omega)
  rw [decide_eq_false ha] at hK
  have hI := fun (w1 : World) (k : StB B w1 g c s) => inContest_st B w1 g c s k
  rw [decide_eq_true hc] at hI
  have hW := fun (w1 : World) => owed_any w1 c.tk.b c.tk.m (by omega)
  rw [decide_eq_true h5] at hW
  have hM := fun (w1 : World) (k : StB B w1 g c s) => mode_st B w1 g c s k
  have hr2 : r = ({ newC c (if moC c.cf = 1 then 3 else 2) with err := true }, (5, zeroFr)) := by
    rw [hr]; unfold flagC cntC
    rw [if_pos (rfl : (0 : Nat) = 0), if_neg (by omega)]; rfl
  have hF : ∀ w1, StB B w1 g c s → Calls Tryz.prog 167 #[.pointer (some ⟨g, 0, none⟩), .int .u8 (moC c.cf : Int), .int .u8 5] w1 (Told B w1 g s r) := fun w1 k => by
    rw [hr2]; exact flag_st B w1 g c s (moC c.cf) 5 k hmo
  clear hr hr2 hx h hS hT hmo ha hc h5
  generalize moC c.cf = mo at *
  go_enter Tryz.func147, Tryz.ntmps147
  go_wp2_with (first
    | (with_reducible refine wpList_loadR rowC rfl _ rfl _ rfl m0.st.box rfl ?_)
    | (go_at_call 92; (with_reducible refine (hO _ m0.st).mono ?_); rintro e w1 ⟨rfl, g1⟩; have m1 := m0.call g1)
    | (go_at_call 169; (with_reducible refine (hK _ m1.st).mono ?_); rintro e w2 ⟨rfl, g2⟩; have m2 := m1.call g2)
    | (go_at_call 171; (with_reducible refine (hI _ m2.st).mono ?_); rintro e w3 ⟨rfl, g3⟩; have m3 := m2.call g3; have q17 := m3.st.q17; have q18 := m3.st.q18)
    | (go_at_call 172; (with_reducible refine (hW _).mono ?_); rintro e w5 ⟨rfl, g5⟩; have m5 := m3.call g5)
    | (go_at_call 155; (with_reducible refine (hM _ m5.st).mono ?_); rintro e w6 ⟨rfl, g6⟩; have m6 := m5.call g6)
    | (go_at_call 167; (with_reducible refine (hF _ m6.st).mono ?_); rintro e w4 ⟨s4, a4, n4, rfl, l4, o4, b4⟩; have m4 := m6.left l4; obtain ⟨p0, p1, p2, p3, p4, p5⟩ := m4.hps; have fp := m4.hpf))
  exact bodyPost_ret (v := .agg (hapA r.2 a4 n4)) (by simp [results, Tryz.results147, go_sem, p0, p1, p2, p3, p4, p5]; rfl) rfl (m6.told l4 o4 b4 _ _ _ _ _ _)

end
end Go.Proofs.YtajdbimdiodalaaGreat

namespace Go.Proofs.YtajdbimdiodalaaGreat
open Go.RowKit Go.Sort
set_option linter.unusedVariables false

section
variable {B g : Nat} {w wr w2 : World} {c c' : Ct} {s s1 s2 : Sl}
theorem Mb.lostB (h : Mb B w wr g c s s1) : Mb B w ((wr.setCell ⟨g, 14, none⟩ (.bool false)).setCell ⟨g, 15, none⟩ (.slice none 0 0)) g { c with sender := false, wire := [] } s { s1 with wa := none, wc := 0 } :=
  (h.put 14 (.bool false) { c with sender := false } rfl rfl rfl rfl).putW0
theorem Mb.lostC (h : Mb B w wr g c s s1) : Mb B w (wr.setCell ⟨g, 16, none⟩ (.int .i64 0)) g { c with pos := 0 } s s1 :=
  h.put 16 (.int .i64 0) { c with pos := 0 } rfl rfl rfl rfl
end

section
variable (B : Nat) (w : World) (g : Nat) (c : Ct) (s : Sl) (x : Bool)

set_option maxHeartbeats 1000000 in
theorem send_lost (r : Ct × Hp) (hr : r = ({ c with tk := (nxT c.tk false).1, sends := false, sender := false, wire := [], pos := 0 }, (3, zeroFr))) (hx : drW c = true) (h : StB B w g c s) (hS : SndOK c) (hT : TkOK c.tk) (ha : ¬ c.pos + 9 = c.wire.length) (hc : c.tk.l.length ≤ if c.give.ext then 32 else 12) (h5 : c.tk.m ≠ 5) :
    Calls Tryz.prog 147 #[.pointer (some ⟨g, 0, none⟩), .bool false] w (Told B w g s r) := by
  have m0 := Mb.start h
  have hB := h.hB
  have hg := h.lt
  have hO := fun (w1 : World) (k : StB B w1 g c s) => onWire_any w1 c s k.wi.rl hS.pos
  change ∀ w1, StB B w1 g c s → Calls _ _ _ w1 fun e w' => e = .returned (.bool (drW c)) ∧ _ at hO
  rw [hx] at hO
  have hK := fun (w1 : World) (k : StB B w1 g c s) => atAck_st B w1 g c s k hS.len (by have := hS.pos; have := hS.len; omega)
  rw [decide_eq_false ha] at hK
  have hI := fun (w1 : World) (k : StB B w1 g c s) => inContest_st B w1 g c s k
  rw [decide_eq_true hc] at hI
  have hW := fun (w1 : World) => owed_any w1 c.tk.b c.tk.m (by have := hT.ri.1; omega)
  rw [decide_eq_false h5] at hW
  have hN := fun (w1 : World) (h1 : RL .bool w1 s.ta c.tk.l.length s.tc c.tk.l) => read_next w1 c.tk s.ta s.tc false h1 hT
  generalize (nxT c.tk false).1 = t' at *
  generalize (nxT c.tk false).2 = q at *
  have H1 := hid (show r.1 = { { { { c with tk := t' } with sends := false } with sender := false, wire := [] } with pos := 0 } by rw [hr])
  have H2 := hid (show r.2 = (3, zeroFr) by rw [hr])
  clear hr hx h hS hT ha hc h5
  go_enter Tryz.func147, Tryz.ntmps147
  go_upto_region 13 with (first
    | (with_reducible refine wpList_loadR rowC rfl _ rfl _ rfl m0.st.box rfl ?_)
    | (go_at_call 92; (with_reducible refine (hO _ m0.st).mono ?_); rintro e w1 ⟨rfl, g1⟩; have m1 := m0.call g1)
    | (go_at_call 169; (with_reducible refine (hK _ m1.st).mono ?_); rintro e w2 ⟨rfl, g2⟩; have m2 := m1.call g2)
    | (go_at_call 171; (with_reducible refine (hI _ m2.st).mono ?_); rintro e w3 ⟨rfl, g3⟩; have m3 := m2.call g3; have q17 := m3.st.q17; have q18 := m3.st.q18)
    | (go_at_call 172; (with_reducible refine (hW _).mono ?_); rintro e w5 ⟨rfl, g5⟩; have m5 := m3.call g5; clear q17 q18; have q17 := m5.st.q17; have q18 := m5.st.q18; have q19 := m5.st.q19; have q20 := m5.st.q20; have q21 := m5.st.q21)
    | (go_at_call 165; (with_reducible refine (hN _ m5.st.ti.rl).mono ?_); rintro e w6 ⟨a6, c6, rfl, o6, g6⟩; have z5 := m5.size; have z6 := g6.size; have m6 := m5.call g6; have m7 := m6.putTk t' a6 c6 o6 (by omega) hB; have f := m6.st.fz; clear q17 q18 q19 q20 q21; have q13 := m6.st.q13; have q14 := m6.st.q14; have q15 := m6.st.q15; have q16 := m6.st.q16; have q17 := m6.st.q17; have q18 := m6.st.q18; have q19 := m6.st.q19; have q20 := m6.st.q20; have q21 := m6.st.q21))
  clear f q13 q14 q15 q16 q17 q18 q19 q20 q21 o6 g6 m6 m5 m3 m2 m1 m0 g1 g2 g3 g5 hN hW hI hK hO z5 z6
  generalize (((((w6.setCell ⟨g, 17, none⟩ (.bool t'.b)).setCell ⟨g, 18, none⟩ (.int .u8 (t'.m : Int))).setCell ⟨g, 19, none⟩ (.slice a6 t'.l.length c6)).setCell ⟨g, 20, none⟩ (.int .u8 (t'.p : Int))).setCell ⟨g, 21, none⟩ (.bool t'.fi)) = W at *
  have m8 := (((m7.put 13 (.bool false) { { c with tk := t' } with sends := false } rfl rfl rfl rfl).lostB).lostC)
  have q13 := m7.st.q13
  have q14 := m7.st.q14
  have q15 := m7.st.q15
  have q16 := m7.st.q16
  have f := m7.st.fz
  obtain ⟨p0, p1, p2, p3, p4, p5⟩ := m8.hps
  have fp := m8.hpf
  go_wp2
  exact bodyPost_ret (v := .agg (hapA (3, zeroFr) none 0)) (by simp [results, Tryz.results147, go_sem, p0, p1, p2, p3, p4, p5]; rfl) rfl (m8.six 3 H1.out H2.out _ _ _ _ _ _)

end
end Go.Proofs.YtajdbimdiodalaaGreat

namespace Go.Proofs.YtajdbimdiodalaaGreat
open Go.RowKit Go.Sort
set_option linter.unusedVariables false

section
variable (B : Nat) (w : World) (g : Nat) (c : Ct) (s : Sl) (x : Bool)

theorem send_st (r : Ct × Hp) (hr : r = sndC c x) (h : StB B w g c s) (hS : SndOK c) (hT : TkOK c.tk) (hmo : moC c.cf ≤ 1) :
    Calls Tryz.prog 147 #[.pointer (some ⟨g, 0, none⟩), .bool x] w (Told B w g s r) := by
  by_cases hx : drW c = x
  · exact send_same B w g c s x r hr hx h hS hT hmo
  · unfold sndC at hr
    by_cases ha : c.pos + 9 = c.wire.length
    · have hd : drW c = true := hS.ack ha
      obtain rfl : x = false := by cases x <;> simp_all
      rw [if_pos ha, if_pos rfl] at hr
      exact send_ack B w g c s r hr hd h hS hT ha
    · rw [if_neg ha, if_neg (show ¬ c.wire[c.pos]?.getD false = x from hx)] at hr
      cases x
      · have hd : drW c = true := by cases hd : drW c <;> simp_all
        have h1 := hS.one
        by_cases hc : c.tk.l.length ≤ if c.give.ext then 32 else 12
        · rw [if_neg (fun e => by rcases e with e | e | e; exact absurd e (by decide); omega; omega)] at hr
          by_cases h5 : c.tk.m = 5
          · rw [if_pos h5] at hr
            exact send_fill B w g c s r hr hd h hS hT hmo ha hc h5
          · rw [if_neg h5] at hr
            exact send_lost B w g c s r hr hd h hS hT ha hc h5
        · rw [if_pos (.inr (.inr (by omega)))] at hr
          exact send_late B w g c s r hr hd h hS hmo ha hc
      · have hd : drW c = false := by cases hd : drW c <;> simp_all
        rw [if_pos (.inl rfl)] at hr
        exact send_rec B w g c s r hr hd h hS hmo

set_option maxHeartbeats 4000000 in
/-- PhaseFrame. -/
theorem inFrame_st (r : Ct × Hp) (hr : r = if c.sends then sndC c x else rcvC c x) (h : StB B w g c s) (hS : c.sends = true → SndOK c) (hT : TkOK c.tk) (hmo : moC c.cf ≤ 1) :
    Calls Tryz.prog 118 #[.pointer (some ⟨g, 0, none⟩), .bool x] w (Told B w g s r) := by
  have m0 := Mb.start h
  have q13 := m0.st.q13
  cases hs : c.sends
  · rw [hs] at hr q13
    simp only [Bool.false_eq_true, if_false] at hr
    have hF := fun (w1 : World) (k : StB B w1 g c s) => read_st B w1 g c s x r hr k hT hmo
    clear hr hs h hS hT hmo
    go_enter Tryz.func118, Tryz.ntmps118
    go_wp2_with (go_at_call 148; (with_reducible refine (hF _ m0.st).mono ?_); rintro e w4 ⟨s4, a4, n4, rfl, l4, o4, b4⟩; have m4 := m0.left l4; obtain ⟨p0, p1, p2, p3, p4, p5⟩ := m4.hps; have fp := m4.hpf)
    exact bodyPost_ret (v := .agg (hapA r.2 a4 n4)) (by simp [results, Tryz.results118, go_sem, p0, p1, p2, p3, p4, p5]; rfl) rfl (m0.told l4 o4 b4 _ _ _ _ _ _)
  · have hS' := hS hs
    rw [hs] at hr q13
    simp only [if_true] at hr
    have hF := fun (w1 : World) (k : StB B w1 g c s) => send_st B w1 g c s x r hr k hS' hT hmo
    clear hr hs h hS hS' hT hmo
    go_enter Tryz.func118, Tryz.ntmps118
    go_wp2_with (go_at_call 147; (with_reducible refine (hF _ m0.st).mono ?_); rintro e w4 ⟨s4, a4, n4, rfl, l4, o4, b4⟩; have m4 := m0.left l4; obtain ⟨p0, p1, p2, p3, p4, p5⟩ := m4.hps; have fp := m4.hpf)
    exact bodyPost_ret (v := .agg (hapA r.2 a4 n4)) (by simp [results, Tryz.results118, go_sem, p0, p1, p2, p3, p4, p5]; rfl) rfl (m0.told l4 o4 b4 _ _ _ _ _ _)
end
end Go.Proofs.YtajdbimdiodalaaGreat

namespace Go.Proofs.YtajdbimdiodalaaGreat
open Go.RowKit Go.Sort
set_option linter.unusedVariables false

/-- The state behind a bit of a weak flag, as far as the bits alike go. -/
def wkN (d : Ct) (x : Bool) : Nat := if 0 < d.n ∧ d.rl = x then d.n + 1 else 1
def wkD (d : Ct) (x : Bool) : Ct := if wkN d x = 6 then newC d 5 else { d with n := wkN d x, rl := x }

theorem wkD_same (d : Ct) (x : Bool) (h : d.rl = x) : wkD d x = if ({ d with rl := x } : Ct).n + 1 = 6 then newC { d with rl := x } 5 else { ({ d with rl := x } : Ct) with n := ({ d with rl := x } : Ct).n + 1 } := by
  have hw : wkN d x = d.n + 1 := by
    unfold wkN
    by_cases h0 : 0 < d.n
    · rw [if_pos ⟨h0, h⟩]
    · rw [if_neg (fun k => h0 k.1)]; omega
  unfold wkD
  rw [hw]
  rfl

theorem wkD_other (d : Ct) (x : Bool) (h : d.rl ≠ x) : wkD d x = if ({ { d with n := 0 } with rl := x } : Ct).n + 1 = 6 then newC { { d with n := 0 } with rl := x } 5 else { ({ { d with n := 0 } with rl := x } : Ct) with n := ({ { d with n := 0 } with rl := x } : Ct).n + 1 } := by
  have hw : wkN d x = 0 + 1 := by
    unfold wkN
    rw [if_neg (fun k => h k.2)]
  unfold wkD
  rw [hw]
  rfl

set_option maxHeartbeats 4000000 in
/-- PhaseWeak. -/
theorem weak_st (B : Nat) (w : World) (g : Nat) (c : Ct) (s : Sl) (x : Bool) (r : Ct × Hp) (hr : r = weakC c x) (h : StB B w g c s) (hmo : moC c.cf ≤ 1) (hn : c.n ≤ 1000000000) :
    Calls Tryz.prog 120 #[.pointer (some ⟨g, 0, none⟩), .bool x] w (Told B w g s r) := by
  have m0 := Mb.start h
  have q25 := m0.st.q25
  have q22 := m0.st.q22
  have q1 := m0.st.q1
  have f := m0.st.fz
  by_cases ho : c.owed = true ∧ x = false
  · obtain ⟨ho, rfl⟩ := ho
    rw [ho] at q25
    have m1 := m0.put 25 (.bool false) { c with owed := false } rfl rfl rfl rfl
    by_cases hm : moC (evC c.cf 5) = 2
    · have hG : ∀ w1, StB B w1 g { c with owed := false } s → Calls Tryz.prog 149 #[.pointer (some ⟨g, 0, none⟩), .int .u8 5] w1 fun e w' => e = .returned (.bool true) ∧ Left B w1 w' g { newC { { c with owed := false } with cf := evC c.cf 5 } 9 with sender := false } s s.new := fun w1 h1 => goesOff_yes B w1 g { c with owed := false } s 5 (by omega) h1 hm
      unfold weakC at hr
      rw [if_pos ⟨ho, rfl, hm⟩] at hr
      have H1 := hid (show r.1 = { newC { { c with owed := false } with cf := evC c.cf 5 } 9 with sender := false } by rw [hr]; rfl)
      have H2 := hid (show r.2 = (10, zeroFr) by rw [hr]; rfl)
      clear hm h hr hmo hn ho
      go_enter Tryz.func120, Tryz.ntmps120
      go_wp2_with (go_at_call 149; (with_reducible refine (hG _ m1.st).mono ?_); rintro e w3 ⟨rfl, l3⟩; have m3 := m1.left l3; obtain ⟨p0, p1, p2, p3, p4, p5⟩ := m3.hps; have fp := m3.hpf)
      exact bodyPost_ret (v := .agg (hapA (10, zeroFr) none 0)) (by simp [results, Tryz.results120, go_sem, p0, p1, p2, p3, p4, p5]; rfl) rfl (m3.six 10 H1.out H2.out _ _ _ _ _ _)
    · have hG : ∀ w1, StB B w1 g { c with owed := false } s → Calls Tryz.prog 149 #[.pointer (some ⟨g, 0, none⟩), .int .u8 5] w1 fun e w' => e = .returned (.bool false) ∧ Left B w1 w' g { { c with owed := false } with cf := evC c.cf 5 } s s := fun w1 h1 => goesOff_no B w1 g { c with owed := false } s 5 (by omega) h1 hm
      unfold weakC at hr
      rw [if_neg (fun k => hm k.2.2)] at hr
      obtain ⟨d, hd⟩ : ∃ d, d = ({ { c with owed := false } with cf := evC c.cf 5 } : Ct) := ⟨_, rfl⟩
      have hr1 : r.1 = wkD d false := by rw [hr, hd]; simp [ho, wkD, wkN]
      have H2 := hid (show r.2 = (0, zeroFr) by rw [hr]; rfl)
      have hdn : d.n ≤ 1000000000 := by rw [hd]; exact hn
      simp only [← hd] at hG
      clear hd hm h hr hmo hn ho
      cases hrl : d.rl
      · have hO : ∀ w1, StB B w1 g { d with rl := false } s → Calls Tryz.prog 151 #[.pointer (some ⟨g, 0, none⟩), .int .i64 6, .int .u8 5] w1 fun e w' => e = .returned (.tuple #[]) ∧ ∃ s', Left B w1 w' g r.1 s s' := fun w1 k => oneMore_any B w1 g { d with rl := false } s 6 5 r.1 (by rw [hr1, wkD_same d false hrl]) k hdn
        have HL := hid hrl
        clear hr1 hrl hdn
        go_enter Tryz.func120, Tryz.ntmps120
        go_wp2_with (first
          | (go_at_call 149; (with_reducible refine (hG _ m1.st).mono ?_); rintro e w3 ⟨rfl, l3⟩; have m3 := m1.left l3; have m4 := m3.put 22 (.bool false) { d with rl := false } rfl rfl rfl rfl; clear q22 q1 f; have q22 := m3.st.q22; rw [HL.out] at q22; have f := m3.st.fz)
          | (go_at_call 151; (with_reducible refine (hO _ m4.st).mono ?_); rintro e w5 ⟨rfl, s5, l5⟩; have m5 := m4.left l5; obtain ⟨p0, p1, p2, p3, p4, p5⟩ := m5.hps; have fp := m5.hpf))
        exact bodyPost_ret (v := .agg (hapA (0, zeroFr) none 0)) (by simp [results, Tryz.results120, go_sem, p0, p1, p2, p3, p4, p5]; rfl) rfl (m5.six 0 rfl H2.out _ _ _ _ _ _)
      · have hO : ∀ w1, StB B w1 g { { d with n := 0 } with rl := false } s → Calls Tryz.prog 151 #[.pointer (some ⟨g, 0, none⟩), .int .i64 6, .int .u8 5] w1 fun e w' => e = .returned (.tuple #[]) ∧ ∃ s', Left B w1 w' g r.1 s s' := fun w1 k => oneMore_any B w1 g { { d with n := 0 } with rl := false } s 6 5 r.1 (by rw [hr1, wkD_other d false (by rw [hrl]; decide)]) k (by simp)
        have HL := hid hrl
        clear hr1 hrl hdn
        go_enter Tryz.func120, Tryz.ntmps120
        go_wp2_with (first
          | (go_at_call 149; (with_reducible refine (hG _ m1.st).mono ?_); rintro e w3 ⟨rfl, l3⟩; have m3 := m1.left l3; have m4 := (m3.put 1 (.int .i64 0) { d with n := 0 } rfl rfl rfl rfl).put 22 (.bool false) { { d with n := 0 } with rl := false } rfl rfl rfl rfl; clear q22 q1 f; have q22 := m3.st.q22; have q1 := m3.st.q1; rw [HL.out] at q22; have f := m3.st.fz)
          | (go_at_call 151; (with_reducible refine (hO _ m4.st).mono ?_); rintro e w5 ⟨rfl, s5, l5⟩; have m5 := m4.left l5; obtain ⟨p0, p1, p2, p3, p4, p5⟩ := m5.hps; have fp := m5.hpf))
        exact bodyPost_ret (v := .agg (hapA (0, zeroFr) none 0)) (by simp [results, Tryz.results120, go_sem, p0, p1, p2, p3, p4, p5]; rfl) rfl (m5.six 0 rfl H2.out _ _ _ _ _ _)
  · have hr' : r = (wkD c x, (0, zeroFr)) := by
      rw [hr]; unfold weakC
      rw [if_neg (fun k => ho ⟨k.1, k.2.1⟩)]
      have : (c.owed && !x) = false := by cases h1 : c.owed <;> cases x <;> simp_all
      simp only [this]
      unfold wkD wkN noH
      simp only [Bool.false_eq_true, if_false]
      
    clear hr
    have H2 := hid (show r.2 = (0, zeroFr) by rw [hr'])
    have hr1 : r.1 = wkD c x := by rw [hr']
    have hT : x = true ∨ c.owed = false := by cases x <;> cases h1 : c.owed <;> simp_all
    clear hr' ho hmo
    by_cases hrl : c.rl = x
    · have hO : ∀ w1, StB B w1 g { c with rl := x } s → Calls Tryz.prog 151 #[.pointer (some ⟨g, 0, none⟩), .int .i64 6, .int .u8 5] w1 fun e w' => e = .returned (.tuple #[]) ∧ ∃ s', Left B w1 w' g r.1 s s' := fun w1 k => oneMore_any B w1 g { c with rl := x } s 6 5 r.1 (by rw [hr1, wkD_same c x hrl]) k hn
      rw [hrl] at q22
      have m1 := m0.put 22 (.bool x) { c with rl := x } rfl rfl rfl rfl
      clear hrl hr1 h hn
      cases x
      · rcases hT with hT | hT
        · cases hT
        rw [hT] at q25
        clear hT
        go_enter Tryz.func120, Tryz.ntmps120
        go_wp2_with (go_at_call 151; (with_reducible refine (hO _ m1.st).mono ?_); rintro e w5 ⟨rfl, s5, l5⟩; have m5 := m1.left l5; obtain ⟨p0, p1, p2, p3, p4, p5⟩ := m5.hps; have fp := m5.hpf)
        exact bodyPost_ret (v := .agg (hapA (0, zeroFr) none 0)) (by simp [results, Tryz.results120, go_sem, p0, p1, p2, p3, p4, p5]; rfl) rfl (m5.six 0 rfl H2.out _ _ _ _ _ _)
      · clear hT
        go_enter Tryz.func120, Tryz.ntmps120
        go_wp2_with (go_at_call 151; (with_reducible refine (hO _ m1.st).mono ?_); rintro e w5 ⟨rfl, s5, l5⟩; have m5 := m1.left l5; obtain ⟨p0, p1, p2, p3, p4, p5⟩ := m5.hps; have fp := m5.hpf)
        exact bodyPost_ret (v := .agg (hapA (0, zeroFr) none 0)) (by simp [results, Tryz.results120, go_sem, p0, p1, p2, p3, p4, p5]; rfl) rfl (m5.six 0 rfl H2.out _ _ _ _ _ _)
    · have hO : ∀ w1, StB B w1 g { { c with n := 0 } with rl := x } s → Calls Tryz.prog 151 #[.pointer (some ⟨g, 0, none⟩), .int .i64 6, .int .u8 5] w1 fun e w' => e = .returned (.tuple #[]) ∧ ∃ s', Left B w1 w' g r.1 s s' := fun w1 k => oneMore_any B w1 g { { c with n := 0 } with rl := x } s 6 5 r.1 (by rw [hr1, wkD_other c x hrl]) k (by simp)
      have m1 := (m0.put 1 (.int .i64 0) { c with n := 0 } rfl rfl rfl rfl).put 22 (.bool x) { { c with n := 0 } with rl := x } rfl rfl rfl rfl
      have hx : c.rl = !x := by cases h1 : c.rl <;> cases x <;> simp_all
      rw [hx] at q22
      clear hrl hr1 h hn hx
      cases x
      · rcases hT with hT | hT
        · cases hT
        rw [hT] at q25
        clear hT
        simp only [Bool.not_false] at q22
        go_enter Tryz.func120, Tryz.ntmps120
        go_wp2_with (go_at_call 151; (with_reducible refine (hO _ m1.st).mono ?_); rintro e w5 ⟨rfl, s5, l5⟩; have m5 := m1.left l5; obtain ⟨p0, p1, p2, p3, p4, p5⟩ := m5.hps; have fp := m5.hpf)
        exact bodyPost_ret (v := .agg (hapA (0, zeroFr) none 0)) (by simp [results, Tryz.results120, go_sem, p0, p1, p2, p3, p4, p5]; rfl) rfl (m5.six 0 rfl H2.out _ _ _ _ _ _)
      · clear hT
        simp only [Bool.not_true] at q22
        go_enter Tryz.func120, Tryz.ntmps120
        go_wp2_with (go_at_call 151; (with_reducible refine (hO _ m1.st).mono ?_); rintro e w5 ⟨rfl, s5, l5⟩; have m5 := m1.left l5; obtain ⟨p0, p1, p2, p3, p4, p5⟩ := m5.hps; have fp := m5.hpf)
        exact bodyPost_ret (v := .agg (hapA (0, zeroFr) none 0)) (by simp [results, Tryz.results120, go_sem, p0, p1, p2, p3, p4, p5]; rfl) rfl (m5.six 0 rfl H2.out _ _ _ _ _ _)
end Go.Proofs.YtajdbimdiodalaaGreat

namespace Go.Proofs.YtajdbimdiodalaaGreat
open Go.RowKit Go.Sort
set_option linter.unusedVariables false

theorem wait_none {c : Ct} (h : waitE c = 0) : waitC c false = ({ c with n := c.n + 1 }, noH) := by
  unfold waitC
  rw [h, if_neg (by decide), if_neg (fun k => k.2 rfl)]
  rfl

set_option maxHeartbeats 4000000 in
/-- PhaseWait. -/
theorem wait_st (B : Nat) (w : World) (g : Nat) (c : Ct) (s : Sl) (x : Bool) (r : Ct × Hp) (hr : r = waitC c x) (h : StB B w g c s) (hmo : moC c.cf ≤ 1) (hn : c.n ≤ 1000000000) :
    Calls Tryz.prog 121 #[.pointer (some ⟨g, 0, none⟩), .bool x] w (Told B w g s r) := by
  have m0 := Mb.start h
  cases x
  · have q1 := m0.st.q1
    have q24 := m0.st.q24
    have q14 := m0.st.q14
    have f := m0.st.fz
    by_cases h0 : c.n = 0
    · have m1 := m0.put 1 (.int .i64 1) { c with n := c.n + 1 } (by rw [h0]; rfl) rfl rfl rfl
      rw [show (c.n : Int) = 0 by omega] at q1
      by_cases h1 : c.err = true ∧ c.sender = false
      · obtain ⟨h2, h3⟩ := h1
        have hC : ∀ w1, StB B w1 g { c with n := c.n + 1 } s → Calls Tryz.prog 153 #[.pointer (some ⟨g, 0, none⟩), .int .u8 2] w1 fun e w' => e = .returned (.tuple #[]) ∧ Left B w1 w' g { { c with n := c.n + 1 } with cf := evC c.cf 2 } s s := fun w1 k => count_st B w1 g { c with n := c.n + 1 } s 2 (by omega) k
        have hE : waitE c = 2 := by unfold waitE; rw [if_pos ⟨by omega, h2, h3⟩]
        have H1 := hid (show r.1 = { { c with n := c.n + 1 } with cf := evC c.cf 2 } by
          rw [hr]; unfold waitC; rw [hE, if_neg (by decide), if_neg (fun k => mo_first hmo k.1)]; rfl)
        have H2 := hid (show r.2 = (0, zeroFr) by rw [hr]; unfold waitC; rw [hE, if_neg (by decide), if_neg (fun k => mo_first hmo k.1)]; rfl)
        have H0 := hid (show ((c.n + 1 : Nat) : Int) = 1 by omega)
        rw [h2] at q24
        rw [h3] at q14
        clear hr h hmo h2 h3 hE h0 hn
        go_enter Tryz.func121, Tryz.ntmps121
        go_wp2_with (go_at_call 153; (with_reducible refine (hC _ m1.st).mono ?_); rintro e w2 ⟨rfl, l2⟩; have m2 := m1.left l2; clear q1; have q1 : w2.cell? ⟨g, 1, none⟩ = some (.int .i64 1) := (by rw [← H0.out]; exact m2.st.q1); obtain ⟨p0, p1, p2, p3, p4, p5⟩ := m2.hps; have fp := m2.hpf)
        exact bodyPost_ret (v := .agg (hapA (0, zeroFr) none 0)) (by simp [results, Tryz.results121, go_sem, p0, p1, p2, p3, p4, p5]; rfl) rfl (m2.six 0 H1.out H2.out _ _ _ _ _ _)
      · have hE : waitE c = 0 := by unfold waitE; rw [if_neg (fun k => h1 k.2), if_neg (by omega)]
        have H1 := hid (show r.1 = { c with n := c.n + 1 } by rw [hr, wait_none hE])
        have H2 := hid (show r.2 = (0, zeroFr) by rw [hr, wait_none hE]; rfl)
        obtain ⟨p0, p1, p2, p3, p4, p5⟩ := m1.hps
        have fp := m1.hpf
        cases h2 : c.err
        · rw [h2] at q24
          clear hr h hmo hE h0 hn h1 h2
          go_enter Tryz.func121, Tryz.ntmps121
          go_wp2
          exact bodyPost_ret (v := .agg (hapA (0, zeroFr) none 0)) (by simp [results, Tryz.results121, go_sem, p0, p1, p2, p3, p4, p5]; rfl) rfl (m1.six 0 H1.out H2.out _ _ _ _ _ _)
        · have h3 : c.sender = true := by cases h3 : c.sender <;> simp_all
          rw [h2] at q24
          rw [h3] at q14
          clear hr h hmo hE h0 hn h1 h2 h3
          go_enter Tryz.func121, Tryz.ntmps121
          go_wp2
          exact bodyPost_ret (v := .agg (hapA (0, zeroFr) none 0)) (by simp [results, Tryz.results121, go_sem, p0, p1, p2, p3, p4, p5]; rfl) rfl (m1.six 0 H1.out H2.out _ _ _ _ _ _)
    · have m1 := m0.put 1 (.int .i64 ((c.n : Int) + 1)) { c with n := c.n + 1 } rfl rfl rfl rfl
      have i0 : ¬ (c.n : Int) = 0 := by omega
      by_cases h8 : (c.n + 1) % 8 = 0
      · obtain ⟨k, hk⟩ : ∃ k, k = if c.sender then 7 else 4 := ⟨_, rfl⟩
        have hE : waitE c = k := by unfold waitE; rw [if_neg (fun k => by omega), if_pos h8, hk]
        have hI : ∀ w1, StB B w1 g { c with n := c.n + 1 } s → Calls Tryz.prog 150 #[.pointer (some ⟨g, 0, none⟩), .int .u8 7, .int .u8 4] w1 fun e w' => e = .returned (.int .u8 (k : Int)) ∧ Below w1.heap.size w1 w' := fun w1 h1 => by rw [hk]; exact either_any B w1 g { c with n := c.n + 1 } s 7 4 h1
        have hkb : k = 7 ∨ k = 4 := by rw [hk]; split <;> simp
        have i8 : ((c.n : Int) + 1) % 8 = 0 := by omega
        clear hk
        have hc : cntC c k = { c with cf := evC c.cf k } := by unfold cntC; rw [if_neg (by omega)]
        by_cases hm : moC (evC c.cf k) = 2
        · have hG := fun (w1 : World) (h1 : StB B w1 g { c with n := c.n + 1 } s) => goesOff_yes B w1 g { c with n := c.n + 1 } s k (by omega) h1 hm
          have hR : waitC c false = offC { c with cf := evC c.cf k } := by unfold waitC; rw [hE, hc, if_neg (by decide), if_pos ⟨hm, by omega⟩]
          have H1 := hid (show r.1 = { newC { { c with n := c.n + 1 } with cf := evC c.cf k } 9 with sender := false } by rw [hr, hR]; rfl)
          have H2 := hid (show r.2 = (10, zeroFr) by rw [hr, hR]; rfl)
          clear hr h hmo hE h0 hR hc hkb hm h8
          go_enter Tryz.func121, Tryz.ntmps121
          go_wp2_with (first
            | (go_at_call 150; (with_reducible refine (hI _ m1.st).mono ?_); rintro e w2 ⟨rfl, g2⟩; have m2 := m1.call g2)
            | (go_at_call 149; (with_reducible refine (hG _ m2.st).mono ?_); rintro e w3 ⟨rfl, l3⟩; have m3 := m2.left l3; obtain ⟨p0, p1, p2, p3, p4, p5⟩ := m3.hps; have fp := m3.hpf))
          exact bodyPost_ret (v := .agg (hapA (10, zeroFr) none 0)) (by simp [results, Tryz.results121, go_sem, p0, p1, p2, p3, p4, p5]; rfl) rfl (m3.six 10 H1.out H2.out _ _ _ _ _ _)
        · have hG := fun (w1 : World) (h1 : StB B w1 g { c with n := c.n + 1 } s) => goesOff_no B w1 g { c with n := c.n + 1 } s k (by omega) h1 hm
          have hR : waitC c false = ({ { c with cf := evC c.cf k } with n := c.n + 1 }, noH) := by unfold waitC; rw [hE, hc, if_neg (by decide), if_neg (fun k => hm k.1)]
          have H1 := hid (show r.1 = { { c with n := c.n + 1 } with cf := evC c.cf k } by rw [hr, hR])
          have H2 := hid (show r.2 = (0, zeroFr) by rw [hr, hR]; rfl)
          clear hr h hmo hE h0 hR hc hkb hm h8
          go_enter Tryz.func121, Tryz.ntmps121
          go_wp2_with (first
            | (go_at_call 150; (with_reducible refine (hI _ m1.st).mono ?_); rintro e w2 ⟨rfl, g2⟩; have m2 := m1.call g2)
            | (go_at_call 149; (with_reducible refine (hG _ m2.st).mono ?_); rintro e w3 ⟨rfl, l3⟩; have m3 := m2.left l3; obtain ⟨p0, p1, p2, p3, p4, p5⟩ := m3.hps; have fp := m3.hpf))
          exact bodyPost_ret (v := .agg (hapA (0, zeroFr) none 0)) (by simp [results, Tryz.results121, go_sem, p0, p1, p2, p3, p4, p5]; rfl) rfl (m3.six 0 H1.out H2.out _ _ _ _ _ _)
      · have hE : waitE c = 0 := by unfold waitE; rw [if_neg (fun k => by omega), if_neg h8]
        have H1 := hid (show r.1 = { c with n := c.n + 1 } by rw [hr, wait_none hE])
        have H2 := hid (show r.2 = (0, zeroFr) by rw [hr, wait_none hE]; rfl)
        have i8 : ¬ ((c.n : Int) + 1) % 8 = 0 := by omega
        obtain ⟨p0, p1, p2, p3, p4, p5⟩ := m1.hps
        have fp := m1.hpf
        clear hr h hmo hE h0 h8
        go_enter Tryz.func121, Tryz.ntmps121
        go_wp2
        exact bodyPost_ret (v := .agg (hapA (0, zeroFr) none 0)) (by simp [results, Tryz.results121, go_sem, p0, p1, p2, p3, p4, p5]; rfl) rfl (m1.six 0 H1.out H2.out _ _ _ _ _ _)
  · have hE : ∀ w1, StB B w1 g c s → Calls Tryz.prog 152 #[.pointer (some ⟨g, 0, none⟩), .int .u8 6] w1 fun e w' => e = .returned (.tuple #[]) ∧ Left B w1 w' g (newC c 6) s s.new := fun w1 k => enter_any B w1 g c s 6 k
    have H1 := hid (show r.1 = { newC c 6 with n := 1 } by rw [hr]; rfl)
    have H2 := hid (show r.2 = (0, zeroFr) by rw [hr]; rfl)
    clear hr h hmo hn
    go_enter Tryz.func121, Tryz.ntmps121
    go_wp2_with (go_at_call 152; (with_reducible refine (hE _ m0.st).mono ?_); rintro e w2 ⟨rfl, l2⟩; have m2 := m0.left l2; have m3 := m2.put 1 (.int .i64 1) { newC c 6 with n := 1 } rfl rfl rfl rfl; have q1 := m2.st.q1; have f := m2.st.fz; obtain ⟨p0, p1, p2, p3, p4, p5⟩ := m3.hps; have fp := m3.hpf)
    exact bodyPost_ret (v := .agg (hapA (0, zeroFr) none 0)) (by simp [results, Tryz.results121, go_sem, p0, p1, p2, p3, p4, p5]; rfl) rfl (m3.six 0 H1.out H2.out _ _ _ _ _ _)


end Go.Proofs.YtajdbimdiodalaaGreat

namespace Go.Proofs.YtajdbimdiodalaaGreat
open Go.RowKit Go.Sort
set_option linter.unusedVariables false

set_option maxHeartbeats 2000000 in
theorem between_true_z_false_any (B : Nat) (w : World) (g : Nat) (c : Ct) (s : Sl) (r : Ct × Hp) (hr : r = interC c true) (h : StB B w g c s) (hsd : c.sender = false) (hn : c.n ≤ 1000000000) (hg : c.has = true → Good c.give) :
    Calls Tryz.prog 123 #[.pointer (some ⟨g, 0, none⟩), .bool true] w (Told B w g s r) := by
  have m0 := Mb.start h
  have hH : holdC c = false := by unfold holdC; rw [hsd]; simp
  have q14 := m0.st.q14
  rw [hsd] at q14
  have q7 := m0.st.q7
  have q1 := m0.st.q1
  have hO' : ∀ w1, StB B w1 g c s → Calls Tryz.prog 151 #[.pointer (some ⟨g, 0, none⟩), .int .i64 3, .int .u8 0] w1 fun e w' => e = .returned (.tuple #[]) ∧ ∃ s', Left B w1 w' g r.1 s s' := fun w1 k => oneMore_any B w1 g c s 3 0 r.1 (by rw [hr]; unfold interC; rw [if_pos rfl, hH]; rfl) k hn
  have HZ := hid (show r.2 = (0, zeroFr) by rw [hr]; rfl)
  clear hH hr hsd h hg
  go_enter Tryz.func123, Tryz.ntmps123
  go_wp2_with (first
    | (go_at_call 151; (with_reducible refine (hO' _ m0.st).mono ?_); rintro e w2 ⟨rfl, s2, l2⟩; have m2 := m0.left l2; obtain ⟨p0, p1, p2, p3, p4, p5⟩ := m2.hps; have fp := m2.hpf)
    | (go_at_call 154; (with_reducible refine (hV' _ m0.st).mono ?_); rintro e w4 ⟨s4, a4, n4, rfl, l4, o4, b4⟩; have m4 := m0.left l4; obtain ⟨p0, p1, p2, p3, p4, p5⟩ := m4.hps; have fp := m4.hpf)
    | (go_at_call 145; (with_reducible refine (hG' _ m0.st).mono ?_); rintro e w2 ⟨rfl, s2, l2⟩; have m2 := m0.left l2; obtain ⟨p0, p1, p2, p3, p4, p5⟩ := m2.hps; have fp := m2.hpf))
  exact bodyPost_ret (v := .agg (hapA (0, zeroFr) none 0)) (by simp [results, Tryz.results123, go_sem, p0, p1, p2, p3, p4, p5]; rfl) rfl (m2.six 0 rfl HZ.out _ _ _ _ _ _)

set_option maxHeartbeats 2000000 in
theorem between_true_z_true_false (B : Nat) (w : World) (g : Nat) (c : Ct) (s : Sl) (r : Ct × Hp) (hr : r = interC c true) (h : StB B w g c s) (hsd : c.sender = true) (hmo : moC c.cf ≠ 1) (hn : c.n ≤ 1000000000) (hg : c.has = true → Good c.give) :
    Calls Tryz.prog 123 #[.pointer (some ⟨g, 0, none⟩), .bool true] w (Told B w g s r) := by
  have m0 := Mb.start h
  have hH : holdC c = false := by unfold holdC; rw [hsd]; simp [hmo]
  have q14 := m0.st.q14
  rw [hsd] at q14
  have q7 := m0.st.q7
  have q1 := m0.st.q1
  have hM' := mode_st B _ g c s m0.st
  have hmq : ¬ (moC c.cf : Int) = 1 := by omega
  generalize moC c.cf = md at hM' hmq
  have hO' : ∀ w1, StB B w1 g c s → Calls Tryz.prog 151 #[.pointer (some ⟨g, 0, none⟩), .int .i64 3, .int .u8 0] w1 fun e w' => e = .returned (.tuple #[]) ∧ ∃ s', Left B w1 w' g r.1 s s' := fun w1 k => oneMore_any B w1 g c s 3 0 r.1 (by rw [hr]; unfold interC; rw [if_pos rfl, hH]; rfl) k hn
  have HZ := hid (show r.2 = (0, zeroFr) by rw [hr]; rfl)
  clear hH hr hsd h hg hmo
  go_enter Tryz.func123, Tryz.ntmps123
  go_wp2_with (first
    | (go_at_call 155; (with_reducible refine hM'.mono ?_); rintro e w1 ⟨rfl, g1⟩; have m1 := m0.call g1; clear q7 q1; have q7 := m1.st.q7; have q1 := m1.st.q1)
    | (go_at_call 151; (with_reducible refine (hO' _ m1.st).mono ?_); rintro e w2 ⟨rfl, s2, l2⟩; have m2 := m1.left l2; obtain ⟨p0, p1, p2, p3, p4, p5⟩ := m2.hps; have fp := m2.hpf)
    | (go_at_call 154; (with_reducible refine (hV' _ m1.st).mono ?_); rintro e w4 ⟨s4, a4, n4, rfl, l4, o4, b4⟩; have m4 := m1.left l4; obtain ⟨p0, p1, p2, p3, p4, p5⟩ := m4.hps; have fp := m4.hpf)
    | (go_at_call 145; (with_reducible refine (hG' _ m1.st).mono ?_); rintro e w2 ⟨rfl, s2, l2⟩; have m2 := m1.left l2; obtain ⟨p0, p1, p2, p3, p4, p5⟩ := m2.hps; have fp := m2.hpf))
  exact bodyPost_ret (v := .agg (hapA (0, zeroFr) none 0)) (by simp [results, Tryz.results123, go_sem, p0, p1, p2, p3, p4, p5]; rfl) rfl (m2.six 0 rfl HZ.out _ _ _ _ _ _)

set_option maxHeartbeats 2000000 in
theorem between_true_z_true_true (B : Nat) (w : World) (g : Nat) (c : Ct) (s : Sl) (r : Ct × Hp) (hr : r = interC c true) (h : StB B w g c s) (hsd : c.sender = true) (hmo : moC c.cf = 1) (hn : c.n ≤ 1000000000) (hg : c.has = true → Good c.give) :
    Calls Tryz.prog 123 #[.pointer (some ⟨g, 0, none⟩), .bool true] w (Told B w g s r) := by
  have m0 := Mb.start h
  have hH : holdC c = true := by unfold holdC; rw [hsd]; simp [hmo]
  have q14 := m0.st.q14
  rw [hsd] at q14
  have q7 := m0.st.q7
  have q1 := m0.st.q1
  have hM' := mode_st B _ g c s m0.st
  rw [hmo] at hM'
  have hO' : ∀ w1, StB B w1 g c s → Calls Tryz.prog 151 #[.pointer (some ⟨g, 0, none⟩), .int .i64 3, .int .u8 8] w1 fun e w' => e = .returned (.tuple #[]) ∧ ∃ s', Left B w1 w' g r.1 s s' := fun w1 k => oneMore_any B w1 g c s 3 8 r.1 (by rw [hr]; unfold interC; rw [if_pos rfl, hH]; rfl) k hn
  have HZ := hid (show r.2 = (0, zeroFr) by rw [hr]; rfl)
  clear hH hr hsd h hg hmo
  go_enter Tryz.func123, Tryz.ntmps123
  go_wp2_with (first
    | (go_at_call 155; (with_reducible refine hM'.mono ?_); rintro e w1 ⟨rfl, g1⟩; have m1 := m0.call g1; clear q7 q1; have q7 := m1.st.q7; have q1 := m1.st.q1)
    | (go_at_call 151; (with_reducible refine (hO' _ m1.st).mono ?_); rintro e w2 ⟨rfl, s2, l2⟩; have m2 := m1.left l2; obtain ⟨p0, p1, p2, p3, p4, p5⟩ := m2.hps; have fp := m2.hpf)
    | (go_at_call 154; (with_reducible refine (hV' _ m1.st).mono ?_); rintro e w4 ⟨s4, a4, n4, rfl, l4, o4, b4⟩; have m4 := m1.left l4; obtain ⟨p0, p1, p2, p3, p4, p5⟩ := m4.hps; have fp := m4.hpf)
    | (go_at_call 145; (with_reducible refine (hG' _ m1.st).mono ?_); rintro e w2 ⟨rfl, s2, l2⟩; have m2 := m1.left l2; obtain ⟨p0, p1, p2, p3, p4, p5⟩ := m2.hps; have fp := m2.hpf))
  exact bodyPost_ret (v := .agg (hapA (0, zeroFr) none 0)) (by simp [results, Tryz.results123, go_sem, p0, p1, p2, p3, p4, p5]; rfl) rfl (m2.six 0 rfl HZ.out _ _ _ _ _ _)

set_option maxHeartbeats 2000000 in
theorem between_false_l_false_any (B : Nat) (w : World) (g : Nat) (c : Ct) (s : Sl) (r : Ct × Hp) (hr : r = interC c false) (h : StB B w g c s) (hsd : c.sender = false) (hn2 : c.n < 2) (hn : c.n ≤ 1000000000) (hg : c.has = true → Good c.give) :
    Calls Tryz.prog 123 #[.pointer (some ⟨g, 0, none⟩), .bool false] w (Told B w g s r) := by
  have m0 := Mb.start h
  have hH : holdC c = false := by unfold holdC; rw [hsd]; simp
  have q14 := m0.st.q14
  rw [hsd] at q14
  have q7 := m0.st.q7
  have q1 := m0.st.q1
  have hV' : ∀ w1, StB B w1 g c s → Calls Tryz.prog 154 #[.pointer (some ⟨g, 0, none⟩)] w1 (Told B w1 g s r) := fun w1 k => by
    have : r = overC c := by rw [hr]; unfold interC; rw [if_neg (by decide), if_pos (by omega)]
    rw [this]; exact overload_st B w1 g c s k
  have i2 : (c.n : Int) < 2 := by omega
  clear hH hr hsd h hg hn2
  go_enter Tryz.func123, Tryz.ntmps123
  go_wp2_with (first
    | (go_at_call 151; (with_reducible refine (hO' _ m0.st).mono ?_); rintro e w2 ⟨rfl, s2, l2⟩; have m2 := m0.left l2; obtain ⟨p0, p1, p2, p3, p4, p5⟩ := m2.hps; have fp := m2.hpf)
    | (go_at_call 154; (with_reducible refine (hV' _ m0.st).mono ?_); rintro e w4 ⟨s4, a4, n4, rfl, l4, o4, b4⟩; have m4 := m0.left l4; obtain ⟨p0, p1, p2, p3, p4, p5⟩ := m4.hps; have fp := m4.hpf)
    | (go_at_call 145; (with_reducible refine (hG' _ m0.st).mono ?_); rintro e w2 ⟨rfl, s2, l2⟩; have m2 := m0.left l2; obtain ⟨p0, p1, p2, p3, p4, p5⟩ := m2.hps; have fp := m2.hpf))
  exact bodyPost_ret (v := .agg (hapA r.2 a4 n4)) (by simp [results, Tryz.results123, go_sem, p0, p1, p2, p3, p4, p5]; rfl) rfl (m0.told l4 o4 b4 _ _ _ _ _ _)

set_option maxHeartbeats 2000000 in
theorem between_false_l_true_false (B : Nat) (w : World) (g : Nat) (c : Ct) (s : Sl) (r : Ct × Hp) (hr : r = interC c false) (h : StB B w g c s) (hsd : c.sender = true) (hn2 : c.n < 2) (hmo : moC c.cf ≠ 1) (hn : c.n ≤ 1000000000) (hg : c.has = true → Good c.give) :
    Calls Tryz.prog 123 #[.pointer (some ⟨g, 0, none⟩), .bool false] w (Told B w g s r) := by
  have m0 := Mb.start h
  have hH : holdC c = false := by unfold holdC; rw [hsd]; simp [hmo]
  have q14 := m0.st.q14
  rw [hsd] at q14
  have q7 := m0.st.q7
  have q1 := m0.st.q1
  have hM' := mode_st B _ g c s m0.st
  have hmq : ¬ (moC c.cf : Int) = 1 := by omega
  generalize moC c.cf = md at hM' hmq
  have hV' : ∀ w1, StB B w1 g c s → Calls Tryz.prog 154 #[.pointer (some ⟨g, 0, none⟩)] w1 (Told B w1 g s r) := fun w1 k => by
    have : r = overC c := by rw [hr]; unfold interC; rw [if_neg (by decide), if_pos (by omega)]
    rw [this]; exact overload_st B w1 g c s k
  have i2 : (c.n : Int) < 2 := by omega
  clear hH hr hsd h hg hn2 hmo
  go_enter Tryz.func123, Tryz.ntmps123
  go_wp2_with (first
    | (go_at_call 155; (with_reducible refine hM'.mono ?_); rintro e w1 ⟨rfl, g1⟩; have m1 := m0.call g1; clear q7 q1; have q7 := m1.st.q7; have q1 := m1.st.q1)
    | (go_at_call 151; (with_reducible refine (hO' _ m1.st).mono ?_); rintro e w2 ⟨rfl, s2, l2⟩; have m2 := m1.left l2; obtain ⟨p0, p1, p2, p3, p4, p5⟩ := m2.hps; have fp := m2.hpf)
    | (go_at_call 154; (with_reducible refine (hV' _ m1.st).mono ?_); rintro e w4 ⟨s4, a4, n4, rfl, l4, o4, b4⟩; have m4 := m1.left l4; obtain ⟨p0, p1, p2, p3, p4, p5⟩ := m4.hps; have fp := m4.hpf)
    | (go_at_call 145; (with_reducible refine (hG' _ m1.st).mono ?_); rintro e w2 ⟨rfl, s2, l2⟩; have m2 := m1.left l2; obtain ⟨p0, p1, p2, p3, p4, p5⟩ := m2.hps; have fp := m2.hpf))
  exact bodyPost_ret (v := .agg (hapA r.2 a4 n4)) (by simp [results, Tryz.results123, go_sem, p0, p1, p2, p3, p4, p5]; rfl) rfl (m1.told l4 o4 b4 _ _ _ _ _ _)

set_option maxHeartbeats 2000000 in
theorem between_false_l_true_true (B : Nat) (w : World) (g : Nat) (c : Ct) (s : Sl) (r : Ct × Hp) (hr : r = interC c false) (h : StB B w g c s) (hsd : c.sender = true) (hn2 : c.n < 2) (hmo : moC c.cf = 1) (hn : c.n ≤ 1000000000) (hg : c.has = true → Good c.give) :
    Calls Tryz.prog 123 #[.pointer (some ⟨g, 0, none⟩), .bool false] w (Told B w g s r) := by
  have m0 := Mb.start h
  have hH : holdC c = true := by unfold holdC; rw [hsd]; simp [hmo]
  have q14 := m0.st.q14
  rw [hsd] at q14
  have q7 := m0.st.q7
  have q1 := m0.st.q1
  have hM' := mode_st B _ g c s m0.st
  rw [hmo] at hM'
  have hV' : ∀ w1, StB B w1 g c s → Calls Tryz.prog 154 #[.pointer (some ⟨g, 0, none⟩)] w1 (Told B w1 g s r) := fun w1 k => by
    have : r = overC c := by rw [hr]; unfold interC; rw [if_neg (by decide), if_pos (by omega)]
    rw [this]; exact overload_st B w1 g c s k
  have i2 : (c.n : Int) < 2 := by omega
  clear hH hr hsd h hg hn2 hmo
  go_enter Tryz.func123, Tryz.ntmps123
  go_wp2_with (first
    | (go_at_call 155; (with_reducible refine hM'.mono ?_); rintro e w1 ⟨rfl, g1⟩; have m1 := m0.call g1; clear q7 q1; have q7 := m1.st.q7; have q1 := m1.st.q1)
    | (go_at_call 151; (with_reducible refine (hO' _ m1.st).mono ?_); rintro e w2 ⟨rfl, s2, l2⟩; have m2 := m1.left l2; obtain ⟨p0, p1, p2, p3, p4, p5⟩ := m2.hps; have fp := m2.hpf)
    | (go_at_call 154; (with_reducible refine (hV' _ m1.st).mono ?_); rintro e w4 ⟨s4, a4, n4, rfl, l4, o4, b4⟩; have m4 := m1.left l4; obtain ⟨p0, p1, p2, p3, p4, p5⟩ := m4.hps; have fp := m4.hpf)
    | (go_at_call 145; (with_reducible refine (hG' _ m1.st).mono ?_); rintro e w2 ⟨rfl, s2, l2⟩; have m2 := m1.left l2; obtain ⟨p0, p1, p2, p3, p4, p5⟩ := m2.hps; have fp := m2.hpf))
  exact bodyPost_ret (v := .agg (hapA r.2 a4 n4)) (by simp [results, Tryz.results123, go_sem, p0, p1, p2, p3, p4, p5]; rfl) rfl (m1.told l4 o4 b4 _ _ _ _ _ _)

set_option maxHeartbeats 2000000 in
theorem between_false_g_false_any (B : Nat) (w : World) (g : Nat) (c : Ct) (s : Sl) (r : Ct × Hp) (hr : r = interC c false) (h : StB B w g c s) (hsd : c.sender = false) (hn2 : ¬ c.n < 2) (hn : c.n ≤ 1000000000) (hg : c.has = true → Good c.give) :
    Calls Tryz.prog 123 #[.pointer (some ⟨g, 0, none⟩), .bool false] w (Told B w g s r) := by
  have m0 := Mb.start h
  have hH : holdC c = false := by unfold holdC; rw [hsd]; simp
  have q14 := m0.st.q14
  rw [hsd] at q14
  have q7 := m0.st.q7
  have q1 := m0.st.q1
  have hr1 : r = (begC c c.has, noH) := by rw [hr]; unfold interC; rw [if_neg (by decide), if_neg (by omega), hH]; simp
  have hG' : ∀ w1, StB B w1 g c s → Calls Tryz.prog 145 #[.pointer (some ⟨g, 0, none⟩), .bool c.has] w1 fun e w' => e = .returned (.tuple #[]) ∧ ∃ s', Left B w1 w' g r.1 s s' := fun w1 k => by
    rw [hr1]; exact begin_any B w1 g c s _ k hg
  have HZ := hid (show r.2 = (0, zeroFr) by rw [hr1]; rfl)
  have i2 : ¬ (c.n : Int) < 2 := by omega
  cases hh : c.has
  all_goals
    rw [hh] at q7 hG'
    have HH := hid hh
    clear hH hr hsd h hg hr1 hn2 hh
    go_enter Tryz.func123, Tryz.ntmps123
    go_wp2_with (first
      | (go_at_call 151; (with_reducible refine (hO' _ m0.st).mono ?_); rintro e w2 ⟨rfl, s2, l2⟩; have m2 := m0.left l2; obtain ⟨p0, p1, p2, p3, p4, p5⟩ := m2.hps; have fp := m2.hpf)
      | (go_at_call 154; (with_reducible refine (hV' _ m0.st).mono ?_); rintro e w4 ⟨s4, a4, n4, rfl, l4, o4, b4⟩; have m4 := m0.left l4; obtain ⟨p0, p1, p2, p3, p4, p5⟩ := m4.hps; have fp := m4.hpf)
      | (go_at_call 145; (with_reducible refine (hG' _ m0.st).mono ?_); rintro e w2 ⟨rfl, s2, l2⟩; have m2 := m0.left l2; obtain ⟨p0, p1, p2, p3, p4, p5⟩ := m2.hps; have fp := m2.hpf))
    exact bodyPost_ret (v := .agg (hapA (0, zeroFr) none 0)) (by simp [results, Tryz.results123, go_sem, p0, p1, p2, p3, p4, p5]; rfl) rfl (m2.six 0 rfl HZ.out _ _ _ _ _ _)

set_option maxHeartbeats 2000000 in
theorem between_false_g_true_false (B : Nat) (w : World) (g : Nat) (c : Ct) (s : Sl) (r : Ct × Hp) (hr : r = interC c false) (h : StB B w g c s) (hsd : c.sender = true) (hn2 : ¬ c.n < 2) (hmo : moC c.cf ≠ 1) (hn : c.n ≤ 1000000000) (hg : c.has = true → Good c.give) :
    Calls Tryz.prog 123 #[.pointer (some ⟨g, 0, none⟩), .bool false] w (Told B w g s r) := by
  have m0 := Mb.start h
  have hH : holdC c = false := by unfold holdC; rw [hsd]; simp [hmo]
  have q14 := m0.st.q14
  rw [hsd] at q14
  have q7 := m0.st.q7
  have q1 := m0.st.q1
  have hM' := mode_st B _ g c s m0.st
  have hmq : ¬ (moC c.cf : Int) = 1 := by omega
  generalize moC c.cf = md at hM' hmq
  have hr1 : r = (begC c c.has, noH) := by rw [hr]; unfold interC; rw [if_neg (by decide), if_neg (by omega), hH]; simp
  have hG' : ∀ w1, StB B w1 g c s → Calls Tryz.prog 145 #[.pointer (some ⟨g, 0, none⟩), .bool c.has] w1 fun e w' => e = .returned (.tuple #[]) ∧ ∃ s', Left B w1 w' g r.1 s s' := fun w1 k => by
    rw [hr1]; exact begin_any B w1 g c s _ k hg
  have HZ := hid (show r.2 = (0, zeroFr) by rw [hr1]; rfl)
  have i2 : ¬ (c.n : Int) < 2 := by omega
  cases hh : c.has
  all_goals
    rw [hh] at q7 hG'
    have HH := hid hh
    clear hH hr hsd h hg hr1 hn2 hmo hh
    go_enter Tryz.func123, Tryz.ntmps123
    go_wp2_with (first
      | (go_at_call 155; (with_reducible refine hM'.mono ?_); rintro e w1 ⟨rfl, g1⟩; have m1 := m0.call g1; clear q7 q1; have q7 := (by have k := m1.st.q7; rw [HH.out] at k; exact k); have q1 := m1.st.q1)
      | (go_at_call 151; (with_reducible refine (hO' _ m1.st).mono ?_); rintro e w2 ⟨rfl, s2, l2⟩; have m2 := m1.left l2; obtain ⟨p0, p1, p2, p3, p4, p5⟩ := m2.hps; have fp := m2.hpf)
      | (go_at_call 154; (with_reducible refine (hV' _ m1.st).mono ?_); rintro e w4 ⟨s4, a4, n4, rfl, l4, o4, b4⟩; have m4 := m1.left l4; obtain ⟨p0, p1, p2, p3, p4, p5⟩ := m4.hps; have fp := m4.hpf)
      | (go_at_call 145; (with_reducible refine (hG' _ m1.st).mono ?_); rintro e w2 ⟨rfl, s2, l2⟩; have m2 := m1.left l2; obtain ⟨p0, p1, p2, p3, p4, p5⟩ := m2.hps; have fp := m2.hpf))
    exact bodyPost_ret (v := .agg (hapA (0, zeroFr) none 0)) (by simp [results, Tryz.results123, go_sem, p0, p1, p2, p3, p4, p5]; rfl) rfl (m2.six 0 rfl HZ.out _ _ _ _ _ _)

set_option maxHeartbeats 2000000 in
theorem between_false_g_true_true (B : Nat) (w : World) (g : Nat) (c : Ct) (s : Sl) (r : Ct × Hp) (hr : r = interC c false) (h : StB B w g c s) (hsd : c.sender = true) (hn2 : ¬ c.n < 2) (hmo : moC c.cf = 1) (hn : c.n ≤ 1000000000) (hg : c.has = true → Good c.give) :
    Calls Tryz.prog 123 #[.pointer (some ⟨g, 0, none⟩), .bool false] w (Told B w g s r) := by
  have m0 := Mb.start h
  have hH : holdC c = true := by unfold holdC; rw [hsd]; simp [hmo]
  have q14 := m0.st.q14
  rw [hsd] at q14
  have q7 := m0.st.q7
  have q1 := m0.st.q1
  have hM' := mode_st B _ g c s m0.st
  rw [hmo] at hM'
  have hr1 : r = (begC c false, noH) := by rw [hr]; unfold interC; rw [if_neg (by decide), if_neg (by omega), hH]; simp
  have hG' : ∀ w1, StB B w1 g c s → Calls Tryz.prog 145 #[.pointer (some ⟨g, 0, none⟩), .bool false] w1 fun e w' => e = .returned (.tuple #[]) ∧ ∃ s', Left B w1 w' g r.1 s s' := fun w1 k => by
    rw [hr1]; exact begin_any B w1 g c s _ k (fun e => by cases e)
  have HZ := hid (show r.2 = (0, zeroFr) by rw [hr1]; rfl)
  have i2 : ¬ (c.n : Int) < 2 := by omega
  clear hH hr hsd h hg hr1 hn2 hmo
  go_enter Tryz.func123, Tryz.ntmps123
  go_wp2_with (first
    | (go_at_call 155; (with_reducible refine hM'.mono ?_); rintro e w1 ⟨rfl, g1⟩; have m1 := m0.call g1; clear q7 q1; have q7 := m1.st.q7; have q1 := m1.st.q1)
    | (go_at_call 151; (with_reducible refine (hO' _ m1.st).mono ?_); rintro e w2 ⟨rfl, s2, l2⟩; have m2 := m1.left l2; obtain ⟨p0, p1, p2, p3, p4, p5⟩ := m2.hps; have fp := m2.hpf)
    | (go_at_call 154; (with_reducible refine (hV' _ m1.st).mono ?_); rintro e w4 ⟨s4, a4, n4, rfl, l4, o4, b4⟩; have m4 := m1.left l4; obtain ⟨p0, p1, p2, p3, p4, p5⟩ := m4.hps; have fp := m4.hpf)
    | (go_at_call 145; (with_reducible refine (hG' _ m1.st).mono ?_); rintro e w2 ⟨rfl, s2, l2⟩; have m2 := m1.left l2; obtain ⟨p0, p1, p2, p3, p4, p5⟩ := m2.hps; have fp := m2.hpf))
  all_goals exact bodyPost_ret (v := .agg (hapA (0, zeroFr) none 0)) (by simp [results, Tryz.results123, go_sem, p0, p1, p2, p3, p4, p5]; rfl) rfl (m2.six 0 rfl HZ.out _ _ _ _ _ _)

/-- PhaseInter. -/
theorem between_st (B : Nat) (w : World) (g : Nat) (c : Ct) (s : Sl) (x : Bool) (r : Ct × Hp) (hr : r = interC c x) (h : StB B w g c s) (hn : c.n ≤ 1000000000) (hg : c.has = true → Good c.give) :
    Calls Tryz.prog 123 #[.pointer (some ⟨g, 0, none⟩), .bool x] w (Told B w g s r) := by
  cases x
  · by_cases hn2 : c.n < 2
    · cases hs : c.sender
      · exact between_false_l_false_any B w g c s r hr h hs hn2 hn hg
      · by_cases hmo : moC c.cf = 1
        · exact between_false_l_true_true B w g c s r hr h hs hn2 hmo hn hg
        · exact between_false_l_true_false B w g c s r hr h hs hn2 hmo hn hg
    · cases hs : c.sender
      · exact between_false_g_false_any B w g c s r hr h hs hn2 hn hg
      · by_cases hmo : moC c.cf = 1
        · exact between_false_g_true_true B w g c s r hr h hs hn2 hmo hn hg
        · exact between_false_g_true_false B w g c s r hr h hs hn2 hmo hn hg
  · cases hs : c.sender
    · exact between_true_z_false_any B w g c s r hr h hs hn hg
    · by_cases hmo : moC c.cf = 1
      · exact between_true_z_true_true B w g c s r hr h hs hmo hn hg
      · exact between_true_z_true_false B w g c s r hr h hs hmo hn hg
end Go.Proofs.YtajdbimdiodalaaGreat

namespace Go.Proofs.YtajdbimdiodalaaGreat
open Go.RowKit Go.Sort
set_option linter.unusedVariables false

/-- What is done with a bit, by phases. -/
def doC : Array Value := #[.func (.func 117) #[] #[], .func (.func 118) #[] #[], .func (.func 119) #[] #[], .func (.func 120) #[] #[],
  .func (.func 119) #[] #[], .func (.func 121) #[] #[], .func (.func 122) #[] #[], .func (.func 123) #[] #[], .func (.func 124) #[] #[], .func (.func 125) #[] #[]]

theorem rowD : RowT Tryz.prog 168 10 := rowT_of (by kernel_rfl) (by kernel_rfl)

theorem doings_any (w : World) : Calls Tryz.prog 88 #[] w fun e w' => e = .returned (.agg doC) ∧ Below w.heap.size w w' := by
  go_enter Tryz.func88, Tryz.ntmps88
  go_wp2
  exact bodyPost_ret (v := .agg doC) (results_row rowD rfl _ _ _ rfl (heap_alloc_new w (.cells doC 168)) rfl) rfl ⟨rfl, bnew0 w _⟩

/-- What Step asks of a controller. -/
structure StepOK (c : Ct) : Prop where
  ph : c.ph < 10
  n : c.n ≤ 1000000000
  mo : c.ph ≠ 9 → moC c.cf ≤ 1
  gv : c.has = true → Good c.give
  dl : c.give.data.length ≤ 1000000
  wl : c.wire.length ≤ 1000000
  tl : c.tk.l.length ≤ 1000000
  tk : c.ph = 1 → TkOK c.tk
  sn : c.ph = 1 → c.sends = true → SndOK c
  dn : c.ph = 6 → c.n < 8

theorem lead8 (c : Ct) (x : Bool) (hok : StepOK c) : ∃ F, doC[c.ph]? = some (.func (.func F) #[] #[]) ∧ plainFn F = true ∧ ∀ (B : Nat) (w : World) (g : Nat) (s : Sl), StB B w g c s →
    Calls Tryz.prog F #[.pointer (some ⟨g, 0, none⟩), .bool x] w (Told B w g s (stC c x)) := by
  have hph := hok.ph
  have hcase : c.ph = 0 ∨ c.ph = 1 ∨ c.ph = 2 ∨ c.ph = 3 ∨ c.ph = 4 ∨ c.ph = 5 ∨ c.ph = 6 ∨ c.ph = 7 ∨ c.ph = 8 ∨ c.ph = 9 := by omega
  rcases hcase with e | e | e | e | e | e | e | e | e | e
  · exact ⟨_, by rw [e]; rfl, by kernel_rfl, fun B w g s h => idle_st B w g c s x _ (by unfold stC; rw [if_pos e]) h (hok.mo (by omega)) hok.gv⟩
  · exact ⟨_, by rw [e]; rfl, by kernel_rfl, fun B w g s h => inFrame_st B w g c s x _ (by unfold stC; rw [if_neg (by omega), if_pos e]) h (hok.sn e) (hok.tk e) (hok.mo (by omega))⟩
  · exact ⟨_, by rw [e]; rfl, by kernel_rfl, fun B w g s h => inFlag_st B w g c s x _ (by unfold stC; rw [if_neg (by omega), if_neg (by omega), if_pos (by omega)]) h (hok.mo (by omega)) hok.n⟩
  · exact ⟨_, by rw [e]; rfl, by kernel_rfl, fun B w g s h => weak_st B w g c s x _ (by unfold stC; rw [if_neg (by omega), if_neg (by omega), if_neg (by omega), if_pos e]) h (hok.mo (by omega)) hok.n⟩
  · exact ⟨_, by rw [e]; rfl, by kernel_rfl, fun B w g s h => inFlag_st B w g c s x _ (by unfold stC; rw [if_neg (by omega), if_neg (by omega), if_pos (by omega)]) h (hok.mo (by omega)) hok.n⟩
  · exact ⟨_, by rw [e]; rfl, by kernel_rfl, fun B w g s h => wait_st B w g c s x _ (by unfold stC; rw [if_neg (by omega), if_neg (by omega), if_neg (by omega), if_neg (by omega), if_pos e]) h (hok.mo (by omega)) hok.n⟩
  · exact ⟨_, by rw [e]; rfl, by kernel_rfl, fun B w g s h => delimit_st B w g c s x _ (by unfold stC; rw [if_neg (by omega), if_neg (by omega), if_neg (by omega), if_neg (by omega), if_neg (by omega), if_pos e]) h (hok.mo (by omega)) (hok.dn e)⟩
  · exact ⟨_, by rw [e]; rfl, by kernel_rfl, fun B w g s h => between_st B w g c s x _ (by unfold stC; rw [if_neg (by omega), if_neg (by omega), if_neg (by omega), if_neg (by omega), if_neg (by omega), if_neg (by omega), if_pos e]) h hok.n hok.gv⟩
  · exact ⟨_, by rw [e]; rfl, by kernel_rfl, fun B w g s h => hold_st B w g c s x _ (by unfold stC; rw [if_neg (by omega), if_neg (by omega), if_neg (by omega), if_neg (by omega), if_neg (by omega), if_neg (by omega), if_neg (by omega), if_pos e]) h hok.n⟩
  · exact ⟨_, by rw [e]; rfl, by kernel_rfl, fun B w g s h => away_st B w g c s x _ (by unfold stC; rw [if_neg (by omega), if_neg (by omega), if_neg (by omega), if_neg (by omega), if_neg (by omega), if_neg (by omega), if_neg (by omega), if_neg (by omega)]) h⟩
end Go.Proofs.YtajdbimdiodalaaGreat

namespace Go.Proofs.YtajdbimdiodalaaGreat
open Go.RowKit Go.Sort
set_option linter.unusedVariables false

theorem CtO.fresh {B : Nat} {w : World} {c : Ct} {s : Sl} (h : CtO B w c s) {k : Nat} (hk : w.heap.size ≤ k) : NBs s k :=
  ⟨fun q hq e => by have := (h.da.ltB hq).1; omega, fun q hq e => by have := (h.wi.ltB hq).1; omega, fun q hq e => by have := (h.ti.ltB hq).1; omega⟩

/-- The cells of a controller that is zero. -/
abbrev ctZ : Array Value := #[.int .u8 0, .int .i64 0, .int .i64 0, .int .i64 0, .bool false, .int .i64 0, .int .i64 0, .bool false, .int .u32 0, .bool false, .bool false, .int .u8 0, .slice none 0 0, .bool false, .bool false, .slice none 0 0, .int .i64 0, .bool false, .int .u8 0, .slice none 0 0, .int .u8 0, .bool false, .bool false, .int .u8 0, .bool false, .bool false]
set_option maxRecDepth 100000 in
set_option maxHeartbeats 2000000 in
theorem step_any (w : World) (c : Ct) (s : Sl) (x : Bool) (h : CtR w c s) (hok : StepOK c) :
    Calls Tryz.prog 59 #[.agg (ctA c s), .bool x] w fun e w' => ∃ s' a n, e = .returned (.tuple #[.agg (ctA (stC c x).1 s'), .agg (hapA (stC c x).2 a n)]) ∧ CtO w.heap.size w' (stC c x).1 s' ∧
      OL bv 5 w.heap.size w' a (stC c x).2.2.data.length n (stC c x).2.2.data ∧ Below w.heap.size w w' := by
  obtain ⟨F, hF, hpl, hL⟩ := lead8 c x hok
  have hcf := fun args w => call_plain hpl args w
  clear hpl
  have hdo : ∀ w, Calls Tryz.prog 88 #[] w fun e w' => e = .returned (.agg #[.func (.func 117) #[] #[], .func (.func 118) #[] #[], .func (.func 119) #[] #[], .func (.func 120) #[] #[], .func (.func 119) #[] #[], .func (.func 121) #[] #[], .func (.func 122) #[] #[], .func (.func 123) #[] #[], .func (.func 124) #[] #[], .func (.func 125) #[] #[]]) ∧ Below w.heap.size w w' := doings_any
  have hph := hok.ph
  have hA : ∀ w1, CtR w1 c s → Calls Tryz.prog 52 #[.agg (ctA c s)] w1 fun e w' => ∃ s', e = .returned (.agg #[.int .u8 (c.ph : Int), .int .i64 (c.n : Int), .int .i64 c.cf.t, .int .i64 c.cf.r, .bool c.cf.o, .int .i64 c.cf.n, .int .i64 c.cf.m, .bool c.has, .int .u32 (c.give.id : Int), .bool c.give.ext, .bool c.give.rem, .int .u8 (c.give.dlc : Int), .slice s'.da c.give.data.length s'.dc, .bool c.sends, .bool c.sender, .slice s'.wa c.wire.length s'.wc, .int .i64 (c.pos : Int), .bool c.tk.b, .int .u8 (c.tk.m : Int), .slice s'.ta c.tk.l.length s'.tc, .int .u8 (c.tk.p : Int), .bool c.tk.fi, .bool c.rl, .int .u8 (c.rm : Int), .bool c.err, .bool c.owed]) ∧ CtO w1.heap.size w' c s' ∧ Below w1.heap.size w1 w' :=
    fun (w1 : World) (k : CtR w1 c s) => apart_any w1 c s k hok.dl hok.wl hok.tl
  generalize stC c x = r at *
  obtain ⟨p, hp⟩ : ∃ p, p = c.ph := ⟨_, rfl⟩
  have q0 : (ctA c s)[0]? = some (.int .u8 (p : Int)) := by rw [hp]; rfl
  rw [← hp] at hF hph
  replace hF : ([.func (.func 117) #[] #[], .func (.func 118) #[] #[], .func (.func 119) #[] #[], .func (.func 120) #[] #[], .func (.func 119) #[] #[], .func (.func 121) #[] #[], .func (.func 122) #[] #[], .func (.func 123) #[] #[], .func (.func 124) #[] #[], .func (.func 125) #[] #[]] : List Value)[p]? = some (.func (.func F) #[] #[]) := by rw [← hF]; unfold doC; simp
  clear hp
  have hF2 : ∀ hh : p < ([.func (.func 117) #[] #[], .func (.func 118) #[] #[], .func (.func 119) #[] #[], .func (.func 120) #[] #[], .func (.func 119) #[] #[], .func (.func 121) #[] #[], .func (.func 122) #[] #[], .func (.func 123) #[] #[], .func (.func 124) #[] #[], .func (.func 125) #[] #[]] : List Value).length, ([.func (.func 117) #[] #[], .func (.func 118) #[] #[], .func (.func 119) #[] #[], .func (.func 120) #[] #[], .func (.func 119) #[] #[], .func (.func 121) #[] #[], .func (.func 122) #[] #[], .func (.func 123) #[] #[], .func (.func 124) #[] #[], .func (.func 125) #[] #[]] : List Value)[p]'hh = .func (.func F) #[] #[] := fun hh => by rw [List.getElem?_eq_getElem hh] at hF; exact Option.some.inj hF
  have i1 : ¬ (10 : Int) ≤ (p : Int) := by omega
  have i2 : (p : Int) < 10 := by omega
  have hb0 := bx_alloc (.cells hap0 127) (bx_alloc (.cells ctZ 42) (heap_alloc_new w (.cells (ctA c s) 42)))
  have g0 : Below w.heap.size w (((w.alloc (.cells (ctA c s) 42)).alloc (.cells ctZ 42)).alloc (.cells hap0 127)) := bnew (bnew (bnew0 w _) _) _
  have z0 : (((w.alloc (.cells (ctA c s) 42)).alloc (.cells ctZ 42)).alloc (.cells hap0 127)).heap.size = w.heap.size + 3 := by simp
  have hr0 : (((w.alloc (.cells (ctA c s) 42)).alloc (.cells ctZ 42)).alloc (.cells hap0 127)).heap[w.heap.size + 1]? = some (.cells ctZ 42 (0, 0)) := by
    refine bx_alloc _ ?_
    have := heap_alloc_new (w.alloc (.cells (ctA c s) 42)) (.cells ctZ 42); rwa [heap_size_alloc] at this
  have hh0 : (((w.alloc (.cells (ctA c s) 42)).alloc (.cells ctZ 42)).alloc (.cells hap0 127)).heap[w.heap.size + 2]? = some (.cells hap0 127 (0, 0)) := by
    have := heap_alloc_new ((w.alloc (.cells (ctA c s) 42)).alloc (.cells ctZ 42)) (.cells hap0 127); rwa [heap_size_alloc, heap_size_alloc] at this
  have h0 := h.below g0
  clear hok
  go_enter Tryz.func59, Tryz.ntmps59
  go_upto_region 6 with (first
    | (with_reducible refine wpList_loadR rowC rfl _ rfl _ rfl hb0 rfl ?_)
    | (go_at_call 52; refine (hA _ h0).mono ?_; rintro e w1 ⟨s1, rfl, o1, g1⟩
       have hb1 := bx_below hb0 g1
       have hr1 := bx_below hr0 g1
       have hh1 := bx_below hh0 g1
       have gg1 := bstep g0 g1
       have z1 := g1.size
       have hz := heap_alloc_new w1 (.cells ctZ 166))
    | (with_reducible refine wpList_storeR rowS rfl _ _ rfl _ _ rfl rfl hz rfl rfl (by kernel_rfl) ?_)
    | (go_at_call 88
       have hn1 : w.heap.size ≠ w1.heap.size ∧ w.heap.size + 1 ≠ w1.heap.size ∧ w.heap.size + 2 ≠ w1.heap.size := by omega
       have hb2 := (setRow_other (w1.alloc (.cells ctZ 166)) w1.heap.size w.heap.size (ctA c s1) hn1.1).trans (bx_alloc _ hb1)
       have hr2 := (setRow_other (w1.alloc (.cells ctZ 166)) w1.heap.size (w.heap.size + 1) (ctA c s1) hn1.2.1).trans (bx_alloc _ hr1)
       have hh2 := (setRow_other (w1.alloc (.cells ctZ 166)) w1.heap.size (w.heap.size + 2) (ctA c s1) hn1.2.2).trans (bx_alloc _ hh1)
       have st2 : StB (w.heap.size + 3) ((w1.alloc (.cells ctZ 166)).setRow w1.heap.size (ctA c s1)) w1.heap.size c s1 := by
         have k := ((o1.alloc (.cells ctZ 166)).setRow (o1.fresh (Nat.le_refl _)) (ctA c s1)).mono (show w.heap.size + 3 ≤ _ by omega)
         exact ⟨setRow_heap _ _ _ _ _ _ hz, by omega, k.da, k.wi, k.ti, o1.fresh (Nat.le_refl _)⟩
       have gg2 : Below w.heap.size w ((w1.alloc (.cells ctZ 166)).setRow w1.heap.size (ctA c s1)) := below_setRow (bnew gg1 _) (by omega) _
       refine (hdo _).mono ?_
       rintro e w3 ⟨rfl, g3⟩
       have hb3 := bx_below hb2 g3
       have hr3 := bx_below hr2 g3
       have hh3 := bx_below hh2 g3
       have st3 := st2.below g3
       have gg3 := bstep gg2 g3
       have z3 := g3.size
       have z2 : ((w1.alloc (.cells ctZ 166)).setRow w1.heap.size (ctA c s1)).heap.size = w1.heap.size + 1 := by simp
       have q3 : (w3.alloc (.cells #[.func (.func 117) #[] #[], .func (.func 118) #[] #[], .func (.func 119) #[] #[], .func (.func 120) #[] #[], .func (.func 119) #[] #[], .func (.func 121) #[] #[], .func (.func 122) #[] #[], .func (.func 123) #[] #[], .func (.func 124) #[] #[], .func (.func 125) #[] #[]] 168)).cell? ⟨w.heap.size, 0, none⟩ = some (.int .u8 (p : Int)) := by rw [bxC (bx_alloc _ hb3) 0]; exact q0)
    | ((with_reducible refine (hL _ _ _ _ (st3.alloc _)).mono ?_); rintro e w4 ⟨s4, a4, n4, rfl, l4, o4, b4⟩))
  have l3 := st3.lt
  have e2 : ∀ (q : Nat) (o : Obj), q < w1.heap.size → w4.heap[q]? = w3.heap[q]? := fun q o hq => by
    rw [l4.wr.block q (by rw [heap_size_alloc]; omega) (by omega)]; exact (bnew0 w3 _).block q (by omega)
  have gl := l4.wr.size
  rw [heap_size_alloc] at gl
  have gg4 : Below w.heap.size w w4 := (l4.wr.below (bnew gg3 _) (by omega) (by rw [heap_size_alloc]; omega))
  have st5 := l4.st.alloc (.cells (hapA r.2 a4 n4) 127)
  have o5 := o4.alloc (.cells (hapA r.2 a4 n4) 127)
  have hx5 := heap_alloc_new w4 (.cells (hapA r.2 a4 n4) 127)
  have hr5 := bx_alloc (.cells (hapA r.2 a4 n4) 127) ((e2 (w.heap.size + 1) default (by omega)).trans hr3)
  have hh5 := bx_alloc (.cells (hapA r.2 a4 n4) 127) ((e2 (w.heap.size + 2) default (by omega)).trans hh3)
  have gg5 : Below w.heap.size w (w4.alloc (.cells (hapA r.2 a4 n4) 127)) := bnew gg4 _
  change Code.wp _ _ _ _ (w4.alloc (.cells (hapA r.2 a4 n4) 127))
  generalize w4.alloc (.cells (hapA r.2 a4 n4) 127) = W at *
  obtain ⟨b0, b1, b2⟩ : w.heap.size + 1 < w1.heap.size ∧ w.heap.size + 2 < w1.heap.size ∧ w.heap.size + 1 ≠ w4.heap.size := by omega
  have bW := st5.lt
  have hW1 : (W.drew.setRow (w.heap.size + 1) (ctA r.1 s4)).heap[w4.heap.size]? = some (.cells (hapA r.2 a4 n4) 127 (0, 0)) := (setRow_other _ _ _ _ (by omega)).trans hx5
  have hW2 : (W.drew.setRow (w.heap.size + 1) (ctA r.1 s4)).heap[w.heap.size + 2]? = some (.cells hap0 127 (0, 0)) := (setRow_other _ _ _ _ (by omega)).trans hh5
  have hW3 : (W.drew.setRow (w.heap.size + 1) (ctA r.1 s4)).heap[w.heap.size + 1]? = some (.cells (ctA r.1 s4) 42 (0, 0)) := setRow_heap _ _ _ _ _ _ hr5
  have hW4 := (setRow_other (W.drew.setRow (w.heap.size + 1) (ctA r.1 s4)) (w.heap.size + 2) (w.heap.size + 1) (hapA r.2 a4 n4) (by omega)).trans hW3
  have hW5 : ((W.drew.setRow (w.heap.size + 1) (ctA r.1 s4)).setRow (w.heap.size + 2) (hapA r.2 a4 n4)).heap[w.heap.size + 2]? = some (.cells (hapA r.2 a4 n4) 127 (0, 0)) := setRow_heap _ _ _ _ _ _ hW2
  have gW : Below w.heap.size w ((W.drew.setRow (w.heap.size + 1) (ctA r.1 s4)).setRow (w.heap.size + 2) (hapA r.2 a4 n4)) :=
    below_setRow (below_setRow (gg5.trans ((below_drewN (Below.refl _ W) 1).mono gg5.size)) (by omega) _) (by omega) _
  have oC : CtO (w.heap.size + 3) ((W.drew.setRow (w.heap.size + 1) (ctA r.1 s4)).setRow (w.heap.size + 2) (hapA r.2 a4 n4)) r.1 s4 :=
    CtO.setRow (CtO.setRow (w := W.drew) ⟨st5.da, st5.wi, st5.ti⟩ (st5.o.nbs (by omega)) _) (st5.o.nbs (by omega)) _
  have oD : OL bv 5 (w.heap.size + 3) ((W.drew.setRow (w.heap.size + 1) (ctA r.1 s4)).setRow (w.heap.size + 2) (hapA r.2 a4 n4)) a4 r.2.2.data.length n4 r.2.2.data :=
    (OL.kept (w' := W.drew.setRow (w.heap.size + 1) (ctA r.1 s4)) o5 fun q hq => setRow_other W.drew _ _ _ (by have := (o5.ltB hq).2; dsimp only at this; omega)).kept fun q hq => setRow_other _ _ _ _ (by have := (o5.ltB hq).2; dsimp only at this; omega)
  refine wp_region_any (by kernel_rfl) ?_
  change wpAny _ _ _ _ _ _ _ W.drew
  refine wpAny_take (i := 0) (v := .pointer (some ⟨w1.heap.size, 0, none⟩)) rfl (by kernel_rfl) (by kernel_rfl) (by kernel_rfl) (fun _ _ _ h => h) (Or.inl ⟨by rfl, ?_⟩) ?_
  · intro w; go_simp
  refine wpAny_ready (rs := [1, 2]) (by kernel_rfl) (by simp) ?_
  refine AllReady.cons rfl (fun K hK => ?_) (AllReady.cons rfl (fun K hK => ?_) AllReady.nil)
  · refine draw_loadR rowC rfl _ rfl w1.heap.size rfl (w := W.drew) st5.box rfl ?_
    refine hK _ _ ?_; clear hK K
    refine wpAny_ready (rs := [2, 3]) (by kernel_rfl) (by simp) ?_
    refine AllReady.cons rfl (fun K hK => ?_) (AllReady.cons rfl (fun K hK => ?_) AllReady.nil)
    · refine draw_loadR rowH rfl _ rfl w4.heap.size rfl (w := W.drew) hx5 rfl ?_
      refine hK _ _ ?_; clear hK K
      refine wpAny_ready (rs := [3]) (by kernel_rfl) (by simp) ?_
      refine AllReady.cons rfl (fun K hK => ?_) AllReady.nil
      refine draw_storeR rowC rfl _ _ rfl (w.heap.size + 1) _ rfl rfl (w := W.drew) hr5 rfl rfl (ct_ones _ _) ?_
      refine hK _ _ ?_; clear hK K
      refine wpAny_ready (rs := [4]) (by kernel_rfl) (by simp) ?_
      refine AllReady.cons rfl (fun K hK => ?_) AllReady.nil
      refine draw_storeR rowH rfl _ _ rfl (w.heap.size + 2) _ rfl rfl hW2 rfl rfl (hap_ones _ _ _) ?_
      refine hK _ _ ?_; clear hK K
      refine wpAny_done (by kernel_rfl) ?_ _
      go_wp2
      exact bodyPost_ret (v := .tuple #[.agg (ctA r.1 s4), .agg (hapA r.2 a4 n4)]) (results_row2 rowC rowH rfl _ _ _ _ rfl rfl hW4 hW5 rfl rfl) rfl ⟨s4, a4, n4, rfl, oC.mono (by omega), oD.mono (by omega), gW⟩
    · refine draw_storeR rowC rfl _ _ rfl (w.heap.size + 1) _ rfl rfl (w := W.drew) hr5 rfl rfl (ct_ones _ _) ?_
      refine hK _ _ ?_; clear hK K
      refine wpAny_ready (rs := [2]) (by kernel_rfl) (by simp) ?_
      refine AllReady.cons rfl (fun K hK => ?_) AllReady.nil
      refine draw_loadR rowH rfl _ rfl w4.heap.size rfl hW1 rfl ?_
      refine hK _ _ ?_; clear hK K
      refine wpAny_ready (rs := [4]) (by kernel_rfl) (by simp) ?_
      refine AllReady.cons rfl (fun K hK => ?_) AllReady.nil
      refine draw_storeR rowH rfl _ _ rfl (w.heap.size + 2) _ rfl rfl hW2 rfl rfl (hap_ones _ _ _) ?_
      refine hK _ _ ?_; clear hK K
      refine wpAny_done (by kernel_rfl) ?_ _
      go_wp2
      exact bodyPost_ret (v := .tuple #[.agg (ctA r.1 s4), .agg (hapA r.2 a4 n4)]) (results_row2 rowC rowH rfl _ _ _ _ rfl rfl hW4 hW5 rfl rfl) rfl ⟨s4, a4, n4, rfl, oC.mono (by omega), oD.mono (by omega), gW⟩
  · refine draw_loadR rowH rfl _ rfl w4.heap.size rfl (w := W.drew) hx5 rfl ?_
    refine hK _ _ ?_; clear hK K
    refine wpAny_ready (rs := [1]) (by kernel_rfl) (by simp) ?_
    refine AllReady.cons rfl (fun K hK => ?_) AllReady.nil
    refine draw_loadR rowC rfl _ rfl w1.heap.size rfl (w := W.drew) st5.box rfl ?_
    refine hK _ _ ?_; clear hK K
    refine wpAny_ready (rs := [3]) (by kernel_rfl) (by simp) ?_
    refine AllReady.cons rfl (fun K hK => ?_) AllReady.nil
    refine draw_storeR rowC rfl _ _ rfl (w.heap.size + 1) _ rfl rfl (w := W.drew) hr5 rfl rfl (ct_ones _ _) ?_
    refine hK _ _ ?_; clear hK K
    refine wpAny_ready (rs := [4]) (by kernel_rfl) (by simp) ?_
    refine AllReady.cons rfl (fun K hK => ?_) AllReady.nil
    refine draw_storeR rowH rfl _ _ rfl (w.heap.size + 2) _ rfl rfl hW2 rfl rfl (hap_ones _ _ _) ?_
    refine hK _ _ ?_; clear hK K
    refine wpAny_done (by kernel_rfl) ?_ _
    go_wp2
    exact bodyPost_ret (v := .tuple #[.agg (ctA r.1 s4), .agg (hapA r.2 a4 n4)]) (results_row2 rowC rowH rfl _ _ _ _ rfl rfl hW4 hW5 rfl rfl) rfl ⟨s4, a4, n4, rfl, oC.mono (by omega), oD.mono (by omega), gW⟩
end Go.Proofs.YtajdbimdiodalaaGreat

namespace Go.Proofs.YtajdbimdiodalaaGreat
open Go.RowKit Go.Sort
set_option linter.unusedVariables false

section
variable (w : World) (c : Ct) (s : Sl)

/-- Drive in a phase that is no frame. -/
theorem drive_phase (p : Nat) (hp : c.ph = p) (h1 : p ≠ 1) (h10 : p < 10) (v : Bool) (hv : v = dvC c) :
    Calls Tryz.prog 62 #[.agg (ctA c s)] w fun e w' => e = .returned (.bool v) ∧ Below w.heap.size w w' := by
  have hb := heap_alloc_new w (.cells (ctA c s) 42)
  have q0 : (ctA c s)[0]? = some (.int .u8 (c.ph : Int)) := rfl
  have q3 : (ctA c s)[7]? = some (.bool c.has) := rfl
  have g1 := bnew0 w (.cells (ctA c s) 42)
  unfold dvC at hv
  rw [hp] at q0 hv
  clear hb hp
  have hcase : p = 0 ∨ p = 2 ∨ p = 3 ∨ p = 4 ∨ p = 5 ∨ p = 6 ∨ p = 7 ∨ p = 8 ∨ p = 9 := by omega
  clear h1 h10
  rcases hcase with rfl | rfl | rfl | rfl | rfl | rfl | rfl | rfl | rfl
  all_goals
    simp only [show ((0 : Nat) : Int) = 0 from rfl, show ((2 : Nat) : Int) = 2 from rfl, show ((3 : Nat) : Int) = 3 from rfl, show ((4 : Nat) : Int) = 4 from rfl, show ((5 : Nat) : Int) = 5 from rfl, show ((6 : Nat) : Int) = 6 from rfl, show ((7 : Nat) : Int) = 7 from rfl, show ((8 : Nat) : Int) = 8 from rfl, show ((9 : Nat) : Int) = 9 from rfl] at q0
    simp at hv
    subst hv
    go_enter Tryz.func62, Tryz.ntmps62
    go_wp2
    go_ret
    exact ⟨rfl, g1⟩

theorem drive_any (h : CtR w c s) (h10 : c.ph < 10) (hs : c.ph = 1 → c.sends = true → c.pos < c.wire.length) :
    Calls Tryz.prog 62 #[.agg (ctA c s)] w fun e w' => e = .returned (.bool (dvC c)) ∧ Below w.heap.size w w' := by
  by_cases h1 : c.ph = 1
  · have hb := heap_alloc_new w (.cells (ctA c s) 42)
    have g1 := bnew0 w (.cells (ctA c s) 42)
    have k1 := h.below g1
    have q0 : (ctA c s)[0]? = some (.int .u8 (c.ph : Int)) := rfl
    have q13 : (ctA c s)[13]? = some (.bool c.sends) := rfl
    have q17 : (ctA c s)[17]? = some (.bool c.tk.b) := rfl
    have q18 : (ctA c s)[18]? = some (.int .u8 (c.tk.m : Int)) := rfl
    have q19 : (ctA c s)[19]? = some (.slice s.ta c.tk.l.length s.tc) := rfl
    have q20 : (ctA c s)[20]? = some (.int .u8 (c.tk.p : Int)) := rfl
    have q21 : (ctA c s)[21]? = some (.bool c.tk.fi) := rfl
    rw [h1] at q0
    simp only [show ((1 : Nat) : Int) = 1 from rfl] at q0
    have hD := fun w1 => drive7_any w1 c.tk.b c.tk.m s.ta c.tk.l.length s.tc c.tk.p c.tk.fi
    have hv : dvC c = if c.sends then c.wire[c.pos]?.getD false else drT c.tk.p c.tk.fi := by unfold dvC; rw [if_neg (by omega), if_pos h1]
    cases hsd : c.sends
    · rw [hsd] at q13 hv
      simp only [Bool.false_eq_true, if_false] at hv
      rw [hv]
      generalize drT c.tk.p c.tk.fi = v at *
      clear h1 hsd hv hs h10
      go_enter Tryz.func62, Tryz.ntmps62
      go_wp2_with (go_at_call 93; (with_reducible refine (hD _).mono ?_); rintro e w1 ⟨rfl, g2⟩)
      go_ret
      exact ⟨rfl, bstep g1 g2⟩
    · have hW := onWire_any (w.alloc (.cells (ctA c s) 42)) c s k1.wi (hs h1 hsd)
      rw [hsd] at q13 hv
      simp only [if_true] at hv
      rw [hv]
      generalize c.wire[c.pos]?.getD false = v at *
      clear h1 hsd hv hs h10 hD
      go_enter Tryz.func62, Tryz.ntmps62
      go_wp2_with (first
        | (go_at_call 92; (with_reducible refine hW.mono ?_); rintro e w1 ⟨rfl, g2⟩)
        | (with_reducible refine wpList_loadR rowC rfl _ rfl _ rfl hb rfl ?_))
      go_ret
      exact ⟨rfl, bstep g1 g2⟩
  · exact drive_phase w c s c.ph rfl h1 h10 _ rfl
end
end Go.Proofs.YtajdbimdiodalaaGreat

namespace Go.Proofs.YtajdbimdiodalaaGreat
open Go.RowKit Go.Sort
set_option linter.unusedVariables false

end Go.Proofs.YtajdbimdiodalaaGreat

namespace Go.Proofs.YtajdbimdiodalaaGreat
open Go.RowKit Go.Sort
set_option linter.unusedVariables false

theorem set6r_other {w : World} {g q : Nat} (hq : q ≠ g) (v0 v1 v2 v3 v4 v5 : Value) : ((((((w.setCell ⟨g, 7, none⟩ v0).setCell ⟨g, 8, none⟩ v1).setCell ⟨g, 9, none⟩ v2).setCell ⟨g, 10, none⟩ v3).setCell ⟨g, 11, none⟩ v4).setCell ⟨g, 12, none⟩ v5).drew.heap[q]? = w.heap[q]? := by
  rw [heap_drew, Below.heap_setCell _ _ _ _ hq, Below.heap_setCell _ _ _ _ hq, Below.heap_setCell _ _ _ _ hq, Below.heap_setCell _ _ _ _ hq, Below.heap_setCell _ _ _ _ hq, Below.heap_setCell _ _ _ _ hq]

theorem set6r_same {w : World} {g : Nat} {c : Ct} {s : Sl} {T : TypeId} (hb : w.heap[g]? = some (.cells (ctA c s) T (0, 0))) (F : Fr) (a : Option Addr) (k : Nat) :
    ((((((w.setCell ⟨g, 7, none⟩ (.bool true)).setCell ⟨g, 8, none⟩ (.int .u32 (F.id : Int))).setCell ⟨g, 9, none⟩ (.bool F.ext)).setCell ⟨g, 10, none⟩ (.bool F.rem)).setCell ⟨g, 11, none⟩ (.int .u8 (F.dlc : Int))).setCell ⟨g, 12, none⟩ (.slice a F.data.length k)).drew.heap[g]? =
      some (.cells (ctA { c with has := true, give := F } { s with da := a, dc := k }) T (0, 0)) := by
  rw [heap_drew]
  have e1 := heap_setCell_same w g 7 _ _ (.bool true) hb
  have e2 := heap_setCell_same _ g 8 _ _ (.int .u32 (F.id : Int)) e1
  have e3 := heap_setCell_same _ g 9 _ _ (.bool F.ext) e2
  have e4 := heap_setCell_same _ g 10 _ _ (.bool F.rem) e3
  have e5 := heap_setCell_same _ g 11 _ _ (.int .u8 (F.dlc : Int)) e4
  have e6 := heap_setCell_same _ g 12 _ _ (.slice a F.data.length k) e5
  rw [e6]
  rfl

theorem below_drew1 {B : Nat} {w W : World} (h : Below B w W) : Below B w W.drew := ⟨h.os, h.tape, h.output, h.size, h.block⟩
theorem set6r_below {w w1 : World} {B g : Nat} (h : Below B w w1) (hg : B ≤ g) (v0 v1 v2 v3 v4 v5 : Value) :
    Below B w ((((((w1.setCell ⟨g, 7, none⟩ v0).setCell ⟨g, 8, none⟩ v1).setCell ⟨g, 9, none⟩ v2).setCell ⟨g, 10, none⟩ v3).setCell ⟨g, 11, none⟩ v4).setCell ⟨g, 12, none⟩ v5).drew := by
  have e1 := Below.setCell (p := ⟨g, 7, none⟩) h hg v0
  have e2 := Below.setCell (p := ⟨g, 8, none⟩) e1 hg v1
  have e3 := Below.setCell (p := ⟨g, 9, none⟩) e2 hg v2
  have e4 := Below.setCell (p := ⟨g, 10, none⟩) e3 hg v3
  have e5 := Below.setCell (p := ⟨g, 11, none⟩) e4 hg v4
  have e6 := Below.setCell (p := ⟨g, 12, none⟩) e5 hg v5
  exact below_drew1 e6

set_option maxHeartbeats 1000000 in
theorem give_yes (w : World) (c : Ct) (s : Sl) (F : Fr) (hF : Good F) (a : Option Addr) (k : Nat) (h : CtR w c s) (h2 : RL bv w a F.data.length k F.data) (hh : c.has = false) (hw : c.wire.length ≤ 1000000) (ht : c.tk.l.length ≤ 1000000) :
    Calls Tryz.prog 86 #[.agg (ctA c s), .agg #[.int .u32 (F.id : Int), .bool F.ext, .bool F.rem, .int .u8 (F.dlc : Int), .slice a F.data.length k]] w fun e w' => ∃ s', e = .returned (.tuple #[.agg (ctA { c with has := true, give := F } s'), .int .i64 0]) ∧
      CtO w.heap.size w' { c with has := true, give := F } s' ∧ Below w.heap.size w w' := by
  have hb0 := bx_alloc (.cells ctZ 42) (bx_alloc (.cells #[.int .u32 (F.id : Int), .bool F.ext, .bool F.rem, .int .u8 (F.dlc : Int), .slice a F.data.length k] 35) (heap_alloc_new w (.cells (ctA c s) 42)))
  have hf0 : (((w.alloc (.cells (ctA c s) 42)).alloc (.cells #[.int .u32 (F.id : Int), .bool F.ext, .bool F.rem, .int .u8 (F.dlc : Int), .slice a F.data.length k] 35)).alloc (.cells ctZ 42)).heap[w.heap.size + 1]? = some (.cells #[.int .u32 (F.id : Int), .bool F.ext, .bool F.rem, .int .u8 (F.dlc : Int), .slice a F.data.length k] 35 (0, 0)) := by
    have := bx_alloc (.cells ctZ 42) (heap_alloc_new (w.alloc (.cells (ctA c s) 42)) (.cells #[.int .u32 (F.id : Int), .bool F.ext, .bool F.rem, .int .u8 (F.dlc : Int), .slice a F.data.length k] 35)); rwa [heap_size_alloc] at this
  have hr0 : (((w.alloc (.cells (ctA c s) 42)).alloc (.cells #[.int .u32 (F.id : Int), .bool F.ext, .bool F.rem, .int .u8 (F.dlc : Int), .slice a F.data.length k] 35)).alloc (.cells ctZ 42)).heap[w.heap.size + 2]? = some (.cells ctZ 42 (0, 0)) := by
    have := heap_alloc_new ((w.alloc (.cells (ctA c s) 42)).alloc (.cells #[.int .u32 (F.id : Int), .bool F.ext, .bool F.rem, .int .u8 (F.dlc : Int), .slice a F.data.length k] 35)) (.cells ctZ 42); rwa [heap_size_alloc, heap_size_alloc] at this
  have g0 : Below w.heap.size w (((w.alloc (.cells (ctA c s) 42)).alloc (.cells #[.int .u32 (F.id : Int), .bool F.ext, .bool F.rem, .int .u8 (F.dlc : Int), .slice a F.data.length k] 35)).alloc (.cells ctZ 42)) := bnew (bnew (bnew0 w _) _) _
  have hri : riF F.id F.ext F.rem F.dlc F.data.length = true := (good_iff F _ rfl).2 hF
  have hl8 := (riF_long hri)
  have hR := fun w1 => frRight_any w1 F.id F.ext F.rem F.dlc a F.data.length k (by omega) (by omega)
  rw [hri] at hR
  have hA := fun (w1 : World) (k1 : CtR w1 { c with has := true, give := F } { s with da := a, dc := k }) => apart_any w1 { c with has := true, give := F } { s with da := a, dc := k } k1 (by show F.data.length ≤ 1000000; omega) hw ht
  have q3 : (ctA c s)[7]? = some (.bool false) := by rw [← hh]; rfl
  clear hri hl8 hF
  go_enter Tryz.func86, Tryz.ntmps86
  go_upto_region 5 with (first
    | (go_at_call 53; (with_reducible refine (hR _).mono ?_); rintro e w1 ⟨rfl, g1⟩
       have hb1 := bx_below hb0 g1
       have hf1 := bx_below hf0 g1
       have hr1 := bx_below hr0 g1
       have q7 : w1.cell? ⟨w.heap.size, 7, none⟩ = some (.bool false) := (bxC hb1 7).trans q3
       have gg := bstep g0 g1))
  obtain ⟨k0, k1, k2, k3, k4⟩ := bx5 hf1
  have q8 : w1.cell? ⟨w.heap.size, 8, none⟩ = some (.int .u32 (c.give.id : Int)) := bxC hb1 8
  have q9 : w1.cell? ⟨w.heap.size, 9, none⟩ = some (.bool c.give.ext) := bxC hb1 9
  have q10 : w1.cell? ⟨w.heap.size, 10, none⟩ = some (.bool c.give.rem) := bxC hb1 10
  have q11 : w1.cell? ⟨w.heap.size, 11, none⟩ = some (.int .u8 (c.give.dlc : Int)) := bxC hb1 11
  have q12 : w1.cell? ⟨w.heap.size, 12, none⟩ = some (.slice s.da c.give.data.length s.dc) := bxC hb1 12
  have f1 := bx_thaw hb1
  go_region
  have hb2 : ((((((w1.setCell ⟨w.heap.size, 7, none⟩ (.bool true)).setCell ⟨w.heap.size, 8, none⟩ (.int .u32 (F.id : Int))).setCell ⟨w.heap.size, 9, none⟩ (.bool F.ext)).setCell ⟨w.heap.size, 10, none⟩ (.bool F.rem)).setCell ⟨w.heap.size, 11, none⟩ (.int .u8 (F.dlc : Int))).setCell ⟨w.heap.size, 12, none⟩ (.slice a F.data.length k)).drew.heap[w.heap.size]? = some (.cells (ctA { c with has := true, give := F } { s with da := a, dc := k }) 42 (0, 0)) :=
    set6r_same hb1 F a k
  have hr2 : ((((((w1.setCell ⟨w.heap.size, 7, none⟩ (.bool true)).setCell ⟨w.heap.size, 8, none⟩ (.int .u32 (F.id : Int))).setCell ⟨w.heap.size, 9, none⟩ (.bool F.ext)).setCell ⟨w.heap.size, 10, none⟩ (.bool F.rem)).setCell ⟨w.heap.size, 11, none⟩ (.int .u8 (F.dlc : Int))).setCell ⟨w.heap.size, 12, none⟩ (.slice a F.data.length k)).drew.heap[w.heap.size + 2]? = some (.cells ctZ 42 (0, 0)) :=
    (set6r_other (by omega) _ _ _ _ _ _).trans hr1
  have gg2 : Below w.heap.size w ((((((w1.setCell ⟨w.heap.size, 7, none⟩ (.bool true)).setCell ⟨w.heap.size, 8, none⟩ (.int .u32 (F.id : Int))).setCell ⟨w.heap.size, 9, none⟩ (.bool F.ext)).setCell ⟨w.heap.size, 10, none⟩ (.bool F.rem)).setCell ⟨w.heap.size, 11, none⟩ (.int .u8 (F.dlc : Int))).setCell ⟨w.heap.size, 12, none⟩ (.slice a F.data.length k)).drew :=
    set6r_below gg (Nat.le_refl _) _ _ _ _ _ _
  clear k0 k1 k2 k3 k4 q7 q8 q9 q10 q11 q12 f1 hb1 hf1 hr1 gg hb0 hf0 hr0 g0 g1 hR
  generalize ((((((w1.setCell ⟨w.heap.size, 7, none⟩ (.bool true)).setCell ⟨w.heap.size, 8, none⟩ (.int .u32 (F.id : Int))).setCell ⟨w.heap.size, 9, none⟩ (.bool F.ext)).setCell ⟨w.heap.size, 10, none⟩ (.bool F.rem)).setCell ⟨w.heap.size, 11, none⟩ (.int .u8 (F.dlc : Int))).setCell ⟨w.heap.size, 12, none⟩ (.slice a F.data.length k)).drew = W at *
  have h3 : CtR W { c with has := true, give := F } { s with da := a, dc := k } := ⟨h2.below gg2, h.wi.below gg2, h.ti.below gg2⟩
  have z2 := gg2.size
  have l2 := bx_lt hr2
  go_wp2_with (first
    | (with_reducible refine wpList_loadR rowC rfl _ rfl _ rfl hb2 rfl ?_)
    | (go_at_call 52; (with_reducible refine (hA _ h3).mono ?_); rintro e w4 ⟨s4, rfl, o4, g4⟩; have hr4 := bx_below hr2 g4; have gg4 := bstep gg2 g4)
    | (with_reducible refine wpList_storeR rowC rfl _ _ rfl _ _ rfl rfl hr4 rfl rfl (ct_ones _ _) ?_))
  have o5 := o4.setRow (o4.nbs l2) (ctA { c with has := true, give := F } s4)
  exact bodyPost_ret (v := .tuple #[.agg (ctA { c with has := true, give := F } s4), .int .i64 0]) (results_row1 rowC rfl _ _ _ rfl rfl (setRow_heap _ _ _ _ _ _ hr4) rfl) rfl ⟨_, rfl, o5.mono z2, below_setRow gg4 (by omega) _⟩
end Go.Proofs.YtajdbimdiodalaaGreat

namespace Go.Proofs.YtajdbimdiodalaaGreat
open Go.RowKit Go.Sort
set_option linter.unusedVariables false

/-- A box that holds a controller, whose slices lie elsewhere. -/
structure Cb (w : World) (g : Nat) (c : Ct) (s : Sl) : Prop where
  box : w.heap[g]? = some (.cells (ctA c s) 42 (0, 0))
  o : CtO 0 w c s
  nb : NBs s g

section
variable {w w1 w2 : World} {g q B : Nat} {c c' : Ct} {s s' : Sl}
theorem Cb.lt (h : Cb w g c s) : g < w.heap.size := bx_lt h.box
theorem Cb.below (h : Cb w g c s) (k : Below w.heap.size w w1) : Cb w1 g c s := ⟨bx_below h.box k, h.o.below k, h.nb⟩
theorem Cb.alloc (h : Cb w g c s) (o : Obj) : Cb (w.alloc o) g c s := ⟨bx_alloc o h.box, h.o.alloc o, h.nb⟩
theorem Cb.drew (h : Cb w g c s) : Cb w.drew g c s := ⟨h.box, ⟨h.o.da, h.o.wi, h.o.ti⟩, h.nb⟩
/-- Another block is written. -/
theorem Cb.other (h : Cb w g c s) (hq : g ≠ q) (hn : NBs s q) (cs : Array Value) : Cb (w.setRow q cs) g c s := ⟨(setRow_other _ _ _ _ hq).trans h.box, h.o.setRow hn cs, h.nb⟩
theorem Cb.cell (h : Cb w g c s) (hq : g ≠ q) (hn : NBs s q) (i : Nat) (v : Value) : Cb (w.setCell ⟨q, i, none⟩ v) g c s := ⟨(Below.heap_setCell _ _ _ _ hq).trans h.box, h.o.setCell hn v, h.nb⟩
/-- The box is written anew. -/
theorem Cb.put (hb : w.heap[g]? = some (.cells (ctA c s) 42 (0, 0))) (ho : CtO B w c' s') (hn : NBs s' g) : Cb (w.setRow g (ctA c' s')) g c' s' := ⟨setRow_heap _ _ _ _ _ _ hb, (ho.mono (Nat.zero_le _)).setRow hn _, hn⟩
theorem Cb.r (h : Cb w g c s) : CtR w c s := h.o.r
end

end Go.Proofs.YtajdbimdiodalaaGreat

namespace Go.Proofs.YtajdbimdiodalaaGreat
open Go.RowKit Go.Sort
set_option linter.unusedVariables false

/-- Behind a step: a box for the controller, one for what happened, both new. -/
structure Two8 (w1 : World) (r : Ct × Hp) (s : Sl) (a : Option Addr) (n : Nat) : Prop where
  z : (w1.alloc (.cells ctZ 42)).heap[w1.heap.size]? = some (.cells ctZ 42 (0, 0))
  z1 : ((w1.alloc (.cells ctZ 42)).alloc (.cells hap0 127)).heap[w1.heap.size]? = some (.cells ctZ 42 (0, 0))
  h1 : (((w1.alloc (.cells ctZ 42)).alloc (.cells hap0 127)).setRow w1.heap.size (ctA r.1 s)).heap[w1.heap.size + 1]? = some (.cells hap0 127 (0, 0))
  c2 : ((((w1.alloc (.cells ctZ 42)).alloc (.cells hap0 127)).setRow w1.heap.size (ctA r.1 s)).setRow (w1.heap.size + 1) (hapA r.2 a n)).heap[w1.heap.size]? = some (.cells (ctA r.1 s) 42 (0, 0))
  h2 : ((((w1.alloc (.cells ctZ 42)).alloc (.cells hap0 127)).setRow w1.heap.size (ctA r.1 s)).setRow (w1.heap.size + 1) (hapA r.2 a n)).heap[w1.heap.size + 1]? = some (.cells (hapA r.2 a n) 127 (0, 0))
  b : Below w1.heap.size w1 ((((w1.alloc (.cells ctZ 42)).alloc (.cells hap0 127)).setRow w1.heap.size (ctA r.1 s)).setRow (w1.heap.size + 1) (hapA r.2 a n))

theorem two8 (w1 : World) (r : Ct × Hp) (s : Sl) (a : Option Addr) (n : Nat) : Two8 w1 r s a n := by
  have z := heap_alloc_new w1 (.cells ctZ 42)
  have z1 := bx_alloc (.cells hap0 127) z
  have k1 : ((w1.alloc (.cells ctZ 42)).alloc (.cells hap0 127)).heap[w1.heap.size + 1]? = some (.cells hap0 127 (0, 0)) := by
    have := heap_alloc_new (w1.alloc (.cells ctZ 42)) (.cells hap0 127); rwa [heap_size_alloc] at this
  have h1 := (setRow_other ((w1.alloc (.cells ctZ 42)).alloc (.cells hap0 127)) w1.heap.size (w1.heap.size + 1) (ctA r.1 s) (by omega)).trans k1
  have c1 := setRow_heap _ w1.heap.size ctZ (ctA r.1 s) 42 (0, 0) z1
  exact ⟨z, z1, h1, (setRow_other _ (w1.heap.size + 1) w1.heap.size (hapA r.2 a n) (by omega)).trans c1, setRow_heap _ _ _ _ _ _ h1, below_setRow (below_setRow (bnew (bnew0 w1 _) _) (Nat.le_refl _) _) (by omega) _⟩

end Go.Proofs.YtajdbimdiodalaaGreat

namespace Go.Proofs.YtajdbimdiodalaaGreat
set_option linter.unusedVariables false

/-- A controller in a phase that is no frame: nothing is kept but how it is trusted, what it was given, and whether it was the sender. -/
def phC (c : Ct) (ph n : Nat) (e : Bool) : Ct := ⟨ph, n, c.cf, c.has, c.give, false, c.sender, [], 0, s0, false, 0, e, false⟩

end Go.Proofs.YtajdbimdiodalaaGreat

namespace Go.Proofs.YtajdbimdiodalaaGreat
set_option linter.unusedVariables false

theorem ack_at {F : Fr} {j : Nat} (hj : j < 10) : (ackL F)[(putL (boL F)).length + j]? = some (!decide (j = 1)) := by
  unfold ackL
  by_cases h1 : j = 1
  · subst h1
    rw [List.getElem?_set_self (by rw [wiL_length]; omega)]; rfl
  · rw [List.getElem?_set_ne (by omega), wi_at hj, decide_eq_false h1]; rfl

end Go.Proofs.YtajdbimdiodalaaGreat

namespace Go.Proofs.YtajdbimdiodalaaGreat
set_option linter.unusedVariables false
def F1 : Fr := ⟨1, false, false, 0, []⟩
end Go.Proofs.YtajdbimdiodalaaGreat

namespace Go.Proofs.YtajdbimdiodalaaGreat
set_option linter.unusedVariables false

/-- Bits that come behind what was read change nothing of it. -/
theorem Reading.post {l : List Bool} {s : Tk} (m : List Bool) (h : Reading l l.length s) : Reading (l ++ m) l.length s := by
  have htt : (l ++ m).take l.length = l := List.take_left
  have htl : l.take l.length = l := List.take_length
  rcases h with h | h
  · left
    exact ⟨h.p, by rw [htt]; have := h.tk; rwa [htl] at this, by rw [htt]; have := h.ru; rwa [htl] at this, h.fi, h.le, h.no, by simp, h.ri⟩
  · right
    have ht2 : (l ++ m).take (bdN l) = putL (bdL l) := by rw [List.take_append_of_le_length h.lo, h.pu]
    have htk : tkL ((l ++ m).take (bdN l)) = (bdL l, -1) := by rw [ht2]; exact tkL_putL _
    have hm : (ruF false 0 ((l ++ m).take (bdN l))).2 ≠ 5 := fun e => by
      have := put_at htk
      rw [if_pos e, ht2] at this
      have := congrArg List.length this
      simp at this
    obtain ⟨e1, e2, _, e4⟩ := bd_found (by rw [List.length_append]; have := h.lo; omega) htk hm h.cm
    exact ⟨by rw [e1]; exact h.n0, by rw [e1]; exact h.lo, by rw [e1]; exact h.hi, by rw [e1]; exact h.p, by rw [e2]; exact h.li, by rw [e2]; exact h.fi, h.m, h.ri, h.ok, by rw [e1, e2]; exact e4, by rw [e2]; exact h.cm⟩

/-- One bit more. -/
theorem Reading.more {l : List Bool} {s : Tk} (x : Bool) (h : Reading l l.length s) (hs : (nxT s x).2 = 0 ∨ (nxT s x).2 = 4) : Reading (l ++ [x]) (l ++ [x]).length (nxT s x).1 := by
  have h1 := h.post [x]
  have hx : (l ++ [x])[l.length]? = some x := by simp
  have := (h1.step hx).2 hs
  rw [List.length_append]
  exact this

/-- A body is no longer than a head says. -/
theorem hdN_max (l : List Bool) : hdN l ≤ 118 := by
  unfold hdN
  have h1 := lonF_le (reF l).rem (reF l).dlc
  have h2 : heM l ≤ 39 := by unfold heM; split <;> omega
  omega

theorem Reading.short {l : List Bool} {s : Tk} (h : Reading l l.length s) : s.l.length ≤ 118 := by
  rcases h with h | h
  · cases hk : hdK s.l with
    | true => have := h.le hk; have := hdN_max s.l; omega
    | false =>
      by_cases h40 : s.l.length < 40
      · omega
      · have : hdK s.l = true := by unfold hdK; rw [decide_eq_true (by omega), decide_eq_true (by omega)]; simp
        rw [hk] at this; cases this
  · have hc := h.cm
    unfold cmpL at hc
    simp only [Bool.and_eq_true, decide_eq_true_eq] at hc
    rw [h.li, hc.2]
    exact hdN_max _

/-- A frame whose sum fits is right. -/
theorem fit_good {l : List Bool} (h : fitL l = true) : Good (paU l) := by
  unfold fitL at h
  simp only [Bool.and_eq_true, decide_eq_true_eq] at h
  have hp : paU l = ⟨(reF l).id, (reF l).ext, (reF l).rem, (reF l).dlc, paD l⟩ := by
    unfold paU; rw [h.1, h.2]; rfl
  rw [hp]
  refine ⟨?_, ?_, ?_⟩
  · show (reF l).id ≤ if (reF l).ext = true then 536870911 else 2047
    unfold reF
    split
    · have h1 := numL_take_lt (l.drop 1) 11
      have h2 := numL_take_lt (l.drop 14) 18
      simp only [if_true]
      omega
    · have h1 := numL_take_lt (l.drop 1) 11
      simp only [Bool.false_eq_true, if_false]
      omega
  · show (reF l).dlc ≤ 15
    unfold reF
    split
    · have h1 := numL_take_lt (l.drop 35) 4
      simp only; omega
    · have h1 := numL_take_lt (l.drop 15) 4
      simp only; omega
  · show (paD l).length = _
    exact paD_length l h.1

/-- What is taken is a right frame. -/
theorem took_good {l : List Bool} {s : Tk} {x : Bool} (h : Reading l l.length s) (hs : (nxT s x).2 = 4) : Good (paU (nxT s x).1.l) := by
  have h1 := h.more x (.inr hs)
  have hB : s.p = 9 := by
    unfold nxT at hs
    repeat' split at hs
    all_goals first | (simp at hs; done) | assumption | (cases x <;> simp at hs; done) | omega
  have hB2 := BeB.of h1
  have hr : BeB (l ++ [x]) (l ++ [x]).length (nxT s x).1 := by
    rcases h1 with h1 | h1
    · exfalso
      have hp := h1.p
      have : (nxT s x).1.p = 10 := by
        have hx : x = true := by
          cases x with
          | true => rfl
          | false => rw [nx_dom (by omega) (by omega) (by omega)] at hs; simp at hs
        subst hx
        rw [nx_on (by omega) (by omega) (by omega) (by omega)]
        show s.p + 1 = 10
        omega
      omega
    · exact h1
  have h4 : 4 ≤ (nxT s x).1.p := by
    have hx : x = true := by
      cases x with
      | true => rfl
      | false => rw [nx_dom (by omega) (by omega) (by omega)] at hs; simp at hs
    subst hx
    rw [nx_on (by omega) (by omega) (by omega) (by omega)]
    show 4 ≤ s.p + 1
    omega
  exact fit_good (hr.got h4).fit
end Go.Proofs.YtajdbimdiodalaaGreat

namespace Go.Proofs.YtajdbimdiodalaaGreat
set_option linter.unusedVariables false

/-- The run behind what was put. -/
def psF (b : Bool) (m : Nat) : List Bool → Bool × Nat
  | [] => (b, m)
  | x :: l => if (nxt b m x).1.2 = 5 then psF (!x) 1 l else psF (nxt b m x).1.1 (nxt b m x).1.2 l

theorem putF_app (p : List Bool) : ∀ b m u, putF b m (p ++ u) = putF b m p ++ putF (psF b m p).1 (psF b m p).2 u := by
  induction p with
  | nil => intro b m u; rfl
  | cons x p ih =>
    intro b m u
    rw [List.cons_append, putF, putF, psF]
    split
    · rw [ih]; rfl
    · rw [ih]; rfl

theorem putF_first (b : Bool) (m : Nat) (x : Bool) (r : List Bool) : ∃ t, putF b m (x :: r) = x :: t := by
  rw [putF]; split
  · exact ⟨_, rfl⟩
  · exact ⟨_, rfl⟩

/-- A body that goes on with x behind p: its wire is that of p, and x behind it. -/
theorem put_split {B p r : List Bool} {x : Bool} (h : B = p ++ x :: r) : ∃ t, putL B = putL p ++ x :: t := by
  unfold putL
  rw [h, putF_app]
  obtain ⟨t, ht⟩ := putF_first (psF false 0 p).1 (psF false 0 p).2 x r
  exact ⟨t, by rw [ht]⟩

theorem wi_split {F : Fr} {p r : List Bool} {x : Bool} (h : boL F = p ++ x :: r) :
    (putL p).length < (putL (boL F)).length ∧ (wiL F).take (putL p).length = putL p ∧ (wiL F)[(putL p).length]? = some x := by
  obtain ⟨t, ht⟩ := put_split h
  refine ⟨by rw [ht]; simp, ?_, ?_⟩
  · unfold wiL; rw [ht, List.append_assoc, List.take_left]
  · unfold wiL; rw [ht, List.append_assoc, List.getElem?_append_right (by omega)]; simp

theorem ack_split {F : Fr} {p r : List Bool} {x : Bool} (h : boL F = p ++ x :: r) : (ackL F).take (putL p).length = putL p ∧ (ackL F)[(putL p).length]? = some x := by
  obtain ⟨h1, h2, h3⟩ := wi_split h
  unfold ackL
  refine ⟨?_, ?_⟩
  · rw [List.take_set_of_le (by omega)]; exact h2
  · rw [List.getElem?_set_ne (by omega)]; exact h3

/-- Where two wires part, what was read is what their bodies have in common, and no stuff bit is due. -/
theorem part_state {F : Fr} (hg : Good F) {p r : List Bool} {x : Bool} (h : boL F = p ++ x :: r) {s : Tk} (hr : Rd (ackL F) (putL (boL F)).length (putL p).length s) : s.l = p ∧ s.m ≠ 5 ∧ s.p = 0 := by
  obtain ⟨h1, _, _⟩ := wi_split h
  obtain ⟨h2, _⟩ := ack_split h
  have hR := hr.on (by omega)
  rcases hR with hI | hB
  · have htk := hI.tk
    rw [h2, tkL_putL] at htk
    have hl : s.l = p := by
      have := congrArg Prod.fst htk
      exact this.symm
    refine ⟨hl, fun h5 => ?_, hI.p⟩
    have hp := put_at (l := ackL F) (k := (putL p).length) (q := p) (by rw [h2]; exact tkL_putL _)
    have hru := hI.ru
    rw [if_pos (by rw [hru]; exact h5), h2] at hp
    have := congrArg List.length hp
    simp at this
  · exfalso
    have hlo := hB.lo
    obtain ⟨f1, _, _⟩ := wire_found hg (ack_take (F := F) false) (by rw [List.length_set, wiL_length]; omega)
    have : bdN (ackL F) = (putL (boL F)).length := f1
    omega

/-- Of two that go on alike, the one whose bit is recessive where the other's is dominant loses, as long as that is in arbitration. -/
theorem lost_step {G : Fr} (hg : Good G) {p r : List Bool} (h : boL G = p ++ true :: r) {s : Tk} (hr : Rd (ackL G) (putL (boL G)).length (putL p).length s) (h1 : 1 ≤ p.length) (h2 : p.length ≤ if G.ext then 32 else 12) (cf : Cf) :
    stC (sndAt G cf s (putL p).length) false = (rcvH true G cf (nxT s false).1, (3, zeroFr)) := by
  obtain ⟨hl, hm, _⟩ := part_state hg h hr
  obtain ⟨w1, _, w3⟩ := wi_split h
  have hwl := wiL_length G
  show sndC (sndAt G cf s (putL p).length) false = _
  unfold sndC
  refine (if_neg (show ¬ (putL p).length + 9 = (wiL G).length by rw [hwl]; omega)).trans ?_
  refine (if_neg (show ¬ (wiL G)[(putL p).length]?.getD false = false by rw [w3]; simp)).trans ?_
  refine (if_neg ?_).trans ?_
  · show ¬ (false = true ∨ s.l.length < 1 ∨ (if G.ext = true then 32 else 12) < s.l.length)
    rw [hl]
    rintro (h | h | h)
    · cases h
    · omega
    · omega
  · exact (if_neg hm).trans rfl

/-- Where the one goes on and the other doesn't. -/
theorem bf_split : ∀ (l m : List Bool), bfL l m = true → ∃ p r1 r2, l = p ++ false :: r1 ∧ m = p ++ true :: r2 := by
  intro l
  induction l with
  | nil => intro m h; simp [bfL] at h
  | cons x l ih =>
    intro m h
    cases m with
    | nil => simp [bfL] at h
    | cons y m =>
      rw [bfL] at h
      split at h
      · rename_i hxy
        subst hxy
        obtain ⟨p, r1, r2, e1, e2⟩ := ih m h
        exact ⟨x :: p, r1, r2, by rw [e1]; rfl, by rw [e2]; rfl⟩
      · rename_i hxy
        subst h
        obtain rfl : x = false := by cases x <;> simp_all
        exact ⟨[], l, m, rfl, rfl⟩

theorem contest_split {F G : Fr} (h : bfL (conL F.id F.ext F.rem) (conL G.id G.ext G.rem) = true) :
    ∃ p r1 r2, boL F = p ++ false :: r1 ∧ boL G = p ++ true :: r2 ∧ 1 ≤ p.length ∧ p.length ≤ if G.ext then 32 else 12 := by
  obtain ⟨p, r1, r2, e1, e2⟩ := bf_split _ _ h
  have hb : ∀ H : Fr, ∃ t, boL H = conL H.id H.ext H.rem ++ t := fun H => by
    rw [boL_split]; unfold heL; exact ⟨_, by simp only [List.append_assoc]; rfl⟩
  obtain ⟨t1, h1⟩ := hb F
  obtain ⟨t2, h2⟩ := hb G
  refine ⟨p, r1 ++ t1, r2 ++ t2, by rw [h1, e1]; simp, by rw [h2, e2]; simp, ?_, ?_⟩
  · cases p with
    | nil =>
      exfalso
      have : (conL G.id G.ext G.rem)[0]? = some false := by unfold conL; split <;> rfl
      rw [e2] at this; simp at this
    | cons => simp
  · have hl : (conL G.id G.ext G.rem).length = p.length + 1 + r2.length := by rw [e2]; simp; omega
    rw [conL_length] at hl
    unfold conN at hl
    cases hG : G.ext with
    | true => rw [hG] at hl; simp only [if_true] at hl ⊢; omega
    | false =>
      rw [hG] at hl e2
      simp only [Bool.false_eq_true, if_false] at hl ⊢
      by_cases h13 : p.length = 13
      · exfalso
        have a : (conL G.id false G.rem)[13]? = some false := by
          unfold conL
          simp only [Bool.false_eq_true, if_false]
          rw [List.getElem?_append_right (by simp)]
          simp
        rw [e2, List.getElem?_append_right (by omega)] at a
        simp [h13] at a
      · omega
end Go.Proofs.YtajdbimdiodalaaGreat

namespace Go.Proofs.YtajdbimdiodalaaGreat
set_option linter.unusedVariables false

end Go.Proofs.YtajdbimdiodalaaGreat

namespace Go.Proofs.YtajdbimdiodalaaGreat
set_option linter.unusedVariables false

end Go.Proofs.YtajdbimdiodalaaGreat

namespace Go.Proofs.YtajdbimdiodalaaGreat
open Go.RowKit Go.Sort
set_option linter.unusedVariables false

theorem P_top {F : Fr} (hg : Good F) : (putL (boL F)).length ≤ 150 := by
  have h1 := putL_len (boL F)
  have h2 := boL_length F
  have h3 : heN F.ext ≤ 39 := by unfold heN; split <;> omega
  have h4 : F.data.length ≤ 8 := by
    have := (riF_long ((good_iff F _ rfl).2 hg)).2.1; exact this
  omega

theorem tk_rd {F : Fr} (hg : Good F) {k : Nat} {s : Tk} (hk : k < (putL (boL F)).length + 10) (h : Rd (ackL F) (putL (boL F)).length k s) : TkOK s := by
  have hP := P_top hg
  refine ⟨h.ri, by have := h.len; omega, by have := h.p; omega, fun e => ?_⟩
  rcases h.on hk with hI | hB
  · have := hI.p; omega
  · exact ⟨hB.ok (by omega), hB.m⟩

theorem good_len {F : Fr} (hg : Good F) : F.data.length ≤ 8 := (riF_long ((good_iff F _ rfl).2 hg)).2.1

theorem ok_snd {F : Fr} (hg : Good F) {cf : Cf} (hm : moC cf ≤ 1) {k : Nat} {s : Tk} (h1 : 1 ≤ k) (hk : k < (putL (boL F)).length + 10) (h : Rd (ackL F) (putL (boL F)).length k s) (hl : 1 ≤ s.l.length) : StepOK (sndAt F cf s k) := by
  have hP := P_top hg
  have hwl := wiL_length F
  have hs := tk_rd hg hk h
  have hd := good_len hg
  refine ⟨by show (1 : Nat) < 10; omega, by show (0 : Nat) ≤ _; omega, fun _ => hm, fun _ => hg, by show F.data.length ≤ _; omega, by show (wiL F).length ≤ _; omega, by show s.l.length ≤ _; have := h.len; omega, fun _ => hs, fun _ _ => ⟨by show k < (wiL F).length; omega, by show (wiL F).length ≤ _; omega, fun e => ?_, hl⟩, fun e => absurd e (by show ¬ (1 : Nat) = 6; omega)⟩
  have e' : k + 9 = (wiL F).length := e
  show (wiL F)[k]?.getD false = true
  rw [show k = (putL (boL F)).length + 1 by omega, wi_at (by omega)]; rfl

theorem rd_len {F : Fr} (hg : Good F) {k : Nat} {s : Tk} (h1 : 1 ≤ k) (hk : k < (putL (boL F)).length + 10) (h : Rd (ackL F) (putL (boL F)).length k s) : 1 ≤ s.l.length := by
  have hP := P_pos F
  rcases h.on hk with hI | hB
  · have hp := put_at hI.tk
    have hkl := hI.kl
    by_cases h0 : s.l.length = 0
    · exfalso
      have e : s.l = [] := List.eq_nil_of_length_eq_zero h0
      rw [e] at hp
      have hl := congrArg List.length hp
      rw [show (putL ([] : List Bool)).length = 0 from rfl] at hl
      split at hl
      · rw [List.length_append, List.length_take] at hl; simp at hl
      · rw [List.length_take] at hl; omega
    · omega
  · rw [hB.li]
    obtain ⟨_, f2, _⟩ := wire_found hg (ack_take (F := F) false) (by rw [List.length_set, wiL_length]; omega)
    have e : bdL (ackL F) = boL F := f2
    rw [e, boL_length]; omega

end Go.Proofs.YtajdbimdiodalaaGreat

namespace Go.Proofs.YtajdbimdiodalaaGreat
open Go.RowKit Go.Sort
set_option linter.unusedVariables false

end Go.Proofs.YtajdbimdiodalaaGreat

namespace Go.Proofs.YtajdbimdiodalaaGreat
open Go.RowKit
set_option linter.unusedVariables false

end Go.Proofs.YtajdbimdiodalaaGreat
