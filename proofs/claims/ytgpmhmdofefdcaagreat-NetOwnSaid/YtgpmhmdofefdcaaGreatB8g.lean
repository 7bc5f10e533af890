/-
  Contracts of a state's methods: a bit of a frame that the controller sends; a bit of a frame.
  Contracts of a state's methods: a bit of a frame that the controller sends; a bit of a frame.
  Contracts of a state's methods: a bit of a frame that the controller sends; a bit of a frame.
  Contracts of a state's methods: a bit of a frame that the controller sends; a bit of a frame.
  Contracts of a state's methods: a bit of a frame that the controller sends; a bit of a frame.
  Contracts of a state's methods: a bit of a frame that the controller sends; a bit of a frame.
  Contracts of a state's methods: a bit of a frame that the controller sends; a bit of a frame.
  Contracts of a state's methods: a weak flag, what is waited for behind a flag, the bits between.
-/
import Derived.Test.YtgpmhmdofefdcaaGreatB8o
import Derived.Test.YtgpmhmdofefdcaaGreatB8f
namespace Go.Proofs.YtgpmhmdofefdcaaGreat
open Go.RowKit Go.Sort
set_option linter.unusedVariables false

section
variable (B : Nat) (w : World) (g : Nat) (c : Ct) (s : Sl) (x : Bool)

/-- What a sender drives. -/
def drW (c : Ct) : Bool := c.wire[c.pos]?.getD false

set_option maxHeartbeats 4000000 in
theorem asDriven_st (r : Ct × Hp) (hr : r = sndC c x) (hx : drW c = x) (h : StB B w g c s) (hS : SndOK c) (hT : TkOK c.tk) (hmo : moC c.cf ≤ 1) :
    Calls Tryz.prog 86 #[.pointer (some ⟨g, 0, none⟩), .bool x] w (Told B w g s r) := by
  unfold sndC at hr
  by_cases ha : c.pos + 9 = c.wire.length
  · have hxt : x = true := by rw [← hx]; exact hS.ack ha
    rw [if_pos ha, if_neg (by rw [hxt]; decide)] at hr
    exact asDriven_ack B w g c s x r hr h hS hmo ha
  · rw [if_neg ha, if_pos (show c.wire[c.pos]?.getD false = x from hx)] at hr
    by_cases hl : c.pos + 1 < c.wire.length
    · rw [if_pos hl] at hr
      exact asDriven_on B w g c s x r hr h hS hT ha hl
    · rw [if_neg hl] at hr
      exact asDriven_sent B w g c s x r hr h hS ha hl

set_option maxHeartbeats 4000000 in
theorem send_same (r : Ct × Hp) (hr : r = sndC c x) (hx : drW c = x) (h : StB B w g c s) (hS : SndOK c) (hT : TkOK c.tk) (hmo : moC c.cf ≤ 1) :
    Calls Tryz.prog 73 #[.pointer (some ⟨g, 0, none⟩), .bool x] w (Told B w g s r) := by
  have m0 := Mb.start h
  have hO := fun (w1 : World) (k : StB B w1 g c s) => onWire_any w1 c s k.wi.rl hS.pos
  change ∀ w1, StB B w1 g c s → Calls _ _ _ w1 fun e w' => e = .returned (.bool (drW c)) ∧ _ at hO
  rw [hx] at hO
  have hA := fun (w1 : World) (k : StB B w1 g c s) => asDriven_st B w1 g c s x r hr hx k hS hT hmo
  clear hr hx h hS hT hmo
  cases x
  all_goals
    go_enter Tryz.func73, Tryz.ntmps73
    go_wp2_with (first
      | (with_reducible refine wpList_loadR rowC rfl _ rfl _ rfl m0.st.box rfl ?_)
      | (go_at_call 54; (with_reducible refine (hO _ m0.st).mono ?_); rintro e w1 ⟨rfl, g1⟩; have m1 := m0.call g1)
      | (go_at_call 86; (with_reducible refine (hA _ m1.st).mono ?_); rintro e w4 ⟨s4, a4, n4, rfl, l4, o4, b4⟩; have m4 := m1.left l4; obtain ⟨p0, p1, p2, p3, p4, p5⟩ := m4.hps; have fp := m4.hpf))
    exact bodyPost_ret (v := .agg (hapA r.2 a4 n4)) (by simp [results, Tryz.results73, go_sem, p0, p1, p2, p3, p4, p5]; rfl) rfl (m1.told l4 o4 b4 _ _ _ _ _ _)

end
end Go.Proofs.YtgpmhmdofefdcaaGreat

namespace Go.Proofs.YtgpmhmdofefdcaaGreat
open Go.RowKit Go.Sort
set_option linter.unusedVariables false

section
variable (B : Nat) (w : World) (g : Nat) (c : Ct) (s : Sl) (x : Bool)

set_option maxHeartbeats 4000000 in
theorem send_rec (r : Ct × Hp) (hr : r = failC c 4) (hx : drW c = false) (h : StB B w g c s) (hS : SndOK c) (hmo : moC c.cf ≤ 1) :
    Calls Tryz.prog 73 #[.pointer (some ⟨g, 0, none⟩), .bool true] w (Told B w g s r) := by
  have m0 := Mb.start h
  have hO := fun (w1 : World) (k : StB B w1 g c s) => onWire_any w1 c s k.wi.rl hS.pos
  change ∀ w1, StB B w1 g c s → Calls _ _ _ w1 fun e w' => e = .returned (.bool (drW c)) ∧ _ at hO
  rw [hx] at hO
  have hF := fun (w1 : World) (k : StB B w1 g c s) => fail_st B w1 g c s 4 r hr k hmo
  simp only [show ((4 : Nat) : Int) = 4 from rfl] at hF
  clear hr hx h hS hmo
  go_enter Tryz.func73, Tryz.ntmps73
  go_wp2_with (first
    | (with_reducible refine wpList_loadR rowC rfl _ rfl _ rfl m0.st.box rfl ?_)
    | (go_at_call 54; (with_reducible refine (hO _ m0.st).mono ?_); rintro e w1 ⟨rfl, g1⟩; have m1 := m0.call g1)
    | (go_at_call 72; (with_reducible refine (hF _ m1.st).mono ?_); rintro e w4 ⟨s4, a4, n4, rfl, l4, o4, b4⟩; have m4 := m1.left l4; obtain ⟨p0, p1, p2, p3, p4, p5⟩ := m4.hps; have fp := m4.hpf))
  exact bodyPost_ret (v := .agg (hapA r.2 a4 n4)) (by simp [results, Tryz.results73, go_sem, p0, p1, p2, p3, p4, p5]; rfl) rfl (m1.told l4 o4 b4 _ _ _ _ _ _)

end
end Go.Proofs.YtgpmhmdofefdcaaGreat

namespace Go.Proofs.YtgpmhmdofefdcaaGreat
open Go.RowKit Go.Sort
set_option linter.unusedVariables false

section
variable (B : Nat) (w : World) (g : Nat) (c : Ct) (s : Sl) (x : Bool)

set_option maxHeartbeats 4000000 in
theorem send_ack (r : Ct × Hp) (hr : r = ({ c with tk := (nxT c.tk false).1, pos := c.pos + 1 }, noH)) (hx : drW c = true) (h : StB B w g c s) (hS : SndOK c) (hT : TkOK c.tk) (ha : c.pos + 9 = c.wire.length) :
    Calls Tryz.prog 73 #[.pointer (some ⟨g, 0, none⟩), .bool false] w (Told B w g s r) := by
  have m0 := Mb.start h
  have hO := fun (w1 : World) (k : StB B w1 g c s) => onWire_any w1 c s k.wi.rl hS.pos
  change ∀ w1, StB B w1 g c s → Calls _ _ _ w1 fun e w' => e = .returned (.bool (drW c)) ∧ _ at hO
  rw [hx] at hO
  have hK := fun (w1 : World) (k : StB B w1 g c s) => atAck_st B w1 g c s k hS.len (by have := hS.pos; have := hS.len; omega)
  rw [decide_eq_true ha] at hK
  have hU := fun (w1 : World) (k : StB B w1 g c s) => goOn_st B w1 g c s false r hr k hT (by have := hS.pos; have := hS.len; omega)
  clear hr hx h hS hT ha
  go_enter Tryz.func73, Tryz.ntmps73
  go_wp2_with (first
    | (with_reducible refine wpList_loadR rowC rfl _ rfl _ rfl m0.st.box rfl ?_)
    | (go_at_call 54; (with_reducible refine (hO _ m0.st).mono ?_); rintro e w1 ⟨rfl, g1⟩; have m1 := m0.call g1)
    | (go_at_call 87; (with_reducible refine (hK _ m1.st).mono ?_); rintro e w2 ⟨rfl, g2⟩; have m2 := m1.call g2)
    | (go_at_call 88; (with_reducible refine (hU _ m2.st).mono ?_); rintro e w4 ⟨s4, a4, n4, rfl, l4, o4, b4⟩; have m4 := m2.left l4; obtain ⟨p0, p1, p2, p3, p4, p5⟩ := m4.hps; have fp := m4.hpf))
  exact bodyPost_ret (v := .agg (hapA r.2 a4 n4)) (by simp [results, Tryz.results73, go_sem, p0, p1, p2, p3, p4, p5]; rfl) rfl (m2.told l4 o4 b4 _ _ _ _ _ _)

end
end Go.Proofs.YtgpmhmdofefdcaaGreat

namespace Go.Proofs.YtgpmhmdofefdcaaGreat
open Go.RowKit Go.Sort
set_option linter.unusedVariables false

section
variable (B : Nat) (w : World) (g : Nat) (c : Ct) (s : Sl) (x : Bool)

set_option maxHeartbeats 4000000 in
theorem send_late (r : Ct × Hp) (hr : r = failC c 4) (hx : drW c = true) (h : StB B w g c s) (hS : SndOK c) (hmo : moC c.cf ≤ 1) (ha : ¬ c.pos + 9 = c.wire.length) (hc : ¬ c.tk.l.length ≤ if c.give.ext then 32 else 12) :
    Calls Tryz.prog 73 #[.pointer (some ⟨g, 0, none⟩), .bool false] w (Told B w g s r) := by
  have m0 := Mb.start h
  have hO := fun (w1 : World) (k : StB B w1 g c s) => onWire_any w1 c s k.wi.rl hS.pos
  change ∀ w1, StB B w1 g c s → Calls _ _ _ w1 fun e w' => e = .returned (.bool (drW c)) ∧ _ at hO
  rw [hx] at hO
  have hK := fun (w1 : World) (k : StB B w1 g c s) => atAck_st B w1 g c s k hS.len (by have := hS.pos; have := hS.len; omega)
  rw [decide_eq_false ha] at hK
  have hI := fun (w1 : World) (k : StB B w1 g c s) => inContest_st B w1 g c s k
  rw [decide_eq_false hc] at hI
  have hF := fun (w1 : World) (k : StB B w1 g c s) => fail_st B w1 g c s 4 r hr k hmo
  simp only [show ((4 : Nat) : Int) = 4 from rfl] at hF
  clear hr hx h hS hmo ha hc
  go_enter Tryz.func73, Tryz.ntmps73
  go_wp2_with (first
    | (with_reducible refine wpList_loadR rowC rfl _ rfl _ rfl m0.st.box rfl ?_)
    | (go_at_call 54; (with_reducible refine (hO _ m0.st).mono ?_); rintro e w1 ⟨rfl, g1⟩; have m1 := m0.call g1)
    | (go_at_call 87; (with_reducible refine (hK _ m1.st).mono ?_); rintro e w2 ⟨rfl, g2⟩; have m2 := m1.call g2)
    | (go_at_call 89; (with_reducible refine (hI _ m2.st).mono ?_); rintro e w3 ⟨rfl, g3⟩; have m3 := m2.call g3)
    | (go_at_call 72; (with_reducible refine (hF _ m3.st).mono ?_); rintro e w4 ⟨s4, a4, n4, rfl, l4, o4, b4⟩; have m4 := m3.left l4; obtain ⟨p0, p1, p2, p3, p4, p5⟩ := m4.hps; have fp := m4.hpf))
  exact bodyPost_ret (v := .agg (hapA r.2 a4 n4)) (by simp [results, Tryz.results73, go_sem, p0, p1, p2, p3, p4, p5]; rfl) rfl (m3.told l4 o4 b4 _ _ _ _ _ _)

end
end Go.Proofs.YtgpmhmdofefdcaaGreat

namespace Go.Proofs.YtgpmhmdofefdcaaGreat
open Go.RowKit Go.Sort
set_option linter.unusedVariables false

section
variable (B : Nat) (w : World) (g : Nat) (c : Ct) (s : Sl) (x : Bool)

set_option maxHeartbeats 4000000 in
theorem send_fill (r : Ct × Hp) (hr : r = flagC c 5 0 false) (hx : drW c = true) (h : StB B w g c s) (hS : SndOK c) (hT : TkOK c.tk) (hmo : moC c.cf ≤ 1) (ha : ¬ c.pos + 9 = c.wire.length) (hc : c.tk.l.length ≤ if c.give.ext then 32 else 12) (h5 : c.tk.m = 5) :
    Calls Tryz.prog 73 #[.pointer (some ⟨g, 0, none⟩), .bool false] w (Told B w g s r) := by
  have m0 := Mb.start h
  have hO := fun (w1 : World) (k : StB B w1 g c s) => onWire_any w1 c s k.wi.rl hS.pos
  change ∀ w1, StB B w1 g c s → Calls _ _ _ w1 fun e w' => e = .returned (.bool (drW c)) ∧ _ at hO
  rw [hx] at hO
  have hK := fun (w1 : World) (k : StB B w1 g c s) => atAck_st B w1 g c s k hS.len (by have := hS.pos; have := hS.len; omega)
  rw [decide_eq_false ha] at hK
  have hI := fun (w1 : World) (k : StB B w1 g c s) => inContest_st B w1 g c s k
  rw [decide_eq_true hc] at hI
  have hW := fun (w1 : World) => owed_any w1 c.tk.b c.tk.m (by omega)
  rw [decide_eq_true h5] at hW
  have hM := fun (w1 : World) (k : StB B w1 g c s) => mode_st B w1 g c s k
  have hr2 : r = ({ newC c (if moC c.cf = 1 then 3 else 2) with err := true }, (5, zeroFr)) := by
    rw [hr]; unfold flagC cntC
    rw [if_pos (rfl : (0 : Nat) = 0), if_neg (by omega)]; rfl
  have hF : ∀ w1, StB B w1 g c s → Calls Tryz.prog 85 #[.pointer (some ⟨g, 0, none⟩), .int .u8 (moC c.cf : Int), .int .u8 5] w1 (Told B w1 g s r) := fun w1 k => by
    rw [hr2]; exact flag_st B w1 g c s (moC c.cf) 5 k hmo
  clear hr hr2 hx h hS hT hmo ha hc h5
  generalize moC c.cf = mo at *
  go_enter Tryz.func73, Tryz.ntmps73
  go_wp2_with (first
    | (with_reducible refine wpList_loadR rowC rfl _ rfl _ rfl m0.st.box rfl ?_)
    | (go_at_call 54; (with_reducible refine (hO _ m0.st).mono ?_); rintro e w1 ⟨rfl, g1⟩; have m1 := m0.call g1)
    | (go_at_call 87; (with_reducible refine (hK _ m1.st).mono ?_); rintro e w2 ⟨rfl, g2⟩; have m2 := m1.call g2)
    | (go_at_call 89; (with_reducible refine (hI _ m2.st).mono ?_); rintro e w3 ⟨rfl, g3⟩; have m3 := m2.call g3; have q17 := m3.st.q17; have q18 := m3.st.q18)
    | (go_at_call 50; (with_reducible refine (hW _).mono ?_); rintro e w5 ⟨rfl, g5⟩; have m5 := m3.call g5)
    | (go_at_call 81; (with_reducible refine (hM _ m5.st).mono ?_); rintro e w6 ⟨rfl, g6⟩; have m6 := m5.call g6)
    | (go_at_call 85; (with_reducible refine (hF _ m6.st).mono ?_); rintro e w4 ⟨s4, a4, n4, rfl, l4, o4, b4⟩; have m4 := m6.left l4; obtain ⟨p0, p1, p2, p3, p4, p5⟩ := m4.hps; have fp := m4.hpf))
  exact bodyPost_ret (v := .agg (hapA r.2 a4 n4)) (by simp [results, Tryz.results73, go_sem, p0, p1, p2, p3, p4, p5]; rfl) rfl (m6.told l4 o4 b4 _ _ _ _ _ _)

end
end Go.Proofs.YtgpmhmdofefdcaaGreat

namespace Go.Proofs.YtgpmhmdofefdcaaGreat
open Go.RowKit Go.Sort
set_option linter.unusedVariables false

section
variable {B g : Nat} {w wr w2 : World} {c c' : Ct} {s s1 s2 : Sl}
theorem Mb.lostA (h : Mb B w wr g c s s1) (t : Tk) (a : Option Addr) (k : Nat) {b : Nat} (ho : OL .bool 4 b wr a t.l.length k t.l) (hb : w.heap.size < b) (hB : B ≤ g) :
    Mb B w ((((((wr.setCell ⟨g, 17, none⟩ (.bool t.b)).setCell ⟨g, 18, none⟩ (.int .u8 (t.m : Int))).setCell ⟨g, 19, none⟩ (.slice a t.l.length k)).setCell ⟨g, 20, none⟩ (.int .u8 (t.p : Int))).setCell ⟨g, 21, none⟩ (.bool t.fi)).setCell ⟨g, 13, none⟩ (.bool false)) g { c with tk := t, sends := false } s { s1 with ta := a, tc := k } :=
  (h.putTk t a k ho hb hB).put 13 (.bool false) { c with tk := t, sends := false } rfl rfl rfl rfl
theorem Mb.lostB (h : Mb B w wr g c s s1) : Mb B w ((wr.setCell ⟨g, 14, none⟩ (.bool false)).setCell ⟨g, 15, none⟩ (.slice none 0 0)) g { c with sender := false, wire := [] } s { s1 with wa := none, wc := 0 } :=
  (h.put 14 (.bool false) { c with sender := false } rfl rfl rfl rfl).putW0
theorem Mb.lostC (h : Mb B w wr g c s s1) : Mb B w (wr.setCell ⟨g, 16, none⟩ (.int .i64 0)) g { c with pos := 0 } s s1 :=
  h.put 16 (.int .i64 0) { c with pos := 0 } rfl rfl rfl rfl
end

section
variable (B : Nat) (w : World) (g : Nat) (c : Ct) (s : Sl) (x : Bool)

set_option maxHeartbeats 1000000 in
theorem send_lost (r : Ct × Hp) (hr : r = ({ c with tk := (nxT c.tk false).1, sends := false, sender := false, wire := [], pos := 0 }, (3, zeroFr))) (hx : drW c = true) (h : StB B w g c s) (hS : SndOK c) (hT : TkOK c.tk) (ha : ¬ c.pos + 9 = c.wire.length) (hc : c.tk.l.length ≤ if c.give.ext then 32 else 12) (h5 : c.tk.m ≠ 5) :
    Calls Tryz.prog 73 #[.pointer (some ⟨g, 0, none⟩), .bool false] w (Told B w g s r) := by
  have m0 := Mb.start h
  have hB := h.hB
  have hg := h.lt
  have hO := fun (w1 : World) (k : StB B w1 g c s) => onWire_any w1 c s k.wi.rl hS.pos
  change ∀ w1, StB B w1 g c s → Calls _ _ _ w1 fun e w' => e = .returned (.bool (drW c)) ∧ _ at hO
  rw [hx] at hO
  have hK := fun (w1 : World) (k : StB B w1 g c s) => atAck_st B w1 g c s k hS.len (by have := hS.pos; have := hS.len; omega)
  rw [decide_eq_false ha] at hK
  have hI := fun (w1 : World) (k : StB B w1 g c s) => inContest_st B w1 g c s k
  rw [decide_eq_true hc] at hI
  have hW := fun (w1 : World) => owed_any w1 c.tk.b c.tk.m (by have := hT.ri.1; omega)
  rw [decide_eq_false h5] at hW
  have hN := fun (w1 : World) (h1 : RL .bool w1 s.ta c.tk.l.length s.tc c.tk.l) => read_next w1 c.tk s.ta s.tc false h1 hT
  generalize (nxT c.tk false).1 = t' at *
  generalize (nxT c.tk false).2 = q at *
  have H1 := hid (show r.1 = { { { { c with tk := t' } with sends := false } with sender := false, wire := [] } with pos := 0 } by rw [hr])
  have H2 := hid (show r.2 = (3, zeroFr) by rw [hr])
  clear hr hx h hS hT ha hc h5
  go_enter Tryz.func73, Tryz.ntmps73
  go_upto_region 13 with (first
    | (with_reducible refine wpList_loadR rowC rfl _ rfl _ rfl m0.st.box rfl ?_)
    | (go_at_call 54; (with_reducible refine (hO _ m0.st).mono ?_); rintro e w1 ⟨rfl, g1⟩; have m1 := m0.call g1)
    | (go_at_call 87; (with_reducible refine (hK _ m1.st).mono ?_); rintro e w2 ⟨rfl, g2⟩; have m2 := m1.call g2)
    | (go_at_call 89; (with_reducible refine (hI _ m2.st).mono ?_); rintro e w3 ⟨rfl, g3⟩; have m3 := m2.call g3; have q17 := m3.st.q17; have q18 := m3.st.q18)
    | (go_at_call 50; (with_reducible refine (hW _).mono ?_); rintro e w5 ⟨rfl, g5⟩; have m5 := m3.call g5; clear q17 q18; have q17 := m5.st.q17; have q18 := m5.st.q18; have q19 := m5.st.q19; have q20 := m5.st.q20; have q21 := m5.st.q21)
    | (go_at_call 84; (with_reducible refine (hN _ m5.st.ti.rl).mono ?_); rintro e w6 ⟨a6, c6, rfl, o6, g6⟩; have z5 := m5.size; have z6 := g6.size; have m6 := m5.call g6; have m7 := m6.putTk t' a6 c6 o6 (by omega) hB; have f := m6.st.fz; clear q17 q18 q19 q20 q21; have q13 := m6.st.q13; have q14 := m6.st.q14; have q15 := m6.st.q15; have q16 := m6.st.q16; have q17 := m6.st.q17; have q18 := m6.st.q18; have q19 := m6.st.q19; have q20 := m6.st.q20; have q21 := m6.st.q21))
  clear f q13 q14 q15 q16 q17 q18 q19 q20 q21 o6 g6 m6 m5 m3 m2 m1 m0 g1 g2 g3 g5 hN hW hI hK hO z5 z6
  generalize (((((w6.setCell ⟨g, 17, none⟩ (.bool t'.b)).setCell ⟨g, 18, none⟩ (.int .u8 (t'.m : Int))).setCell ⟨g, 19, none⟩ (.slice a6 t'.l.length c6)).setCell ⟨g, 20, none⟩ (.int .u8 (t'.p : Int))).setCell ⟨g, 21, none⟩ (.bool t'.fi)) = W at *
  have m8 := (((m7.put 13 (.bool false) { { c with tk := t' } with sends := false } rfl rfl rfl rfl).lostB).lostC)
  have q13 := m7.st.q13
  have q14 := m7.st.q14
  have q15 := m7.st.q15
  have q16 := m7.st.q16
  have f := m7.st.fz
  obtain ⟨p0, p1, p2, p3, p4, p5⟩ := m8.hps
  have fp := m8.hpf
  go_wp2
  exact bodyPost_ret (v := .agg (hapA (3, zeroFr) none 0)) (by simp [results, Tryz.results73, go_sem, p0, p1, p2, p3, p4, p5]; rfl) rfl (m8.six 3 H1.out H2.out _ _ _ _ _ _)

end
end Go.Proofs.YtgpmhmdofefdcaaGreat

namespace Go.Proofs.YtgpmhmdofefdcaaGreat
open Go.RowKit Go.Sort
set_option linter.unusedVariables false

section
variable (B : Nat) (w : World) (g : Nat) (c : Ct) (s : Sl) (x : Bool)

theorem send_st (r : Ct × Hp) (hr : r = sndC c x) (h : StB B w g c s) (hS : SndOK c) (hT : TkOK c.tk) (hmo : moC c.cf ≤ 1) :
    Calls Tryz.prog 73 #[.pointer (some ⟨g, 0, none⟩), .bool x] w (Told B w g s r) := by
  by_cases hx : drW c = x
  · exact send_same B w g c s x r hr hx h hS hT hmo
  · unfold sndC at hr
    by_cases ha : c.pos + 9 = c.wire.length
    · have hd : drW c = true := hS.ack ha
      obtain rfl : x = false := by cases x <;> simp_all
      rw [if_pos ha, if_pos rfl] at hr
      exact send_ack B w g c s r hr hd h hS hT ha
    · rw [if_neg ha, if_neg (show ¬ c.wire[c.pos]?.getD false = x from hx)] at hr
      cases x
      · have hd : drW c = true := by cases hd : drW c <;> simp_all
        have h1 := hS.one
        by_cases hc : c.tk.l.length ≤ if c.give.ext then 32 else 12
        · rw [if_neg (fun e => by rcases e with e | e | e; exact absurd e (by decide); omega; omega)] at hr
          by_cases h5 : c.tk.m = 5
          · rw [if_pos h5] at hr
            exact send_fill B w g c s r hr hd h hS hT hmo ha hc h5
          · rw [if_neg h5] at hr
            exact send_lost B w g c s r hr hd h hS hT ha hc h5
        · rw [if_pos (.inr (.inr (by omega)))] at hr
          exact send_late B w g c s r hr hd h hS hmo ha hc
      · have hd : drW c = false := by cases hd : drW c <;> simp_all
        rw [if_pos (.inl rfl)] at hr
        exact send_rec B w g c s r hr hd h hS hmo

set_option maxHeartbeats 4000000 in
/-- PhaseFrame. -/
theorem inFrame_st (r : Ct × Hp) (hr : r = if c.sends then sndC c x else rcvC c x) (h : StB B w g c s) (hS : c.sends = true → SndOK c) (hT : TkOK c.tk) (hmo : moC c.cf ≤ 1) :
    Calls Tryz.prog 57 #[.pointer (some ⟨g, 0, none⟩), .bool x] w (Told B w g s r) := by
  have m0 := Mb.start h
  have q13 := m0.st.q13
  cases hs : c.sends
  · rw [hs] at hr q13
    simp only [Bool.false_eq_true, if_false] at hr
    have hF := fun (w1 : World) (k : StB B w1 g c s) => read_st B w1 g c s x r hr k hT hmo
    clear hr hs h hS hT hmo
    go_enter Tryz.func57, Tryz.ntmps57
    go_wp2_with (go_at_call 74; (with_reducible refine (hF _ m0.st).mono ?_); rintro e w4 ⟨s4, a4, n4, rfl, l4, o4, b4⟩; have m4 := m0.left l4; obtain ⟨p0, p1, p2, p3, p4, p5⟩ := m4.hps; have fp := m4.hpf)
    exact bodyPost_ret (v := .agg (hapA r.2 a4 n4)) (by simp [results, Tryz.results57, go_sem, p0, p1, p2, p3, p4, p5]; rfl) rfl (m0.told l4 o4 b4 _ _ _ _ _ _)
  · have hS' := hS hs
    rw [hs] at hr q13
    simp only [if_true] at hr
    have hF := fun (w1 : World) (k : StB B w1 g c s) => send_st B w1 g c s x r hr k hS' hT hmo
    clear hr hs h hS hS' hT hmo
    go_enter Tryz.func57, Tryz.ntmps57
    go_wp2_with (go_at_call 73; (with_reducible refine (hF _ m0.st).mono ?_); rintro e w4 ⟨s4, a4, n4, rfl, l4, o4, b4⟩; have m4 := m0.left l4; obtain ⟨p0, p1, p2, p3, p4, p5⟩ := m4.hps; have fp := m4.hpf)
    exact bodyPost_ret (v := .agg (hapA r.2 a4 n4)) (by simp [results, Tryz.results57, go_sem, p0, p1, p2, p3, p4, p5]; rfl) rfl (m0.told l4 o4 b4 _ _ _ _ _ _)
end
end Go.Proofs.YtgpmhmdofefdcaaGreat

namespace Go.Proofs.YtgpmhmdofefdcaaGreat
open Go.RowKit Go.Sort
set_option linter.unusedVariables false

/-- The state behind a bit of a weak flag, as far as the bits alike go. -/
def wkN (d : Ct) (x : Bool) : Nat := if 0 < d.n ∧ d.rl = x then d.n + 1 else 1
def wkD (d : Ct) (x : Bool) : Ct := if wkN d x = 6 then newC d 5 else { d with n := wkN d x, rl := x }

theorem wkD_same (d : Ct) (x : Bool) (h : d.rl = x) : wkD d x = if ({ d with rl := x } : Ct).n + 1 = 6 then newC { d with rl := x } 5 else { ({ d with rl := x } : Ct) with n := ({ d with rl := x } : Ct).n + 1 } := by
  have hw : wkN d x = d.n + 1 := by
    unfold wkN
    by_cases h0 : 0 < d.n
    · rw [if_pos ⟨h0, h⟩]
    · rw [if_neg (fun k => h0 k.1)]; omega
  unfold wkD
  rw [hw]
  rfl

theorem wkD_other (d : Ct) (x : Bool) (h : d.rl ≠ x) : wkD d x = if ({ { d with n := 0 } with rl := x } : Ct).n + 1 = 6 then newC { { d with n := 0 } with rl := x } 5 else { ({ { d with n := 0 } with rl := x } : Ct) with n := ({ { d with n := 0 } with rl := x } : Ct).n + 1 } := by
  have hw : wkN d x = 0 + 1 := by
    unfold wkN
    rw [if_neg (fun k => h k.2)]
  unfold wkD
  rw [hw]
  rfl

set_option maxHeartbeats 4000000 in
/-- PhaseWeak. -/
theorem weak_st (B : Nat) (w : World) (g : Nat) (c : Ct) (s : Sl) (x : Bool) (r : Ct × Hp) (hr : r = weakC c x) (h : StB B w g c s) (hmo : moC c.cf ≤ 1) (hn : c.n ≤ 1000000000) :
    Calls Tryz.prog 59 #[.pointer (some ⟨g, 0, none⟩), .bool x] w (Told B w g s r) := by
  have m0 := Mb.start h
  have q25 := m0.st.q25
  have q22 := m0.st.q22
  have q1 := m0.st.q1
  have f := m0.st.fz
  by_cases ho : c.owed = true ∧ x = false
  · obtain ⟨ho, rfl⟩ := ho
    rw [ho] at q25
    have m1 := m0.put 25 (.bool false) { c with owed := false } rfl rfl rfl rfl
    by_cases hm : moC (evC c.cf 5) = 2
    · have hG : ∀ w1, StB B w1 g { c with owed := false } s → Calls Tryz.prog 75 #[.pointer (some ⟨g, 0, none⟩), .int .u8 5] w1 fun e w' => e = .returned (.bool true) ∧ Left B w1 w' g { newC { { c with owed := false } with cf := evC c.cf 5 } 9 with sender := false } s s.new := fun w1 h1 => goesOff_yes B w1 g { c with owed := false } s 5 (by omega) h1 hm
      unfold weakC at hr
      rw [if_pos ⟨ho, rfl, hm⟩] at hr
      have H1 := hid (show r.1 = { newC { { c with owed := false } with cf := evC c.cf 5 } 9 with sender := false } by rw [hr]; rfl)
      have H2 := hid (show r.2 = (10, zeroFr) by rw [hr]; rfl)
      clear hm h hr hmo hn ho
      go_enter Tryz.func59, Tryz.ntmps59
      go_wp2_with (go_at_call 75; (with_reducible refine (hG _ m1.st).mono ?_); rintro e w3 ⟨rfl, l3⟩; have m3 := m1.left l3; obtain ⟨p0, p1, p2, p3, p4, p5⟩ := m3.hps; have fp := m3.hpf)
      exact bodyPost_ret (v := .agg (hapA (10, zeroFr) none 0)) (by simp [results, Tryz.results59, go_sem, p0, p1, p2, p3, p4, p5]; rfl) rfl (m3.six 10 H1.out H2.out _ _ _ _ _ _)
    · have hG : ∀ w1, StB B w1 g { c with owed := false } s → Calls Tryz.prog 75 #[.pointer (some ⟨g, 0, none⟩), .int .u8 5] w1 fun e w' => e = .returned (.bool false) ∧ Left B w1 w' g { { c with owed := false } with cf := evC c.cf 5 } s s := fun w1 h1 => goesOff_no B w1 g { c with owed := false } s 5 (by omega) h1 hm
      unfold weakC at hr
      rw [if_neg (fun k => hm k.2.2)] at hr
      obtain ⟨d, hd⟩ : ∃ d, d = ({ { c with owed := false } with cf := evC c.cf 5 } : Ct) := ⟨_, rfl⟩
      have hr1 : r.1 = wkD d false := by rw [hr, hd]; simp [ho, wkD, wkN]
      have H2 := hid (show r.2 = (0, zeroFr) by rw [hr]; rfl)
      have hdn : d.n ≤ 1000000000 := by rw [hd]; exact hn
      simp only [← hd] at hG
      clear hd hm h hr hmo hn ho
      cases hrl : d.rl
      · have hO : ∀ w1, StB B w1 g { d with rl := false } s → Calls Tryz.prog 77 #[.pointer (some ⟨g, 0, none⟩), .int .i64 6, .int .u8 5] w1 fun e w' => e = .returned (.tuple #[]) ∧ ∃ s', Left B w1 w' g r.1 s s' := fun w1 k => oneMore_any B w1 g { d with rl := false } s 6 5 r.1 (by rw [hr1, wkD_same d false hrl]) k hdn
        have HL := hid hrl
        clear hr1 hrl hdn
        go_enter Tryz.func59, Tryz.ntmps59
        go_wp2_with (first
          | (go_at_call 75; (with_reducible refine (hG _ m1.st).mono ?_); rintro e w3 ⟨rfl, l3⟩; have m3 := m1.left l3; have m4 := m3.put 22 (.bool false) { d with rl := false } rfl rfl rfl rfl; clear q22 q1 f; have q22 := m3.st.q22; rw [HL.out] at q22; have f := m3.st.fz)
          | (go_at_call 77; (with_reducible refine (hO _ m4.st).mono ?_); rintro e w5 ⟨rfl, s5, l5⟩; have m5 := m4.left l5; obtain ⟨p0, p1, p2, p3, p4, p5⟩ := m5.hps; have fp := m5.hpf))
        exact bodyPost_ret (v := .agg (hapA (0, zeroFr) none 0)) (by simp [results, Tryz.results59, go_sem, p0, p1, p2, p3, p4, p5]; rfl) rfl (m5.six 0 rfl H2.out _ _ _ _ _ _)
      · have hO : ∀ w1, StB B w1 g { { d with n := 0 } with rl := false } s → Calls Tryz.prog 77 #[.pointer (some ⟨g, 0, none⟩), .int .i64 6, .int .u8 5] w1 fun e w' => e = .returned (.tuple #[]) ∧ ∃ s', Left B w1 w' g r.1 s s' := fun w1 k => oneMore_any B w1 g { { d with n := 0 } with rl := false } s 6 5 r.1 (by rw [hr1, wkD_other d false (by rw [hrl]; decide)]) k (by simp)
        have HL := hid hrl
        clear hr1 hrl hdn
        go_enter Tryz.func59, Tryz.ntmps59
        go_wp2_with (first
          | (go_at_call 75; (with_reducible refine (hG _ m1.st).mono ?_); rintro e w3 ⟨rfl, l3⟩; have m3 := m1.left l3; have m4 := (m3.put 1 (.int .i64 0) { d with n := 0 } rfl rfl rfl rfl).put 22 (.bool false) { { d with n := 0 } with rl := false } rfl rfl rfl rfl; clear q22 q1 f; have q22 := m3.st.q22; have q1 := m3.st.q1; rw [HL.out] at q22; have f := m3.st.fz)
          | (go_at_call 77; (with_reducible refine (hO _ m4.st).mono ?_); rintro e w5 ⟨rfl, s5, l5⟩; have m5 := m4.left l5; obtain ⟨p0, p1, p2, p3, p4, p5⟩ := m5.hps; have fp := m5.hpf))
        exact bodyPost_ret (v := .agg (hapA (0, zeroFr) none 0)) (by simp [results, Tryz.results59, go_sem, p0, p1, p2, p3, p4, p5]; rfl) rfl (m5.six 0 rfl H2.out _ _ _ _ _ _)
  · have hr' : r = (wkD c x, (0, zeroFr)) := by
      rw [hr]; unfold weakC
      rw [if_neg (fun k => ho ⟨k.1, k.2.1⟩)]
      have : (c.owed && !x) = false := by cases h1 : c.owed <;> cases x <;> simp_all
      simp only [this]
      unfold wkD wkN noH
      simp only [Bool.false_eq_true, if_false]
      
    clear hr
    have H2 := hid (show r.2 = (0, zeroFr) by rw [hr'])
    have hr1 : r.1 = wkD c x := by rw [hr']
    have hT : x = true ∨ c.owed = false := by cases x <;> cases h1 : c.owed <;> simp_all
    clear hr' ho hmo
    by_cases hrl : c.rl = x
    · have hO : ∀ w1, StB B w1 g { c with rl := x } s → Calls Tryz.prog 77 #[.pointer (some ⟨g, 0, none⟩), .int .i64 6, .int .u8 5] w1 fun e w' => e = .returned (.tuple #[]) ∧ ∃ s', Left B w1 w' g r.1 s s' := fun w1 k => oneMore_any B w1 g { c with rl := x } s 6 5 r.1 (by rw [hr1, wkD_same c x hrl]) k hn
      rw [hrl] at q22
      have m1 := m0.put 22 (.bool x) { c with rl := x } rfl rfl rfl rfl
      clear hrl hr1 h hn
      cases x
      · rcases hT with hT | hT
        · cases hT
        rw [hT] at q25
        clear hT
        go_enter Tryz.func59, Tryz.ntmps59
        go_wp2_with (go_at_call 77; (with_reducible refine (hO _ m1.st).mono ?_); rintro e w5 ⟨rfl, s5, l5⟩; have m5 := m1.left l5; obtain ⟨p0, p1, p2, p3, p4, p5⟩ := m5.hps; have fp := m5.hpf)
        exact bodyPost_ret (v := .agg (hapA (0, zeroFr) none 0)) (by simp [results, Tryz.results59, go_sem, p0, p1, p2, p3, p4, p5]; rfl) rfl (m5.six 0 rfl H2.out _ _ _ _ _ _)
      · clear hT
        go_enter Tryz.func59, Tryz.ntmps59
        go_wp2_with (go_at_call 77; (with_reducible refine (hO _ m1.st).mono ?_); rintro e w5 ⟨rfl, s5, l5⟩; have m5 := m1.left l5; obtain ⟨p0, p1, p2, p3, p4, p5⟩ := m5.hps; have fp := m5.hpf)
        exact bodyPost_ret (v := .agg (hapA (0, zeroFr) none 0)) (by simp [results, Tryz.results59, go_sem, p0, p1, p2, p3, p4, p5]; rfl) rfl (m5.six 0 rfl H2.out _ _ _ _ _ _)
    · have hO : ∀ w1, StB B w1 g { { c with n := 0 } with rl := x } s → Calls Tryz.prog 77 #[.pointer (some ⟨g, 0, none⟩), .int .i64 6, .int .u8 5] w1 fun e w' => e = .returned (.tuple #[]) ∧ ∃ s', Left B w1 w' g r.1 s s' := fun w1 k => oneMore_any B w1 g { { c with n := 0 } with rl := x } s 6 5 r.1 (by rw [hr1, wkD_other c x hrl]) k (by simp)
      have m1 := (m0.put 1 (.int .i64 0) { c with n := 0 } rfl rfl rfl rfl).put 22 (.bool x) { { c with n := 0 } with rl := x } rfl rfl rfl rfl
      have hx : c.rl = !x := by cases h1 : c.rl <;> cases x <;> simp_all
      rw [hx] at q22
      clear hrl hr1 h hn hx
      cases x
      · rcases hT with hT | hT
        · cases hT
        rw [hT] at q25
        clear hT
        simp only [Bool.not_false] at q22
        go_enter Tryz.func59, Tryz.ntmps59
        go_wp2_with (go_at_call 77; (with_reducible refine (hO _ m1.st).mono ?_); rintro e w5 ⟨rfl, s5, l5⟩; have m5 := m1.left l5; obtain ⟨p0, p1, p2, p3, p4, p5⟩ := m5.hps; have fp := m5.hpf)
        exact bodyPost_ret (v := .agg (hapA (0, zeroFr) none 0)) (by simp [results, Tryz.results59, go_sem, p0, p1, p2, p3, p4, p5]; rfl) rfl (m5.six 0 rfl H2.out _ _ _ _ _ _)
      · clear hT
        simp only [Bool.not_true] at q22
        go_enter Tryz.func59, Tryz.ntmps59
        go_wp2_with (go_at_call 77; (with_reducible refine (hO _ m1.st).mono ?_); rintro e w5 ⟨rfl, s5, l5⟩; have m5 := m1.left l5; obtain ⟨p0, p1, p2, p3, p4, p5⟩ := m5.hps; have fp := m5.hpf)
        exact bodyPost_ret (v := .agg (hapA (0, zeroFr) none 0)) (by simp [results, Tryz.results59, go_sem, p0, p1, p2, p3, p4, p5]; rfl) rfl (m5.six 0 rfl H2.out _ _ _ _ _ _)
end Go.Proofs.YtgpmhmdofefdcaaGreat
