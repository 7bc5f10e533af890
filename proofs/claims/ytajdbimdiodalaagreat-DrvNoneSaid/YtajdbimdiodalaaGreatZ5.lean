/-
  Texts of this place, put together: B8g, B8i, B8p, B8r, B8u, M8j, B1, M9. What stands here is used by the statement; conditions: none of their own.
-/
import Derived.Test.YtajdbimdiodalaaGreatZ4
import Derived.Deep.LoopGhost
import Derived.Deep.Light
import Derived.Deep.DeepCutAuto
namespace Go.Proofs.YtajdbimdiodalaaGreat
open Go.RowKit Go.Sort
set_option linter.unusedVariables false

section
variable (B : Nat) (w : World) (g : Nat) (c : Ct) (s : Sl) (x : Bool)

/-- What a sender drives. -/
def drW (c : Ct) : Bool := c.wire[c.pos]?.getD false

set_option maxHeartbeats 4000000 in
theorem asDriven_st (r : Ct × Hp) (hr : r = sndC c x) (hx : drW c = x) (h : StB B w g c s) (hS : SndOK c) (hT : TkOK c.tk) (hmo : moC c.cf ≤ 1) :
    Calls Tryz.prog 168 #[.pointer (some ⟨g, 0, none⟩), .bool x] w (Told B w g s r) := by
  unfold sndC at hr
  by_cases ha : c.pos + 9 = c.wire.length
  · have hxt : x = true := by rw [← hx]; exact hS.ack ha
    rw [if_pos ha, if_neg (by rw [hxt]; decide)] at hr
    exact asDriven_ack B w g c s x r hr h hS hmo ha
  · rw [if_neg ha, if_pos (show c.wire[c.pos]?.getD false = x from hx)] at hr
    by_cases hl : c.pos + 1 < c.wire.length
    · rw [if_pos hl] at hr
      exact asDriven_on B w g c s x r hr h hS hT ha hl
    · rw [if_neg hl] at hr
      exact asDriven_sent B w g c s x r hr h hS ha hl

set_option maxHeartbeats 4000000 in
theorem send_same (r : Ct × Hp) (hr : r = sndC c x) (hx : drW c = x) (h : StB B w g c s) (hS : SndOK c) (hT : TkOK c.tk) (hmo : moC c.cf ≤ 1) :
    Calls Tryz.prog 147 #[.pointer (some ⟨g, 0, none⟩), .bool x] w (Told B w g s r) := by
  have m0 := Mb.start h
  have hO := fun (w1 : World) (k : StB B w1 g c s) => onWire_any w1 c s k.wi.rl hS.pos
  change ∀ w1, StB B w1 g c s → Calls _ _ _ w1 fun e w' => e = .returned (.bool (drW c)) ∧ _ at hO
  rw [hx] at hO
  have hA := fun (w1 : World) (k : StB B w1 g c s) => asDriven_st B w1 g c s x r hr hx k hS hT hmo
  clear hr hx h hS hT hmo
  cases x
  all_goals
    go_enter Tryz.func147, Tryz.ntmps147
    go_wp2_with (first
      | (with_reducible refine wpList_loadR rowC rfl _ rfl _ rfl m0.st.box rfl ?_)
      | (go_at_call 92; (with_reducible refine (hO _ m0.st).mono ?_); rintro e w1 ⟨rfl, g1⟩; have m1 := m0.call g1)
      | (go_at_call 168; (with_reducible refine (hA _ m1.st).mono ?_); rintro e w4 ⟨s4, a4, n4, rfl, l4, o4, b4⟩; have m4 := m1.left l4; obtain ⟨p0, p1, p2, p3, p4, p5⟩ := m4.hps; have fp := m4.hpf))
    exact bodyPost_ret (v := .agg (hapA r.2 a4 n4)) (by simp [results, Tryz.results147, go_sem, p0, p1, p2, p3, p4, p5]; rfl) rfl (m1.told l4 o4 b4 _ _ _ _ _ _)

end
end Go.Proofs.YtajdbimdiodalaaGreat

namespace Go.Proofs.YtajdbimdiodalaaGreat
open Go.RowKit Go.Sort
set_option linter.unusedVariables false

section
variable (B : Nat) (w : World) (g : Nat) (c : Ct) (s : Sl) (x : Bool)

set_option maxHeartbeats 4000000 in
theorem send_rec (r : Ct × Hp) (hr : r = failC c 4) (hx : drW c = false) (h : StB B w g c s) (hS : SndOK c) (hmo : moC c.cf ≤ 1) :
    Calls Tryz.prog 147 #[.pointer (some ⟨g, 0, none⟩), .bool true] w (Told B w g s r) := by
  have m0 := Mb.start h
  have hO := fun (w1 : World) (k : StB B w1 g c s) => onWire_any w1 c s k.wi.rl hS.pos
  change ∀ w1, StB B w1 g c s → Calls _ _ _ w1 fun e w' => e = .returned (.bool (drW c)) ∧ _ at hO
  rw [hx] at hO
  have hF := fun (w1 : World) (k : StB B w1 g c s) => fail_st B w1 g c s 4 r hr k hmo
  simp only [show ((4 : Nat) : Int) = 4 from rfl] at hF
  clear hr hx h hS hmo
  go_enter Tryz.func147, Tryz.ntmps147
  go_wp2_with (first
    | (with_reducible refine wpList_loadR rowC rfl _ rfl _ rfl m0.st.box rfl ?_)
    | (go_at_call 92; (with_reducible refine (hO _ m0.st).mono ?_); rintro e w1 ⟨rfl, g1⟩; have m1 := m0.call g1)
    | (go_at_call 146; (with_reducible refine (hF _ m1.st).mono ?_); rintro e w4 ⟨s4, a4, n4, rfl, l4, o4, b4⟩; have m4 := m1.left l4; obtain ⟨p0, p1, p2, p3, p4, p5⟩ := m4.hps; have fp := m4.hpf))
  exact bodyPost_ret (v := .agg (hapA r.2 a4 n4)) (by simp [results, Tryz.results147, go_sem, p0, p1, p2, p3, p4, p5]; rfl) rfl (m1.told l4 o4 b4 _ _ _ _ _ _)

end
end Go.Proofs.YtajdbimdiodalaaGreat

namespace Go.Proofs.YtajdbimdiodalaaGreat
open Go.RowKit Go.Sort
set_option linter.unusedVariables false

section
variable (B : Nat) (w : World) (g : Nat) (c : Ct) (s : Sl) (x : Bool)

set_option maxHeartbeats 4000000 in
theorem send_ack (r : Ct × Hp) (hr : r = ({ c with tk := (nxT c.tk false).1, pos := c.pos + 1 }, noH)) (hx : drW c = true) (h : StB B w g c s) (hS : SndOK c) (hT : TkOK c.tk) (ha : c.pos + 9 = c.wire.length) :
    Calls Tryz.prog 147 #[.pointer (some ⟨g, 0, none⟩), .bool false] w (Told B w g s r) := by
  have m0 := Mb.start h
  have hO := fun (w1 : World) (k : StB B w1 g c s) => onWire_any w1 c s k.wi.rl hS.pos
  change ∀ w1, StB B w1 g c s → Calls _ _ _ w1 fun e w' => e = .returned (.bool (drW c)) ∧ _ at hO
  rw [hx] at hO
  have hK := fun (w1 : World) (k : StB B w1 g c s) => atAck_st B w1 g c s k hS.len (by have := hS.pos; have := hS.len; omega)
  rw [decide_eq_true ha] at hK
  have hU := fun (w1 : World) (k : StB B w1 g c s) => goOn_st B w1 g c s false r hr k hT (by have := hS.pos; have := hS.len; omega)
  clear hr hx h hS hT ha
  go_enter Tryz.func147, Tryz.ntmps147
  go_wp2_with (first
    | (with_reducible refine wpList_loadR rowC rfl _ rfl _ rfl m0.st.box rfl ?_)
    | (go_at_call 92; (with_reducible refine (hO _ m0.st).mono ?_); rintro e w1 ⟨rfl, g1⟩; have m1 := m0.call g1)
    | (go_at_call 169; (with_reducible refine (hK _ m1.st).mono ?_); rintro e w2 ⟨rfl, g2⟩; have m2 := m1.call g2)
    | (go_at_call 170; (with_reducible refine (hU _ m2.st).mono ?_); rintro e w4 ⟨s4, a4, n4, rfl, l4, o4, b4⟩; have m4 := m2.left l4; obtain ⟨p0, p1, p2, p3, p4, p5⟩ := m4.hps; have fp := m4.hpf))
  exact bodyPost_ret (v := .agg (hapA r.2 a4 n4)) (by simp [results, Tryz.results147, go_sem, p0, p1, p2, p3, p4, p5]; rfl) rfl (m2.told l4 o4 b4 _ _ _ _ _ _)

end
end Go.Proofs.YtajdbimdiodalaaGreat

namespace Go.Proofs.YtajdbimdiodalaaGreat
open Go.RowKit Go.Sort
set_option linter.unusedVariables false

section
variable (B : Nat) (w : World) (g : Nat) (c : Ct) (s : Sl) (x : Bool)

set_option maxHeartbeats 4000000 in
theorem send_late (r : Ct × Hp) (hr : r = failC c 4) (hx : drW c = true) (h : StB B w g c s) (hS : SndOK c) (hmo : moC c.cf ≤ 1) (ha : ¬ c.pos + 9 = c.wire.length) (hc : ¬ c.tk.l.length ≤ if c.give.ext then 32 else 12) :
    Calls Tryz.prog 147 #[.pointer (some ⟨g, 0, none⟩), .bool false] w (Told B w g s r) := by
  have m0 := Mb.start h
  have hO := fun (w1 : World) (k : StB B w1 g c s) => onWire_any w1 c s k.wi.rl hS.pos
  change ∀ w1, StB B w1 g c s → Calls _ _ _ w1 fun e w' => e = .returned (.bool (drW c)) ∧ _ at hO
  rw [hx] at hO
  have hK := fun (w1 : World) (k : StB B w1 g c s) => atAck_st B w1 g c s k hS.len (by have := hS.pos; have := hS.len; omega)
  rw [decide_eq_false ha] at hK
  have hI := fun (w1 : World) (k : StB B w1 g c s) => inContest_st B w1 g c s k
  rw [decide_eq_false hc] at hI
  have hF := fun (w1 : World) (k : StB B w1 g c s) => fail_st B w1 g c s 4 r hr k hmo
  simp only [show ((4 : Nat) : Int) = 4 from rfl] at hF
  clear hr hx h hS hmo ha hc
  go_enter Tryz.func147, Tryz.ntmps147
  go_wp2_with (first
    | (with_reducible refine wpList_loadR rowC rfl _ rfl _ rfl m0.st.box rfl ?_)
    | (go_at_call 92; (with_reducible refine (hO _ m0.st).mono ?_); rintro e w1 ⟨rfl, g1⟩; have m1 := m0.call g1)
    | (go_at_call 169; (with_reducible refine (hK _ m1.st).mono ?_); rintro e w2 ⟨rfl, g2⟩; have m2 := m1.call g2)
    | (go_at_call 171; (with_reducible refine (hI _ m2.st).mono ?_); rintro e w3 ⟨rfl, g3⟩; have m3 := m2.call g3)
    | (go_at_call 146; (with_reducible refine (hF _ m3.st).mono ?_); rintro e w4 ⟨s4, a4, n4, rfl, l4, o4, b4⟩; have m4 := m3.left l4; obtain ⟨p0, p1, p2, p3, p4, p5⟩ := m4.hps; have fp := m4.hpf))
  exact bodyPost_ret (v := .agg (hapA r.2 a4 n4)) (by simp [results, Tryz.results147, go_sem, p0, p1, p2, p3, p4, p5]; rfl) rfl (m3.told l4 o4 b4 _ _ _ _ _ _)

end
end Go.Proofs.YtajdbimdiodalaaGreat

namespace Go.Proofs.YtajdbimdiodalaaGreat
open Go.RowKit Go.Sort
set_option linter.unusedVariables false

section
variable (B : Nat) (w : World) (g : Nat) (c : Ct) (s : Sl) (x : Bool)

set_option maxHeartbeats 4000000 in
theorem send_fill (r : Ct × Hp) (hr : r = flagC c 5 0 false) (hx : drW c = true) (h : StB B w g c s) (hS : SndOK c) (hT : TkOK c.tk) (hmo : moC c.cf ≤ 1) (ha : ¬ c.pos + 9 = c.wire.length) (hc : c.tk.l.length ≤ if c.give.ext then 32 else 12) (h5 : c.tk.m = 5) :
    Calls Tryz.prog 147 #[.pointer (some ⟨g, 0, none⟩), .bool false] w (Told B w g s r) := by
  have m0 := Mb.start h
  have hO := fun (w1 : World) (k : StB B w1 g c s) => onWire_any w1 c s k.wi.rl hS.pos
  change ∀ w1, StB B w1 g c s → Calls _ _ _ w1 fun e w' => e = .returned (.bool (drW c)) ∧ _ at hO
  rw [hx] at hO
  have hK := fun (w1 : World) (k : StB B w1 g c s) => atAck_st B w1 g c s k hS.len (by have := hS.pos; have := hS.len; omega)
  rw [decide_eq_false ha] at hK
  have hI := fun (w1 : World) (k : StB B w1 g c s) => inContest_st B w1 g c s k
  rw [decide_eq_true hc] at hI
  have hW := fun (w1 : World) => owed_any w1 c.tk.b c.tk.m (by omega)
  rw [decide_eq_true h5] at hW
  have hM := fun (w1 : World) (k : StB B w1 g c s) => mode_st B w1 g c s k
  have hr2 : r = ({ newC c (if moC c.cf = 1 then 3 else 2) with err := true }, (5, zeroFr)) := by
    rw [hr]; unfold flagC cntC
    rw [if_pos (rfl : (0 : Nat) = 0), if_neg (by omega)]; rfl
  have hF : ∀ w1, StB B w1 g c s → Calls Tryz.prog 167 #[.pointer (some ⟨g, 0, none⟩), .int .u8 (moC c.cf : Int), .int .u8 5] w1 (Told B w1 g s r) := fun w1 k => by
    rw [hr2]; exact flag_st B w1 g c s (moC c.cf) 5 k hmo
  clear hr hr2 hx h hS hT hmo ha hc h5
  generalize moC c.cf = mo at *
  go_enter Tryz.func147, Tryz.ntmps147
  go_wp2_with (first
    | (with_reducible refine wpList_loadR rowC rfl _ rfl _ rfl m0.st.box rfl ?_)
    | (go_at_call 92; (with_reducible refine (hO _ m0.st).mono ?_); rintro e w1 ⟨rfl, g1⟩; have m1 := m0.call g1)
    | (go_at_call 169; (with_reducible refine (hK _ m1.st).mono ?_); rintro e w2 ⟨rfl, g2⟩; have m2 := m1.call g2)
    | (go_at_call 171; (with_reducible refine (hI _ m2.st).mono ?_); rintro e w3 ⟨rfl, g3⟩; have m3 := m2.call g3; have q17 := m3.st.q17; have q18 := m3.st.q18)
    | (go_at_call 172; (with_reducible refine (hW _).mono ?_); rintro e w5 ⟨rfl, g5⟩; have m5 := m3.call g5)
    | (go_at_call 155; (with_reducible refine (hM _ m5.st).mono ?_); rintro e w6 ⟨rfl, g6⟩; have m6 := m5.call g6)
    | (go_at_call 167; (with_reducible refine (hF _ m6.st).mono ?_); rintro e w4 ⟨s4, a4, n4, rfl, l4, o4, b4⟩; have m4 := m6.left l4; obtain ⟨p0, p1, p2, p3, p4, p5⟩ := m4.hps; have fp := m4.hpf))
  exact bodyPost_ret (v := .agg (hapA r.2 a4 n4)) (by simp [results, Tryz.results147, go_sem, p0, p1, p2, p3, p4, p5]; rfl) rfl (m6.told l4 o4 b4 _ _ _ _ _ _)

end
end Go.Proofs.YtajdbimdiodalaaGreat

namespace Go.Proofs.YtajdbimdiodalaaGreat
open Go.RowKit Go.Sort
set_option linter.unusedVariables false

section
variable {B g : Nat} {w wr w2 : World} {c c' : Ct} {s s1 s2 : Sl}
theorem Mb.lostB (h : Mb B w wr g c s s1) : Mb B w ((wr.setCell ⟨g, 14, none⟩ (.bool false)).setCell ⟨g, 15, none⟩ (.slice none 0 0)) g { c with sender := false, wire := [] } s { s1 with wa := none, wc := 0 } :=
  (h.put 14 (.bool false) { c with sender := false } rfl rfl rfl rfl).putW0
theorem Mb.lostC (h : Mb B w wr g c s s1) : Mb B w (wr.setCell ⟨g, 16, none⟩ (.int .i64 0)) g { c with pos := 0 } s s1 :=
  h.put 16 (.int .i64 0) { c with pos := 0 } rfl rfl rfl rfl
end

section
variable (B : Nat) (w : World) (g : Nat) (c : Ct) (s : Sl) (x : Bool)

set_option maxHeartbeats 1000000 in
theorem send_lost (r : Ct × Hp) (hr : r = ({ c with tk := (nxT c.tk false).1, sends := false, sender := false, wire := [], pos := 0 }, (3, zeroFr))) (hx : drW c = true) (h : StB B w g c s) (hS : SndOK c) (hT : TkOK c.tk) (ha : ¬ c.pos + 9 = c.wire.length) (hc : c.tk.l.length ≤ if c.give.ext then 32 else 12) (h5 : c.tk.m ≠ 5) :
    Calls Tryz.prog 147 #[.pointer (some ⟨g, 0, none⟩), .bool false] w (Told B w g s r) := by
  have m0 := Mb.start h
  have hB := h.hB
  have hg := h.lt
  have hO := fun (w1 : World) (k : StB B w1 g c s) => onWire_any w1 c s k.wi.rl hS.pos
  change ∀ w1, StB B w1 g c s → Calls _ _ _ w1 fun e w' => e = .returned (.bool (drW c)) ∧ _ at hO
  rw [hx] at hO
  have hK := fun (w1 : World) (k : StB B w1 g c s) => atAck_st B w1 g c s k hS.len (by have := hS.pos; have := hS.len; omega)
  rw [decide_eq_false ha] at hK
  have hI := fun (w1 : World) (k : StB B w1 g c s) => inContest_st B w1 g c s k
  rw [decide_eq_true hc] at hI
  have hW := fun (w1 : World) => owed_any w1 c.tk.b c.tk.m (by have := hT.ri.1; omega)
  rw [decide_eq_false h5] at hW
  have hN := fun (w1 : World) (h1 : RL .bool w1 s.ta c.tk.l.length s.tc c.tk.l) => read_next w1 c.tk s.ta s.tc false h1 hT
  generalize (nxT c.tk false).1 = t' at *
  generalize (nxT c.tk false).2 = q at *
  have H1 := hid (show r.1 = { { { { c with tk := t' } with sends := false } with sender := false, wire := [] } with pos := 0 } by rw [hr])
  have H2 := hid (show r.2 = (3, zeroFr) by rw [hr])
  clear hr hx h hS hT ha hc h5
  go_enter Tryz.func147, Tryz.ntmps147
  go_upto_region 13 with (first
    | (with_reducible refine wpList_loadR rowC rfl _ rfl _ rfl m0.st.box rfl ?_)
    | (go_at_call 92; (with_reducible refine (hO _ m0.st).mono ?_); rintro e w1 ⟨rfl, g1⟩; have m1 := m0.call g1)
    | (go_at_call 169; (with_reducible refine (hK _ m1.st).mono ?_); rintro e w2 ⟨rfl, g2⟩; have m2 := m1.call g2)
    | (go_at_call 171; (with_reducible refine (hI _ m2.st).mono ?_); rintro e w3 ⟨rfl, g3⟩; have m3 := m2.call g3; have q17 := m3.st.q17; have q18 := m3.st.q18)
    | (go_at_call 172; (with_reducible refine (hW _).mono ?_); rintro e w5 ⟨rfl, g5⟩; have m5 := m3.call g5; clear q17 q18; have q17 := m5.st.q17; have q18 := m5.st.q18; have q19 := m5.st.q19; have q20 := m5.st.q20; have q21 := m5.st.q21)
    | (go_at_call 165; (with_reducible refine (hN _ m5.st.ti.rl).mono ?_); rintro e w6 ⟨a6, c6, rfl, o6, g6⟩; have z5 := m5.size; have z6 := g6.size; have m6 := m5.call g6; have m7 := m6.putTk t' a6 c6 o6 (by omega) hB; have f := m6.st.fz; clear q17 q18 q19 q20 q21; have q13 := m6.st.q13; have q14 := m6.st.q14; have q15 := m6.st.q15; have q16 := m6.st.q16; have q17 := m6.st.q17; have q18 := m6.st.q18; have q19 := m6.st.q19; have q20 := m6.st.q20; have q21 := m6.st.q21))
  clear f q13 q14 q15 q16 q17 q18 q19 q20 q21 o6 g6 m6 m5 m3 m2 m1 m0 g1 g2 g3 g5 hN hW hI hK hO z5 z6
  generalize (((((w6.setCell ⟨g, 17, none⟩ (.bool t'.b)).setCell ⟨g, 18, none⟩ (.int .u8 (t'.m : Int))).setCell ⟨g, 19, none⟩ (.slice a6 t'.l.length c6)).setCell ⟨g, 20, none⟩ (.int .u8 (t'.p : Int))).setCell ⟨g, 21, none⟩ (.bool t'.fi)) = W at *
  have m8 := (((m7.put 13 (.bool false) { { c with tk := t' } with sends := false } rfl rfl rfl rfl).lostB).lostC)
  have q13 := m7.st.q13
  have q14 := m7.st.q14
  have q15 := m7.st.q15
  have q16 := m7.st.q16
  have f := m7.st.fz
  obtain ⟨p0, p1, p2, p3, p4, p5⟩ := m8.hps
  have fp := m8.hpf
  go_wp2
  exact bodyPost_ret (v := .agg (hapA (3, zeroFr) none 0)) (by simp [results, Tryz.results147, go_sem, p0, p1, p2, p3, p4, p5]; rfl) rfl (m8.six 3 H1.out H2.out _ _ _ _ _ _)

end
end Go.Proofs.YtajdbimdiodalaaGreat

namespace Go.Proofs.YtajdbimdiodalaaGreat
open Go.RowKit Go.Sort
set_option linter.unusedVariables false

section
variable (B : Nat) (w : World) (g : Nat) (c : Ct) (s : Sl) (x : Bool)

theorem send_st (r : Ct × Hp) (hr : r = sndC c x) (h : StB B w g c s) (hS : SndOK c) (hT : TkOK c.tk) (hmo : moC c.cf ≤ 1) :
    Calls Tryz.prog 147 #[.pointer (some ⟨g, 0, none⟩), .bool x] w (Told B w g s r) := by
  by_cases hx : drW c = x
  · exact send_same B w g c s x r hr hx h hS hT hmo
  · unfold sndC at hr
    by_cases ha : c.pos + 9 = c.wire.length
    · have hd : drW c = true := hS.ack ha
      obtain rfl : x = false := by cases x <;> simp_all
      rw [if_pos ha, if_pos rfl] at hr
      exact send_ack B w g c s r hr hd h hS hT ha
    · rw [if_neg ha, if_neg (show ¬ c.wire[c.pos]?.getD false = x from hx)] at hr
      cases x
      · have hd : drW c = true := by cases hd : drW c <;> simp_all
        have h1 := hS.one
        by_cases hc : c.tk.l.length ≤ if c.give.ext then 32 else 12
        · rw [if_neg (fun e => by rcases e with e | e | e; exact absurd e (by decide); omega; omega)] at hr
          by_cases h5 : c.tk.m = 5
          · rw [if_pos h5] at hr
            exact send_fill B w g c s r hr hd h hS hT hmo ha hc h5
          · rw [if_neg h5] at hr
            exact send_lost B w g c s r hr hd h hS hT ha hc h5
        · rw [if_pos (.inr (.inr (by omega)))] at hr
          exact send_late B w g c s r hr hd h hS hmo ha hc
      · have hd : drW c = false := by cases hd : drW c <;> simp_all
        rw [if_pos (.inl rfl)] at hr
        exact send_rec B w g c s r hr hd h hS hmo

set_option maxHeartbeats 4000000 in
/-- PhaseFrame. -/
theorem inFrame_st (r : Ct × Hp) (hr : r = if c.sends then sndC c x else rcvC c x) (h : StB B w g c s) (hS : c.sends = true → SndOK c) (hT : TkOK c.tk) (hmo : moC c.cf ≤ 1) :
    Calls Tryz.prog 118 #[.pointer (some ⟨g, 0, none⟩), .bool x] w (Told B w g s r) := by
  have m0 := Mb.start h
  have q13 := m0.st.q13
  cases hs : c.sends
  · rw [hs] at hr q13
    simp only [Bool.false_eq_true, if_false] at hr
    have hF := fun (w1 : World) (k : StB B w1 g c s) => read_st B w1 g c s x r hr k hT hmo
    clear hr hs h hS hT hmo
    go_enter Tryz.func118, Tryz.ntmps118
    go_wp2_with (go_at_call 148; (with_reducible refine (hF _ m0.st).mono ?_); rintro e w4 ⟨s4, a4, n4, rfl, l4, o4, b4⟩; have m4 := m0.left l4; obtain ⟨p0, p1, p2, p3, p4, p5⟩ := m4.hps; have fp := m4.hpf)
    exact bodyPost_ret (v := .agg (hapA r.2 a4 n4)) (by simp [results, Tryz.results118, go_sem, p0, p1, p2, p3, p4, p5]; rfl) rfl (m0.told l4 o4 b4 _ _ _ _ _ _)
  · have hS' := hS hs
    rw [hs] at hr q13
    simp only [if_true] at hr
    have hF := fun (w1 : World) (k : StB B w1 g c s) => send_st B w1 g c s x r hr k hS' hT hmo
    clear hr hs h hS hS' hT hmo
    go_enter Tryz.func118, Tryz.ntmps118
    go_wp2_with (go_at_call 147; (with_reducible refine (hF _ m0.st).mono ?_); rintro e w4 ⟨s4, a4, n4, rfl, l4, o4, b4⟩; have m4 := m0.left l4; obtain ⟨p0, p1, p2, p3, p4, p5⟩ := m4.hps; have fp := m4.hpf)
    exact bodyPost_ret (v := .agg (hapA r.2 a4 n4)) (by simp [results, Tryz.results118, go_sem, p0, p1, p2, p3, p4, p5]; rfl) rfl (m0.told l4 o4 b4 _ _ _ _ _ _)
end
end Go.Proofs.YtajdbimdiodalaaGreat

namespace Go.Proofs.YtajdbimdiodalaaGreat
open Go.RowKit Go.Sort
set_option linter.unusedVariables false

/-- The state behind a bit of a weak flag, as far as the bits alike go. -/
def wkN (d : Ct) (x : Bool) : Nat := if 0 < d.n ∧ d.rl = x then d.n + 1 else 1
def wkD (d : Ct) (x : Bool) : Ct := if wkN d x = 6 then newC d 5 else { d with n := wkN d x, rl := x }

theorem wkD_same (d : Ct) (x : Bool) (h : d.rl = x) : wkD d x = if ({ d with rl := x } : Ct).n + 1 = 6 then newC { d with rl := x } 5 else { ({ d with rl := x } : Ct) with n := ({ d with rl := x } : Ct).n + 1 } := by
  have hw : wkN d x = d.n + 1 := by
    unfold wkN
    by_cases h0 : 0 < d.n
    · rw [if_pos ⟨h0, h⟩]
    · rw [if_neg (fun k => h0 k.1)]; omega
  unfold wkD
  rw [hw]
  rfl

theorem wkD_other (d : Ct) (x : Bool) (h : d.rl ≠ x) : wkD d x = if ({ { d with n := 0 } with rl := x } : Ct).n + 1 = 6 then newC { { d with n := 0 } with rl := x } 5 else { ({ { d with n := 0 } with rl := x } : Ct) with n := ({ { d with n := 0 } with rl := x } : Ct).n + 1 } := by
  have hw : wkN d x = 0 + 1 := by
    unfold wkN
    rw [if_neg (fun k => h k.2)]
  unfold wkD
  rw [hw]
  rfl

set_option maxHeartbeats 4000000 in
/-- PhaseWeak. -/
theorem weak_st (B : Nat) (w : World) (g : Nat) (c : Ct) (s : Sl) (x : Bool) (r : Ct × Hp) (hr : r = weakC c x) (h : StB B w g c s) (hmo : moC c.cf ≤ 1) (hn : c.n ≤ 1000000000) :
    Calls Tryz.prog 120 #[.pointer (some ⟨g, 0, none⟩), .bool x] w (Told B w g s r) := by
  have m0 := Mb.start h
  have q25 := m0.st.q25
  have q22 := m0.st.q22
  have q1 := m0.st.q1
  have f := m0.st.fz
  by_cases ho : c.owed = true ∧ x = false
  · obtain ⟨ho, rfl⟩ := ho
    rw [ho] at q25
    have m1 := m0.put 25 (.bool false) { c with owed := false } rfl rfl rfl rfl
    by_cases hm : moC (evC c.cf 5) = 2
    · have hG : ∀ w1, StB B w1 g { c with owed := false } s → Calls Tryz.prog 149 #[.pointer (some ⟨g, 0, none⟩), .int .u8 5] w1 fun e w' => e = .returned (.bool true) ∧ Left B w1 w' g { newC { { c with owed := false } with cf := evC c.cf 5 } 9 with sender := false } s s.new := fun w1 h1 => goesOff_yes B w1 g { c with owed := false } s 5 (by omega) h1 hm
      unfold weakC at hr
      rw [if_pos ⟨ho, rfl, hm⟩] at hr
      have H1 := hid (show r.1 = { newC { { c with owed := false } with cf := evC c.cf 5 } 9 with sender := false } by rw [hr]; rfl)
      have H2 := hid (show r.2 = (10, zeroFr) by rw [hr]; rfl)
      clear hm h hr hmo hn ho
      go_enter Tryz.func120, Tryz.ntmps120
      go_wp2_with (go_at_call 149; (with_reducible refine (hG _ m1.st).mono ?_); rintro e w3 ⟨rfl, l3⟩; have m3 := m1.left l3; obtain ⟨p0, p1, p2, p3, p4, p5⟩ := m3.hps; have fp := m3.hpf)
      exact bodyPost_ret (v := .agg (hapA (10, zeroFr) none 0)) (by simp [results, Tryz.results120, go_sem, p0, p1, p2, p3, p4, p5]; rfl) rfl (m3.six 10 H1.out H2.out _ _ _ _ _ _)
    · have hG : ∀ w1, StB B w1 g { c with owed := false } s → Calls Tryz.prog 149 #[.pointer (some ⟨g, 0, none⟩), .int .u8 5] w1 fun e w' => e = .returned (.bool false) ∧ Left B w1 w' g { { c with owed := false } with cf := evC c.cf 5 } s s := fun w1 h1 => goesOff_no B w1 g { c with owed := false } s 5 (by omega) h1 hm
      unfold weakC at hr
      rw [if_neg (fun k => hm k.2.2)] at hr
      obtain ⟨d, hd⟩ : ∃ d, d = ({ { c with owed := false } with cf := evC c.cf 5 } : Ct) := ⟨_, rfl⟩
      have hr1 : r.1 = wkD d false := by rw [hr, hd]; simp [ho, wkD, wkN]
      have H2 := hid (show r.2 = (0, zeroFr) by rw [hr]; rfl)
      have hdn : d.n ≤ 1000000000 := by rw [hd]; exact hn
      simp only [← hd] at hG
      clear hd hm h hr hmo hn ho
      cases hrl : d.rl
      · have hO : ∀ w1, StB B w1 g { d with rl := false } s → Calls Tryz.prog 151 #[.pointer (some ⟨g, 0, none⟩), .int .i64 6, .int .u8 5] w1 fun e w' => e = .returned (.tuple #[]) ∧ ∃ s', Left B w1 w' g r.1 s s' := fun w1 k => oneMore_any B w1 g { d with rl := false } s 6 5 r.1 (by rw [hr1, wkD_same d false hrl]) k hdn
        have HL := hid hrl
        clear hr1 hrl hdn
        go_enter Tryz.func120, Tryz.ntmps120
        go_wp2_with (first
          | (go_at_call 149; (with_reducible refine (hG _ m1.st).mono ?_); rintro e w3 ⟨rfl, l3⟩; have m3 := m1.left l3; have m4 := m3.put 22 (.bool false) { d with rl := false } rfl rfl rfl rfl; clear q22 q1 f; have q22 := m3.st.q22; rw [HL.out] at q22; have f := m3.st.fz)
          | (go_at_call 151; (with_reducible refine (hO _ m4.st).mono ?_); rintro e w5 ⟨rfl, s5, l5⟩; have m5 := m4.left l5; obtain ⟨p0, p1, p2, p3, p4, p5⟩ := m5.hps; have fp := m5.hpf))
        exact bodyPost_ret (v := .agg (hapA (0, zeroFr) none 0)) (by simp [results, Tryz.results120, go_sem, p0, p1, p2, p3, p4, p5]; rfl) rfl (m5.six 0 rfl H2.out _ _ _ _ _ _)
      · have hO : ∀ w1, StB B w1 g { { d with n := 0 } with rl := false } s → Calls Tryz.prog 151 #[.pointer (some ⟨g, 0, none⟩), .int .i64 6, .int .u8 5] w1 fun e w' => e = .returned (.tuple #[]) ∧ ∃ s', Left B w1 w' g r.1 s s' := fun w1 k => oneMore_any B w1 g { { d with n := 0 } with rl := false } s 6 5 r.1 (by rw [hr1, wkD_other d false (by rw [hrl]; decide)]) k (by simp)
        have HL := hid hrl
        clear hr1 hrl hdn
        go_enter Tryz.func120, Tryz.ntmps120
        go_wp2_with (first
          | (go_at_call 149; (with_reducible refine (hG _ m1.st).mono ?_); rintro e w3 ⟨rfl, l3⟩; have m3 := m1.left l3; have m4 := (m3.put 1 (.int .i64 0) { d with n := 0 } rfl rfl rfl rfl).put 22 (.bool false) { { d with n := 0 } with rl := false } rfl rfl rfl rfl; clear q22 q1 f; have q22 := m3.st.q22; have q1 := m3.st.q1; rw [HL.out] at q22; have f := m3.st.fz)
          | (go_at_call 151; (with_reducible refine (hO _ m4.st).mono ?_); rintro e w5 ⟨rfl, s5, l5⟩; have m5 := m4.left l5; obtain ⟨p0, p1, p2, p3, p4, p5⟩ := m5.hps; have fp := m5.hpf))
        exact bodyPost_ret (v := .agg (hapA (0, zeroFr) none 0)) (by simp [results, Tryz.results120, go_sem, p0, p1, p2, p3, p4, p5]; rfl) rfl (m5.six 0 rfl H2.out _ _ _ _ _ _)
  · have hr' : r = (wkD c x, (0, zeroFr)) := by
      rw [hr]; unfold weakC
      rw [if_neg (fun k => ho ⟨k.1, k.2.1⟩)]
      have : (c.owed && !x) = false := by cases h1 : c.owed <;> cases x <;> simp_all
      simp only [this]
      unfold wkD wkN noH
      simp only [Bool.false_eq_true, if_false]
      
    clear hr
    have H2 := hid (show r.2 = (0, zeroFr) by rw [hr'])
    have hr1 : r.1 = wkD c x := by rw [hr']
    have hT : x = true ∨ c.owed = false := by cases x <;> cases h1 : c.owed <;> simp_all
    clear hr' ho hmo
    by_cases hrl : c.rl = x
    · have hO : ∀ w1, StB B w1 g { c with rl := x } s → Calls Tryz.prog 151 #[.pointer (some ⟨g, 0, none⟩), .int .i64 6, .int .u8 5] w1 fun e w' => e = .returned (.tuple #[]) ∧ ∃ s', Left B w1 w' g r.1 s s' := fun w1 k => oneMore_any B w1 g { c with rl := x } s 6 5 r.1 (by rw [hr1, wkD_same c x hrl]) k hn
      rw [hrl] at q22
      have m1 := m0.put 22 (.bool x) { c with rl := x } rfl rfl rfl rfl
      clear hrl hr1 h hn
      cases x
      · rcases hT with hT | hT
        · cases hT
        rw [hT] at q25
        clear hT
        go_enter Tryz.func120, Tryz.ntmps120
        go_wp2_with (go_at_call 151; (with_reducible refine (hO _ m1.st).mono ?_); rintro e w5 ⟨rfl, s5, l5⟩; have m5 := m1.left l5; obtain ⟨p0, p1, p2, p3, p4, p5⟩ := m5.hps; have fp := m5.hpf)
        exact bodyPost_ret (v := .agg (hapA (0, zeroFr) none 0)) (by simp [results, Tryz.results120, go_sem, p0, p1, p2, p3, p4, p5]; rfl) rfl (m5.six 0 rfl H2.out _ _ _ _ _ _)
      · clear hT
        go_enter Tryz.func120, Tryz.ntmps120
        go_wp2_with (go_at_call 151; (with_reducible refine (hO _ m1.st).mono ?_); rintro e w5 ⟨rfl, s5, l5⟩; have m5 := m1.left l5; obtain ⟨p0, p1, p2, p3, p4, p5⟩ := m5.hps; have fp := m5.hpf)
        exact bodyPost_ret (v := .agg (hapA (0, zeroFr) none 0)) (by simp [results, Tryz.results120, go_sem, p0, p1, p2, p3, p4, p5]; rfl) rfl (m5.six 0 rfl H2.out _ _ _ _ _ _)
    · have hO : ∀ w1, StB B w1 g { { c with n := 0 } with rl := x } s → Calls Tryz.prog 151 #[.pointer (some ⟨g, 0, none⟩), .int .i64 6, .int .u8 5] w1 fun e w' => e = .returned (.tuple #[]) ∧ ∃ s', Left B w1 w' g r.1 s s' := fun w1 k => oneMore_any B w1 g { { c with n := 0 } with rl := x } s 6 5 r.1 (by rw [hr1, wkD_other c x hrl]) k (by simp)
      have m1 := (m0.put 1 (.int .i64 0) { c with n := 0 } rfl rfl rfl rfl).put 22 (.bool x) { { c with n := 0 } with rl := x } rfl rfl rfl rfl
      have hx : c.rl = !x := by cases h1 : c.rl <;> cases x <;> simp_all
      rw [hx] at q22
      clear hrl hr1 h hn hx
      cases x
      · rcases hT with hT | hT
        · cases hT
        rw [hT] at q25
        clear hT
        simp only [Bool.not_false] at q22
        go_enter Tryz.func120, Tryz.ntmps120
        go_wp2_with (go_at_call 151; (with_reducible refine (hO _ m1.st).mono ?_); rintro e w5 ⟨rfl, s5, l5⟩; have m5 := m1.left l5; obtain ⟨p0, p1, p2, p3, p4, p5⟩ := m5.hps; have fp := m5.hpf)
        exact bodyPost_ret (v := .agg (hapA (0, zeroFr) none 0)) (by simp [results, Tryz.results120, go_sem, p0, p1, p2, p3, p4, p5]; rfl) rfl (m5.six 0 rfl H2.out _ _ _ _ _ _)
      · clear hT
        simp only [Bool.not_true] at q22
        go_enter Tryz.func120, Tryz.ntmps120
        go_wp2_with (go_at_call 151; (with_reducible refine (hO _ m1.st).mono ?_); rintro e w5 ⟨rfl, s5, l5⟩; have m5 := m1.left l5; obtain ⟨p0, p1, p2, p3, p4, p5⟩ := m5.hps; have fp := m5.hpf)
        exact bodyPost_ret (v := .agg (hapA (0, zeroFr) none 0)) (by simp [results, Tryz.results120, go_sem, p0, p1, p2, p3, p4, p5]; rfl) rfl (m5.six 0 rfl H2.out _ _ _ _ _ _)
end Go.Proofs.YtajdbimdiodalaaGreat

namespace Go.Proofs.YtajdbimdiodalaaGreat
open Go.RowKit Go.Sort
set_option linter.unusedVariables false

theorem wait_none {c : Ct} (h : waitE c = 0) : waitC c false = ({ c with n := c.n + 1 }, noH) := by
  unfold waitC
  rw [h, if_neg (by decide), if_neg (fun k => k.2 rfl)]
  rfl

set_option maxHeartbeats 4000000 in
/-- PhaseWait. -/
theorem wait_st (B : Nat) (w : World) (g : Nat) (c : Ct) (s : Sl) (x : Bool) (r : Ct × Hp) (hr : r = waitC c x) (h : StB B w g c s) (hmo : moC c.cf ≤ 1) (hn : c.n ≤ 1000000000) :
    Calls Tryz.prog 121 #[.pointer (some ⟨g, 0, none⟩), .bool x] w (Told B w g s r) := by
  have m0 := Mb.start h
  cases x
  · have q1 := m0.st.q1
    have q24 := m0.st.q24
    have q14 := m0.st.q14
    have f := m0.st.fz
    by_cases h0 : c.n = 0
    · have m1 := m0.put 1 (.int .i64 1) { c with n := c.n + 1 } (by rw [h0]; rfl) rfl rfl rfl
      rw [show (c.n : Int) = 0 by omega] at q1
      by_cases h1 : c.err = true ∧ c.sender = false
      · obtain ⟨h2, h3⟩ := h1
        have hC : ∀ w1, StB B w1 g { c with n := c.n + 1 } s → Calls Tryz.prog 153 #[.pointer (some ⟨g, 0, none⟩), .int .u8 2] w1 fun e w' => e = .returned (.tuple #[]) ∧ Left B w1 w' g { { c with n := c.n + 1 } with cf := evC c.cf 2 } s s := fun w1 k => count_st B w1 g { c with n := c.n + 1 } s 2 (by omega) k
        have hE : waitE c = 2 := by unfold waitE; rw [if_pos ⟨by omega, h2, h3⟩]
        have H1 := hid (show r.1 = { { c with n := c.n + 1 } with cf := evC c.cf 2 } by
          rw [hr]; unfold waitC; rw [hE, if_neg (by decide), if_neg (fun k => mo_first hmo k.1)]; rfl)
        have H2 := hid (show r.2 = (0, zeroFr) by rw [hr]; unfold waitC; rw [hE, if_neg (by decide), if_neg (fun k => mo_first hmo k.1)]; rfl)
        have H0 := hid (show ((c.n + 1 : Nat) : Int) = 1 by omega)
        rw [h2] at q24
        rw [h3] at q14
        clear hr h hmo h2 h3 hE h0 hn
        go_enter Tryz.func121, Tryz.ntmps121
        go_wp2_with (go_at_call 153; (with_reducible refine (hC _ m1.st).mono ?_); rintro e w2 ⟨rfl, l2⟩; have m2 := m1.left l2; clear q1; have q1 : w2.cell? ⟨g, 1, none⟩ = some (.int .i64 1) := (by rw [← H0.out]; exact m2.st.q1); obtain ⟨p0, p1, p2, p3, p4, p5⟩ := m2.hps; have fp := m2.hpf)
        exact bodyPost_ret (v := .agg (hapA (0, zeroFr) none 0)) (by simp [results, Tryz.results121, go_sem, p0, p1, p2, p3, p4, p5]; rfl) rfl (m2.six 0 H1.out H2.out _ _ _ _ _ _)
      · have hE : waitE c = 0 := by unfold waitE; rw [if_neg (fun k => h1 k.2), if_neg (by omega)]
        have H1 := hid (show r.1 = { c with n := c.n + 1 } by rw [hr, wait_none hE])
        have H2 := hid (show r.2 = (0, zeroFr) by rw [hr, wait_none hE]; rfl)
        obtain ⟨p0, p1, p2, p3, p4, p5⟩ := m1.hps
        have fp := m1.hpf
        cases h2 : c.err
        · rw [h2] at q24
          clear hr h hmo hE h0 hn h1 h2
          go_enter Tryz.func121, Tryz.ntmps121
          go_wp2
          exact bodyPost_ret (v := .agg (hapA (0, zeroFr) none 0)) (by simp [results, Tryz.results121, go_sem, p0, p1, p2, p3, p4, p5]; rfl) rfl (m1.six 0 H1.out H2.out _ _ _ _ _ _)
        · have h3 : c.sender = true := by cases h3 : c.sender <;> simp_all
          rw [h2] at q24
          rw [h3] at q14
          clear hr h hmo hE h0 hn h1 h2 h3
          go_enter Tryz.func121, Tryz.ntmps121
          go_wp2
          exact bodyPost_ret (v := .agg (hapA (0, zeroFr) none 0)) (by simp [results, Tryz.results121, go_sem, p0, p1, p2, p3, p4, p5]; rfl) rfl (m1.six 0 H1.out H2.out _ _ _ _ _ _)
    · have m1 := m0.put 1 (.int .i64 ((c.n : Int) + 1)) { c with n := c.n + 1 } rfl rfl rfl rfl
      have i0 : ¬ (c.n : Int) = 0 := by omega
      by_cases h8 : (c.n + 1) % 8 = 0
      · obtain ⟨k, hk⟩ : ∃ k, k = if c.sender then 7 else 4 := ⟨_, rfl⟩
        have hE : waitE c = k := by unfold waitE; rw [if_neg (fun k => by omega), if_pos h8, hk]
        have hI : ∀ w1, StB B w1 g { c with n := c.n + 1 } s → Calls Tryz.prog 150 #[.pointer (some ⟨g, 0, none⟩), .int .u8 7, .int .u8 4] w1 fun e w' => e = .returned (.int .u8 (k : Int)) ∧ Below w1.heap.size w1 w' := fun w1 h1 => by rw [hk]; exact either_any B w1 g { c with n := c.n + 1 } s 7 4 h1
        have hkb : k = 7 ∨ k = 4 := by rw [hk]; split <;> simp
        have i8 : ((c.n : Int) + 1) % 8 = 0 := by omega
        clear hk
        have hc : cntC c k = { c with cf := evC c.cf k } := by unfold cntC; rw [if_neg (by omega)]
        by_cases hm : moC (evC c.cf k) = 2
        · have hG := fun (w1 : World) (h1 : StB B w1 g { c with n := c.n + 1 } s) => goesOff_yes B w1 g { c with n := c.n + 1 } s k (by omega) h1 hm
          have hR : waitC c false = offC { c with cf := evC c.cf k } := by unfold waitC; rw [hE, hc, if_neg (by decide), if_pos ⟨hm, by omega⟩]
          have H1 := hid (show r.1 = { newC { { c with n := c.n + 1 } with cf := evC c.cf k } 9 with sender := false } by rw [hr, hR]; rfl)
          have H2 := hid (show r.2 = (10, zeroFr) by rw [hr, hR]; rfl)
          clear hr h hmo hE h0 hR hc hkb hm h8
          go_enter Tryz.func121, Tryz.ntmps121
          go_wp2_with (first
            | (go_at_call 150; (with_reducible refine (hI _ m1.st).mono ?_); rintro e w2 ⟨rfl, g2⟩; have m2 := m1.call g2)
            | (go_at_call 149; (with_reducible refine (hG _ m2.st).mono ?_); rintro e w3 ⟨rfl, l3⟩; have m3 := m2.left l3; obtain ⟨p0, p1, p2, p3, p4, p5⟩ := m3.hps; have fp := m3.hpf))
          exact bodyPost_ret (v := .agg (hapA (10, zeroFr) none 0)) (by simp [results, Tryz.results121, go_sem, p0, p1, p2, p3, p4, p5]; rfl) rfl (m3.six 10 H1.out H2.out _ _ _ _ _ _)
        · have hG := fun (w1 : World) (h1 : StB B w1 g { c with n := c.n + 1 } s) => goesOff_no B w1 g { c with n := c.n + 1 } s k (by omega) h1 hm
          have hR : waitC c false = ({ { c with cf := evC c.cf k } with n := c.n + 1 }, noH) := by unfold waitC; rw [hE, hc, if_neg (by decide), if_neg (fun k => hm k.1)]
          have H1 := hid (show r.1 = { { c with n := c.n + 1 } with cf := evC c.cf k } by rw [hr, hR])
          have H2 := hid (show r.2 = (0, zeroFr) by rw [hr, hR]; rfl)
          clear hr h hmo hE h0 hR hc hkb hm h8
          go_enter Tryz.func121, Tryz.ntmps121
          go_wp2_with (first
            | (go_at_call 150; (with_reducible refine (hI _ m1.st).mono ?_); rintro e w2 ⟨rfl, g2⟩; have m2 := m1.call g2)
            | (go_at_call 149; (with_reducible refine (hG _ m2.st).mono ?_); rintro e w3 ⟨rfl, l3⟩; have m3 := m2.left l3; obtain ⟨p0, p1, p2, p3, p4, p5⟩ := m3.hps; have fp := m3.hpf))
          exact bodyPost_ret (v := .agg (hapA (0, zeroFr) none 0)) (by simp [results, Tryz.results121, go_sem, p0, p1, p2, p3, p4, p5]; rfl) rfl (m3.six 0 H1.out H2.out _ _ _ _ _ _)
      · have hE : waitE c = 0 := by unfold waitE; rw [if_neg (fun k => by omega), if_neg h8]
        have H1 := hid (show r.1 = { c with n := c.n + 1 } by rw [hr, wait_none hE])
        have H2 := hid (show r.2 = (0, zeroFr) by rw [hr, wait_none hE]; rfl)
        have i8 : ¬ ((c.n : Int) + 1) % 8 = 0 := by omega
        obtain ⟨p0, p1, p2, p3, p4, p5⟩ := m1.hps
        have fp := m1.hpf
        clear hr h hmo hE h0 h8
        go_enter Tryz.func121, Tryz.ntmps121
        go_wp2
        exact bodyPost_ret (v := .agg (hapA (0, zeroFr) none 0)) (by simp [results, Tryz.results121, go_sem, p0, p1, p2, p3, p4, p5]; rfl) rfl (m1.six 0 H1.out H2.out _ _ _ _ _ _)
  · have hE : ∀ w1, StB B w1 g c s → Calls Tryz.prog 152 #[.pointer (some ⟨g, 0, none⟩), .int .u8 6] w1 fun e w' => e = .returned (.tuple #[]) ∧ Left B w1 w' g (newC c 6) s s.new := fun w1 k => enter_any B w1 g c s 6 k
    have H1 := hid (show r.1 = { newC c 6 with n := 1 } by rw [hr]; rfl)
    have H2 := hid (show r.2 = (0, zeroFr) by rw [hr]; rfl)
    clear hr h hmo hn
    go_enter Tryz.func121, Tryz.ntmps121
    go_wp2_with (go_at_call 152; (with_reducible refine (hE _ m0.st).mono ?_); rintro e w2 ⟨rfl, l2⟩; have m2 := m0.left l2; have m3 := m2.put 1 (.int .i64 1) { newC c 6 with n := 1 } rfl rfl rfl rfl; have q1 := m2.st.q1; have f := m2.st.fz; obtain ⟨p0, p1, p2, p3, p4, p5⟩ := m3.hps; have fp := m3.hpf)
    exact bodyPost_ret (v := .agg (hapA (0, zeroFr) none 0)) (by simp [results, Tryz.results121, go_sem, p0, p1, p2, p3, p4, p5]; rfl) rfl (m3.six 0 H1.out H2.out _ _ _ _ _ _)


end Go.Proofs.YtajdbimdiodalaaGreat

namespace Go.Proofs.YtajdbimdiodalaaGreat
open Go.RowKit Go.Sort
set_option linter.unusedVariables false

set_option maxHeartbeats 2000000 in
theorem between_true_z_false_any (B : Nat) (w : World) (g : Nat) (c : Ct) (s : Sl) (r : Ct × Hp) (hr : r = interC c true) (h : StB B w g c s) (hsd : c.sender = false) (hn : c.n ≤ 1000000000) (hg : c.has = true → Good c.give) :
    Calls Tryz.prog 123 #[.pointer (some ⟨g, 0, none⟩), .bool true] w (Told B w g s r) := by
  have m0 := Mb.start h
  have hH : holdC c = false := by unfold holdC; rw [hsd]; simp
  have q14 := m0.st.q14
  rw [hsd] at q14
  have q7 := m0.st.q7
  have q1 := m0.st.q1
  have hO' : ∀ w1, StB B w1 g c s → Calls Tryz.prog 151 #[.pointer (some ⟨g, 0, none⟩), .int .i64 3, .int .u8 0] w1 fun e w' => e = .returned (.tuple #[]) ∧ ∃ s', Left B w1 w' g r.1 s s' := fun w1 k => oneMore_any B w1 g c s 3 0 r.1 (by rw [hr]; unfold interC; rw [if_pos rfl, hH]; rfl) k hn
  have HZ := hid (show r.2 = (0, zeroFr) by rw [hr]; rfl)
  clear hH hr hsd h hg
  go_enter Tryz.func123, Tryz.ntmps123
  go_wp2_with (first
    | (go_at_call 151; (with_reducible refine (hO' _ m0.st).mono ?_); rintro e w2 ⟨rfl, s2, l2⟩; have m2 := m0.left l2; obtain ⟨p0, p1, p2, p3, p4, p5⟩ := m2.hps; have fp := m2.hpf)
    | (go_at_call 154; (with_reducible refine (hV' _ m0.st).mono ?_); rintro e w4 ⟨s4, a4, n4, rfl, l4, o4, b4⟩; have m4 := m0.left l4; obtain ⟨p0, p1, p2, p3, p4, p5⟩ := m4.hps; have fp := m4.hpf)
    | (go_at_call 145; (with_reducible refine (hG' _ m0.st).mono ?_); rintro e w2 ⟨rfl, s2, l2⟩; have m2 := m0.left l2; obtain ⟨p0, p1, p2, p3, p4, p5⟩ := m2.hps; have fp := m2.hpf))
  exact bodyPost_ret (v := .agg (hapA (0, zeroFr) none 0)) (by simp [results, Tryz.results123, go_sem, p0, p1, p2, p3, p4, p5]; rfl) rfl (m2.six 0 rfl HZ.out _ _ _ _ _ _)

set_option maxHeartbeats 2000000 in
theorem between_true_z_true_false (B : Nat) (w : World) (g : Nat) (c : Ct) (s : Sl) (r : Ct × Hp) (hr : r = interC c true) (h : StB B w g c s) (hsd : c.sender = true) (hmo : moC c.cf ≠ 1) (hn : c.n ≤ 1000000000) (hg : c.has = true → Good c.give) :
    Calls Tryz.prog 123 #[.pointer (some ⟨g, 0, none⟩), .bool true] w (Told B w g s r) := by
  have m0 := Mb.start h
  have hH : holdC c = false := by unfold holdC; rw [hsd]; simp [hmo]
  have q14 := m0.st.q14
  rw [hsd] at q14
  have q7 := m0.st.q7
  have q1 := m0.st.q1
  have hM' := mode_st B _ g c s m0.st
  have hmq : ¬ (moC c.cf : Int) = 1 := by omega
  generalize moC c.cf = md at hM' hmq
  have hO' : ∀ w1, StB B w1 g c s → Calls Tryz.prog 151 #[.pointer (some ⟨g, 0, none⟩), .int .i64 3, .int .u8 0] w1 fun e w' => e = .returned (.tuple #[]) ∧ ∃ s', Left B w1 w' g r.1 s s' := fun w1 k => oneMore_any B w1 g c s 3 0 r.1 (by rw [hr]; unfold interC; rw [if_pos rfl, hH]; rfl) k hn
  have HZ := hid (show r.2 = (0, zeroFr) by rw [hr]; rfl)
  clear hH hr hsd h hg hmo
  go_enter Tryz.func123, Tryz.ntmps123
  go_wp2_with (first
    | (go_at_call 155; (with_reducible refine hM'.mono ?_); rintro e w1 ⟨rfl, g1⟩; have m1 := m0.call g1; clear q7 q1; have q7 := m1.st.q7; have q1 := m1.st.q1)
    | (go_at_call 151; (with_reducible refine (hO' _ m1.st).mono ?_); rintro e w2 ⟨rfl, s2, l2⟩; have m2 := m1.left l2; obtain ⟨p0, p1, p2, p3, p4, p5⟩ := m2.hps; have fp := m2.hpf)
    | (go_at_call 154; (with_reducible refine (hV' _ m1.st).mono ?_); rintro e w4 ⟨s4, a4, n4, rfl, l4, o4, b4⟩; have m4 := m1.left l4; obtain ⟨p0, p1, p2, p3, p4, p5⟩ := m4.hps; have fp := m4.hpf)
    | (go_at_call 145; (with_reducible refine (hG' _ m1.st).mono ?_); rintro e w2 ⟨rfl, s2, l2⟩; have m2 := m1.left l2; obtain ⟨p0, p1, p2, p3, p4, p5⟩ := m2.hps; have fp := m2.hpf))
  exact bodyPost_ret (v := .agg (hapA (0, zeroFr) none 0)) (by simp [results, Tryz.results123, go_sem, p0, p1, p2, p3, p4, p5]; rfl) rfl (m2.six 0 rfl HZ.out _ _ _ _ _ _)

set_option maxHeartbeats 2000000 in
theorem between_true_z_true_true (B : Nat) (w : World) (g : Nat) (c : Ct) (s : Sl) (r : Ct × Hp) (hr : r = interC c true) (h : StB B w g c s) (hsd : c.sender = true) (hmo : moC c.cf = 1) (hn : c.n ≤ 1000000000) (hg : c.has = true → Good c.give) :
    Calls Tryz.prog 123 #[.pointer (some ⟨g, 0, none⟩), .bool true] w (Told B w g s r) := by
  have m0 := Mb.start h
  have hH : holdC c = true := by unfold holdC; rw [hsd]; simp [hmo]
  have q14 := m0.st.q14
  rw [hsd] at q14
  have q7 := m0.st.q7
  have q1 := m0.st.q1
  have hM' := mode_st B _ g c s m0.st
  rw [hmo] at hM'
  have hO' : ∀ w1, StB B w1 g c s → Calls Tryz.prog 151 #[.pointer (some ⟨g, 0, none⟩), .int .i64 3, .int .u8 8] w1 fun e w' => e = .returned (.tuple #[]) ∧ ∃ s', Left B w1 w' g r.1 s s' := fun w1 k => oneMore_any B w1 g c s 3 8 r.1 (by rw [hr]; unfold interC; rw [if_pos rfl, hH]; rfl) k hn
  have HZ := hid (show r.2 = (0, zeroFr) by rw [hr]; rfl)
  clear hH hr hsd h hg hmo
  go_enter Tryz.func123, Tryz.ntmps123
  go_wp2_with (first
    | (go_at_call 155; (with_reducible refine hM'.mono ?_); rintro e w1 ⟨rfl, g1⟩; have m1 := m0.call g1; clear q7 q1; have q7 := m1.st.q7; have q1 := m1.st.q1)
    | (go_at_call 151; (with_reducible refine (hO' _ m1.st).mono ?_); rintro e w2 ⟨rfl, s2, l2⟩; have m2 := m1.left l2; obtain ⟨p0, p1, p2, p3, p4, p5⟩ := m2.hps; have fp := m2.hpf)
    | (go_at_call 154; (with_reducible refine (hV' _ m1.st).mono ?_); rintro e w4 ⟨s4, a4, n4, rfl, l4, o4, b4⟩; have m4 := m1.left l4; obtain ⟨p0, p1, p2, p3, p4, p5⟩ := m4.hps; have fp := m4.hpf)
    | (go_at_call 145; (with_reducible refine (hG' _ m1.st).mono ?_); rintro e w2 ⟨rfl, s2, l2⟩; have m2 := m1.left l2; obtain ⟨p0, p1, p2, p3, p4, p5⟩ := m2.hps; have fp := m2.hpf))
  exact bodyPost_ret (v := .agg (hapA (0, zeroFr) none 0)) (by simp [results, Tryz.results123, go_sem, p0, p1, p2, p3, p4, p5]; rfl) rfl (m2.six 0 rfl HZ.out _ _ _ _ _ _)

set_option maxHeartbeats 2000000 in
theorem between_false_l_false_any (B : Nat) (w : World) (g : Nat) (c : Ct) (s : Sl) (r : Ct × Hp) (hr : r = interC c false) (h : StB B w g c s) (hsd : c.sender = false) (hn2 : c.n < 2) (hn : c.n ≤ 1000000000) (hg : c.has = true → Good c.give) :
    Calls Tryz.prog 123 #[.pointer (some ⟨g, 0, none⟩), .bool false] w (Told B w g s r) := by
  have m0 := Mb.start h
  have hH : holdC c = false := by unfold holdC; rw [hsd]; simp
  have q14 := m0.st.q14
  rw [hsd] at q14
  have q7 := m0.st.q7
  have q1 := m0.st.q1
  have hV' : ∀ w1, StB B w1 g c s → Calls Tryz.prog 154 #[.pointer (some ⟨g, 0, none⟩)] w1 (Told B w1 g s r) := fun w1 k => by
    have : r = overC c := by rw [hr]; unfold interC; rw [if_neg (by decide), if_pos (by omega)]
    rw [this]; exact overload_st B w1 g c s k
  have i2 : (c.n : Int) < 2 := by omega
  clear hH hr hsd h hg hn2
  go_enter Tryz.func123, Tryz.ntmps123
  go_wp2_with (first
    | (go_at_call 151; (with_reducible refine (hO' _ m0.st).mono ?_); rintro e w2 ⟨rfl, s2, l2⟩; have m2 := m0.left l2; obtain ⟨p0, p1, p2, p3, p4, p5⟩ := m2.hps; have fp := m2.hpf)
    | (go_at_call 154; (with_reducible refine (hV' _ m0.st).mono ?_); rintro e w4 ⟨s4, a4, n4, rfl, l4, o4, b4⟩; have m4 := m0.left l4; obtain ⟨p0, p1, p2, p3, p4, p5⟩ := m4.hps; have fp := m4.hpf)
    | (go_at_call 145; (with_reducible refine (hG' _ m0.st).mono ?_); rintro e w2 ⟨rfl, s2, l2⟩; have m2 := m0.left l2; obtain ⟨p0, p1, p2, p3, p4, p5⟩ := m2.hps; have fp := m2.hpf))
  exact bodyPost_ret (v := .agg (hapA r.2 a4 n4)) (by simp [results, Tryz.results123, go_sem, p0, p1, p2, p3, p4, p5]; rfl) rfl (m0.told l4 o4 b4 _ _ _ _ _ _)

set_option maxHeartbeats 2000000 in
theorem between_false_l_true_false (B : Nat) (w : World) (g : Nat) (c : Ct) (s : Sl) (r : Ct × Hp) (hr : r = interC c false) (h : StB B w g c s) (hsd : c.sender = true) (hn2 : c.n < 2) (hmo : moC c.cf ≠ 1) (hn : c.n ≤ 1000000000) (hg : c.has = true → Good c.give) :
    Calls Tryz.prog 123 #[.pointer (some ⟨g, 0, none⟩), .bool false] w (Told B w g s r) := by
  have m0 := Mb.start h
  have hH : holdC c = false := by unfold holdC; rw [hsd]; simp [hmo]
  have q14 := m0.st.q14
  rw [hsd] at q14
  have q7 := m0.st.q7
  have q1 := m0.st.q1
  have hM' := mode_st B _ g c s m0.st
  have hmq : ¬ (moC c.cf : Int) = 1 := by omega
  generalize moC c.cf = md at hM' hmq
  have hV' : ∀ w1, StB B w1 g c s → Calls Tryz.prog 154 #[.pointer (some ⟨g, 0, none⟩)] w1 (Told B w1 g s r) := fun w1 k => by
    have : r = overC c := by rw [hr]; unfold interC; rw [if_neg (by decide), if_pos (by omega)]
    rw [this]; exact overload_st B w1 g c s k
  have i2 : (c.n : Int) < 2 := by omega
  clear hH hr hsd h hg hn2 hmo
  go_enter Tryz.func123, Tryz.ntmps123
  go_wp2_with (first
    | (go_at_call 155; (with_reducible refine hM'.mono ?_); rintro e w1 ⟨rfl, g1⟩; have m1 := m0.call g1; clear q7 q1; have q7 := m1.st.q7; have q1 := m1.st.q1)
    | (go_at_call 151; (with_reducible refine (hO' _ m1.st).mono ?_); rintro e w2 ⟨rfl, s2, l2⟩; have m2 := m1.left l2; obtain ⟨p0, p1, p2, p3, p4, p5⟩ := m2.hps; have fp := m2.hpf)
    | (go_at_call 154; (with_reducible refine (hV' _ m1.st).mono ?_); rintro e w4 ⟨s4, a4, n4, rfl, l4, o4, b4⟩; have m4 := m1.left l4; obtain ⟨p0, p1, p2, p3, p4, p5⟩ := m4.hps; have fp := m4.hpf)
    | (go_at_call 145; (with_reducible refine (hG' _ m1.st).mono ?_); rintro e w2 ⟨rfl, s2, l2⟩; have m2 := m1.left l2; obtain ⟨p0, p1, p2, p3, p4, p5⟩ := m2.hps; have fp := m2.hpf))
  exact bodyPost_ret (v := .agg (hapA r.2 a4 n4)) (by simp [results, Tryz.results123, go_sem, p0, p1, p2, p3, p4, p5]; rfl) rfl (m1.told l4 o4 b4 _ _ _ _ _ _)

set_option maxHeartbeats 2000000 in
theorem between_false_l_true_true (B : Nat) (w : World) (g : Nat) (c : Ct) (s : Sl) (r : Ct × Hp) (hr : r = interC c false) (h : StB B w g c s) (hsd : c.sender = true) (hn2 : c.n < 2) (hmo : moC c.cf = 1) (hn : c.n ≤ 1000000000) (hg : c.has = true → Good c.give) :
    Calls Tryz.prog 123 #[.pointer (some ⟨g, 0, none⟩), .bool false] w (Told B w g s r) := by
  have m0 := Mb.start h
  have hH : holdC c = true := by unfold holdC; rw [hsd]; simp [hmo]
  have q14 := m0.st.q14
  rw [hsd] at q14
  have q7 := m0.st.q7
  have q1 := m0.st.q1
  have hM' := mode_st B _ g c s m0.st
  rw [hmo] at hM'
  have hV' : ∀ w1, StB B w1 g c s → Calls Tryz.prog 154 #[.pointer (some ⟨g, 0, none⟩)] w1 (Told B w1 g s r) := fun w1 k => by
    have : r = overC c := by rw [hr]; unfold interC; rw [if_neg (by decide), if_pos (by omega)]
    rw [this]; exact overload_st B w1 g c s k
  have i2 : (c.n : Int) < 2 := by omega
  clear hH hr hsd h hg hn2 hmo
  go_enter Tryz.func123, Tryz.ntmps123
  go_wp2_with (first
    | (go_at_call 155; (with_reducible refine hM'.mono ?_); rintro e w1 ⟨rfl, g1⟩; have m1 := m0.call g1; clear q7 q1; have q7 := m1.st.q7; have q1 := m1.st.q1)
    | (go_at_call 151; (with_reducible refine (hO' _ m1.st).mono ?_); rintro e w2 ⟨rfl, s2, l2⟩; have m2 := m1.left l2; obtain ⟨p0, p1, p2, p3, p4, p5⟩ := m2.hps; have fp := m2.hpf)
    | (go_at_call 154; (with_reducible refine (hV' _ m1.st).mono ?_); rintro e w4 ⟨s4, a4, n4, rfl, l4, o4, b4⟩; have m4 := m1.left l4; obtain ⟨p0, p1, p2, p3, p4, p5⟩ := m4.hps; have fp := m4.hpf)
    | (go_at_call 145; (with_reducible refine (hG' _ m1.st).mono ?_); rintro e w2 ⟨rfl, s2, l2⟩; have m2 := m1.left l2; obtain ⟨p0, p1, p2, p3, p4, p5⟩ := m2.hps; have fp := m2.hpf))
  exact bodyPost_ret (v := .agg (hapA r.2 a4 n4)) (by simp [results, Tryz.results123, go_sem, p0, p1, p2, p3, p4, p5]; rfl) rfl (m1.told l4 o4 b4 _ _ _ _ _ _)

set_option maxHeartbeats 2000000 in
theorem between_false_g_false_any (B : Nat) (w : World) (g : Nat) (c : Ct) (s : Sl) (r : Ct × Hp) (hr : r = interC c false) (h : StB B w g c s) (hsd : c.sender = false) (hn2 : ¬ c.n < 2) (hn : c.n ≤ 1000000000) (hg : c.has = true → Good c.give) :
    Calls Tryz.prog 123 #[.pointer (some ⟨g, 0, none⟩), .bool false] w (Told B w g s r) := by
  have m0 := Mb.start h
  have hH : holdC c = false := by unfold holdC; rw [hsd]; simp
  have q14 := m0.st.q14
  rw [hsd] at q14
  have q7 := m0.st.q7
  have q1 := m0.st.q1
  have hr1 : r = (begC c c.has, noH) := by rw [hr]; unfold interC; rw [if_neg (by decide), if_neg (by omega), hH]; simp
  have hG' : ∀ w1, StB B w1 g c s → Calls Tryz.prog 145 #[.pointer (some ⟨g, 0, none⟩), .bool c.has] w1 fun e w' => e = .returned (.tuple #[]) ∧ ∃ s', Left B w1 w' g r.1 s s' := fun w1 k => by
    rw [hr1]; exact begin_any B w1 g c s _ k hg
  have HZ := hid (show r.2 = (0, zeroFr) by rw [hr1]; rfl)
  have i2 : ¬ (c.n : Int) < 2 := by omega
  cases hh : c.has
  all_goals
    rw [hh] at q7 hG'
    have HH := hid hh
    clear hH hr hsd h hg hr1 hn2 hh
    go_enter Tryz.func123, Tryz.ntmps123
    go_wp2_with (first
      | (go_at_call 151; (with_reducible refine (hO' _ m0.st).mono ?_); rintro e w2 ⟨rfl, s2, l2⟩; have m2 := m0.left l2; obtain ⟨p0, p1, p2, p3, p4, p5⟩ := m2.hps; have fp := m2.hpf)
      | (go_at_call 154; (with_reducible refine (hV' _ m0.st).mono ?_); rintro e w4 ⟨s4, a4, n4, rfl, l4, o4, b4⟩; have m4 := m0.left l4; obtain ⟨p0, p1, p2, p3, p4, p5⟩ := m4.hps; have fp := m4.hpf)
      | (go_at_call 145; (with_reducible refine (hG' _ m0.st).mono ?_); rintro e w2 ⟨rfl, s2, l2⟩; have m2 := m0.left l2; obtain ⟨p0, p1, p2, p3, p4, p5⟩ := m2.hps; have fp := m2.hpf))
    exact bodyPost_ret (v := .agg (hapA (0, zeroFr) none 0)) (by simp [results, Tryz.results123, go_sem, p0, p1, p2, p3, p4, p5]; rfl) rfl (m2.six 0 rfl HZ.out _ _ _ _ _ _)

set_option maxHeartbeats 2000000 in
theorem between_false_g_true_false (B : Nat) (w : World) (g : Nat) (c : Ct) (s : Sl) (r : Ct × Hp) (hr : r = interC c false) (h : StB B w g c s) (hsd : c.sender = true) (hn2 : ¬ c.n < 2) (hmo : moC c.cf ≠ 1) (hn : c.n ≤ 1000000000) (hg : c.has = true → Good c.give) :
    Calls Tryz.prog 123 #[.pointer (some ⟨g, 0, none⟩), .bool false] w (Told B w g s r) := by
  have m0 := Mb.start h
  have hH : holdC c = false := by unfold holdC; rw [hsd]; simp [hmo]
  have q14 := m0.st.q14
  rw [hsd] at q14
  have q7 := m0.st.q7
  have q1 := m0.st.q1
  have hM' := mode_st B _ g c s m0.st
  have hmq : ¬ (moC c.cf : Int) = 1 := by omega
  generalize moC c.cf = md at hM' hmq
  have hr1 : r = (begC c c.has, noH) := by rw [hr]; unfold interC; rw [if_neg (by decide), if_neg (by omega), hH]; simp
  have hG' : ∀ w1, StB B w1 g c s → Calls Tryz.prog 145 #[.pointer (some ⟨g, 0, none⟩), .bool c.has] w1 fun e w' => e = .returned (.tuple #[]) ∧ ∃ s', Left B w1 w' g r.1 s s' := fun w1 k => by
    rw [hr1]; exact begin_any B w1 g c s _ k hg
  have HZ := hid (show r.2 = (0, zeroFr) by rw [hr1]; rfl)
  have i2 : ¬ (c.n : Int) < 2 := by omega
  cases hh : c.has
  all_goals
    rw [hh] at q7 hG'
    have HH := hid hh
    clear hH hr hsd h hg hr1 hn2 hmo hh
    go_enter Tryz.func123, Tryz.ntmps123
    go_wp2_with (first
      | (go_at_call 155; (with_reducible refine hM'.mono ?_); rintro e w1 ⟨rfl, g1⟩; have m1 := m0.call g1; clear q7 q1; have q7 := (by have k := m1.st.q7; rw [HH.out] at k; exact k); have q1 := m1.st.q1)
      | (go_at_call 151; (with_reducible refine (hO' _ m1.st).mono ?_); rintro e w2 ⟨rfl, s2, l2⟩; have m2 := m1.left l2; obtain ⟨p0, p1, p2, p3, p4, p5⟩ := m2.hps; have fp := m2.hpf)
      | (go_at_call 154; (with_reducible refine (hV' _ m1.st).mono ?_); rintro e w4 ⟨s4, a4, n4, rfl, l4, o4, b4⟩; have m4 := m1.left l4; obtain ⟨p0, p1, p2, p3, p4, p5⟩ := m4.hps; have fp := m4.hpf)
      | (go_at_call 145; (with_reducible refine (hG' _ m1.st).mono ?_); rintro e w2 ⟨rfl, s2, l2⟩; have m2 := m1.left l2; obtain ⟨p0, p1, p2, p3, p4, p5⟩ := m2.hps; have fp := m2.hpf))
    exact bodyPost_ret (v := .agg (hapA (0, zeroFr) none 0)) (by simp [results, Tryz.results123, go_sem, p0, p1, p2, p3, p4, p5]; rfl) rfl (m2.six 0 rfl HZ.out _ _ _ _ _ _)

set_option maxHeartbeats 2000000 in
theorem between_false_g_true_true (B : Nat) (w : World) (g : Nat) (c : Ct) (s : Sl) (r : Ct × Hp) (hr : r = interC c false) (h : StB B w g c s) (hsd : c.sender = true) (hn2 : ¬ c.n < 2) (hmo : moC c.cf = 1) (hn : c.n ≤ 1000000000) (hg : c.has = true → Good c.give) :
    Calls Tryz.prog 123 #[.pointer (some ⟨g, 0, none⟩), .bool false] w (Told B w g s r) := by
  have m0 := Mb.start h
  have hH : holdC c = true := by unfold holdC; rw [hsd]; simp [hmo]
  have q14 := m0.st.q14
  rw [hsd] at q14
  have q7 := m0.st.q7
  have q1 := m0.st.q1
  have hM' := mode_st B _ g c s m0.st
  rw [hmo] at hM'
  have hr1 : r = (begC c false, noH) := by rw [hr]; unfold interC; rw [if_neg (by decide), if_neg (by omega), hH]; simp
  have hG' : ∀ w1, StB B w1 g c s → Calls Tryz.prog 145 #[.pointer (some ⟨g, 0, none⟩), .bool false] w1 fun e w' => e = .returned (.tuple #[]) ∧ ∃ s', Left B w1 w' g r.1 s s' := fun w1 k => by
    rw [hr1]; exact begin_any B w1 g c s _ k (fun e => by cases e)
  have HZ := hid (show r.2 = (0, zeroFr) by rw [hr1]; rfl)
  have i2 : ¬ (c.n : Int) < 2 := by omega
  clear hH hr hsd h hg hr1 hn2 hmo
  go_enter Tryz.func123, Tryz.ntmps123
  go_wp2_with (first
    | (go_at_call 155; (with_reducible refine hM'.mono ?_); rintro e w1 ⟨rfl, g1⟩; have m1 := m0.call g1; clear q7 q1; have q7 := m1.st.q7; have q1 := m1.st.q1)
    | (go_at_call 151; (with_reducible refine (hO' _ m1.st).mono ?_); rintro e w2 ⟨rfl, s2, l2⟩; have m2 := m1.left l2; obtain ⟨p0, p1, p2, p3, p4, p5⟩ := m2.hps; have fp := m2.hpf)
    | (go_at_call 154; (with_reducible refine (hV' _ m1.st).mono ?_); rintro e w4 ⟨s4, a4, n4, rfl, l4, o4, b4⟩; have m4 := m1.left l4; obtain ⟨p0, p1, p2, p3, p4, p5⟩ := m4.hps; have fp := m4.hpf)
    | (go_at_call 145; (with_reducible refine (hG' _ m1.st).mono ?_); rintro e w2 ⟨rfl, s2, l2⟩; have m2 := m1.left l2; obtain ⟨p0, p1, p2, p3, p4, p5⟩ := m2.hps; have fp := m2.hpf))
  all_goals exact bodyPost_ret (v := .agg (hapA (0, zeroFr) none 0)) (by simp [results, Tryz.results123, go_sem, p0, p1, p2, p3, p4, p5]; rfl) rfl (m2.six 0 rfl HZ.out _ _ _ _ _ _)

/-- PhaseInter. -/
theorem between_st (B : Nat) (w : World) (g : Nat) (c : Ct) (s : Sl) (x : Bool) (r : Ct × Hp) (hr : r = interC c x) (h : StB B w g c s) (hn : c.n ≤ 1000000000) (hg : c.has = true → Good c.give) :
    Calls Tryz.prog 123 #[.pointer (some ⟨g, 0, none⟩), .bool x] w (Told B w g s r) := by
  cases x
  · by_cases hn2 : c.n < 2
    · cases hs : c.sender
      · exact between_false_l_false_any B w g c s r hr h hs hn2 hn hg
      · by_cases hmo : moC c.cf = 1
        · exact between_false_l_true_true B w g c s r hr h hs hn2 hmo hn hg
        · exact between_false_l_true_false B w g c s r hr h hs hn2 hmo hn hg
    · cases hs : c.sender
      · exact between_false_g_false_any B w g c s r hr h hs hn2 hn hg
      · by_cases hmo : moC c.cf = 1
        · exact between_false_g_true_true B w g c s r hr h hs hn2 hmo hn hg
        · exact between_false_g_true_false B w g c s r hr h hs hn2 hmo hn hg
  · cases hs : c.sender
    · exact between_true_z_false_any B w g c s r hr h hs hn hg
    · by_cases hmo : moC c.cf = 1
      · exact between_true_z_true_true B w g c s r hr h hs hmo hn hg
      · exact between_true_z_true_false B w g c s r hr h hs hmo hn hg
end Go.Proofs.YtajdbimdiodalaaGreat

namespace Go.Proofs.YtajdbimdiodalaaGreat
open Go.RowKit Go.Sort
set_option linter.unusedVariables false

/-- What is done with a bit, by phases. -/
def doC : Array Value := #[.func (.func 117) #[] #[], .func (.func 118) #[] #[], .func (.func 119) #[] #[], .func (.func 120) #[] #[],
  .func (.func 119) #[] #[], .func (.func 121) #[] #[], .func (.func 122) #[] #[], .func (.func 123) #[] #[], .func (.func 124) #[] #[], .func (.func 125) #[] #[]]

theorem rowD : RowT Tryz.prog 168 10 := rowT_of (by kernel_rfl) (by kernel_rfl)

theorem doings_any (w : World) : Calls Tryz.prog 88 #[] w fun e w' => e = .returned (.agg doC) ∧ Below w.heap.size w w' := by
  go_enter Tryz.func88, Tryz.ntmps88
  go_wp2
  exact bodyPost_ret (v := .agg doC) (results_row rowD rfl _ _ _ rfl (heap_alloc_new w (.cells doC 168)) rfl) rfl ⟨rfl, bnew0 w _⟩

/-- What Step asks of a controller. -/
structure StepOK (c : Ct) : Prop where
  ph : c.ph < 10
  n : c.n ≤ 1000000000
  mo : c.ph ≠ 9 → moC c.cf ≤ 1
  gv : c.has = true → Good c.give
  dl : c.give.data.length ≤ 1000000
  wl : c.wire.length ≤ 1000000
  tl : c.tk.l.length ≤ 1000000
  tk : c.ph = 1 → TkOK c.tk
  sn : c.ph = 1 → c.sends = true → SndOK c
  dn : c.ph = 6 → c.n < 8

theorem lead8 (c : Ct) (x : Bool) (hok : StepOK c) : ∃ F, doC[c.ph]? = some (.func (.func F) #[] #[]) ∧ plainFn F = true ∧ ∀ (B : Nat) (w : World) (g : Nat) (s : Sl), StB B w g c s →
    Calls Tryz.prog F #[.pointer (some ⟨g, 0, none⟩), .bool x] w (Told B w g s (stC c x)) := by
  have hph := hok.ph
  have hcase : c.ph = 0 ∨ c.ph = 1 ∨ c.ph = 2 ∨ c.ph = 3 ∨ c.ph = 4 ∨ c.ph = 5 ∨ c.ph = 6 ∨ c.ph = 7 ∨ c.ph = 8 ∨ c.ph = 9 := by omega
  rcases hcase with e | e | e | e | e | e | e | e | e | e
  · exact ⟨_, by rw [e]; rfl, by kernel_rfl, fun B w g s h => idle_st B w g c s x _ (by unfold stC; rw [if_pos e]) h (hok.mo (by omega)) hok.gv⟩
  · exact ⟨_, by rw [e]; rfl, by kernel_rfl, fun B w g s h => inFrame_st B w g c s x _ (by unfold stC; rw [if_neg (by omega), if_pos e]) h (hok.sn e) (hok.tk e) (hok.mo (by omega))⟩
  · exact ⟨_, by rw [e]; rfl, by kernel_rfl, fun B w g s h => inFlag_st B w g c s x _ (by unfold stC; rw [if_neg (by omega), if_neg (by omega), if_pos (by omega)]) h (hok.mo (by omega)) hok.n⟩
  · exact ⟨_, by rw [e]; rfl, by kernel_rfl, fun B w g s h => weak_st B w g c s x _ (by unfold stC; rw [if_neg (by omega), if_neg (by omega), if_neg (by omega), if_pos e]) h (hok.mo (by omega)) hok.n⟩
  · exact ⟨_, by rw [e]; rfl, by kernel_rfl, fun B w g s h => inFlag_st B w g c s x _ (by unfold stC; rw [if_neg (by omega), if_neg (by omega), if_pos (by omega)]) h (hok.mo (by omega)) hok.n⟩
  · exact ⟨_, by rw [e]; rfl, by kernel_rfl, fun B w g s h => wait_st B w g c s x _ (by unfold stC; rw [if_neg (by omega), if_neg (by omega), if_neg (by omega), if_neg (by omega), if_pos e]) h (hok.mo (by omega)) hok.n⟩
  · exact ⟨_, by rw [e]; rfl, by kernel_rfl, fun B w g s h => delimit_st B w g c s x _ (by unfold stC; rw [if_neg (by omega), if_neg (by omega), if_neg (by omega), if_neg (by omega), if_neg (by omega), if_pos e]) h (hok.mo (by omega)) (hok.dn e)⟩
  · exact ⟨_, by rw [e]; rfl, by kernel_rfl, fun B w g s h => between_st B w g c s x _ (by unfold stC; rw [if_neg (by omega), if_neg (by omega), if_neg (by omega), if_neg (by omega), if_neg (by omega), if_neg (by omega), if_pos e]) h hok.n hok.gv⟩
  · exact ⟨_, by rw [e]; rfl, by kernel_rfl, fun B w g s h => hold_st B w g c s x _ (by unfold stC; rw [if_neg (by omega), if_neg (by omega), if_neg (by omega), if_neg (by omega), if_neg (by omega), if_neg (by omega), if_neg (by omega), if_pos e]) h hok.n⟩
  · exact ⟨_, by rw [e]; rfl, by kernel_rfl, fun B w g s h => away_st B w g c s x _ (by unfold stC; rw [if_neg (by omega), if_neg (by omega), if_neg (by omega), if_neg (by omega), if_neg (by omega), if_neg (by omega), if_neg (by omega), if_neg (by omega)]) h⟩
end Go.Proofs.YtajdbimdiodalaaGreat

namespace Go.Proofs.YtajdbimdiodalaaGreat
open Go.RowKit Go.Sort
set_option linter.unusedVariables false

theorem CtO.fresh {B : Nat} {w : World} {c : Ct} {s : Sl} (h : CtO B w c s) {k : Nat} (hk : w.heap.size ≤ k) : NBs s k :=
  ⟨fun q hq e => by have := (h.da.ltB hq).1; omega, fun q hq e => by have := (h.wi.ltB hq).1; omega, fun q hq e => by have := (h.ti.ltB hq).1; omega⟩

/-- The cells of a controller that is zero. -/
abbrev ctZ : Array Value := #[.int .u8 0, .int .i64 0, .int .i64 0, .int .i64 0, .bool false, .int .i64 0, .int .i64 0, .bool false, .int .u32 0, .bool false, .bool false, .int .u8 0, .slice none 0 0, .bool false, .bool false, .slice none 0 0, .int .i64 0, .bool false, .int .u8 0, .slice none 0 0, .int .u8 0, .bool false, .bool false, .int .u8 0, .bool false, .bool false]
set_option maxRecDepth 100000 in
set_option maxHeartbeats 2000000 in
theorem step_any (w : World) (c : Ct) (s : Sl) (x : Bool) (h : CtR w c s) (hok : StepOK c) :
    Calls Tryz.prog 59 #[.agg (ctA c s), .bool x] w fun e w' => ∃ s' a n, e = .returned (.tuple #[.agg (ctA (stC c x).1 s'), .agg (hapA (stC c x).2 a n)]) ∧ CtO w.heap.size w' (stC c x).1 s' ∧
      OL bv 5 w.heap.size w' a (stC c x).2.2.data.length n (stC c x).2.2.data ∧ Below w.heap.size w w' := by
  obtain ⟨F, hF, hpl, hL⟩ := lead8 c x hok
  have hcf := fun args w => call_plain hpl args w
  clear hpl
  have hdo : ∀ w, Calls Tryz.prog 88 #[] w fun e w' => e = .returned (.agg #[.func (.func 117) #[] #[], .func (.func 118) #[] #[], .func (.func 119) #[] #[], .func (.func 120) #[] #[], .func (.func 119) #[] #[], .func (.func 121) #[] #[], .func (.func 122) #[] #[], .func (.func 123) #[] #[], .func (.func 124) #[] #[], .func (.func 125) #[] #[]]) ∧ Below w.heap.size w w' := doings_any
  have hph := hok.ph
  have hA : ∀ w1, CtR w1 c s → Calls Tryz.prog 52 #[.agg (ctA c s)] w1 fun e w' => ∃ s', e = .returned (.agg #[.int .u8 (c.ph : Int), .int .i64 (c.n : Int), .int .i64 c.cf.t, .int .i64 c.cf.r, .bool c.cf.o, .int .i64 c.cf.n, .int .i64 c.cf.m, .bool c.has, .int .u32 (c.give.id : Int), .bool c.give.ext, .bool c.give.rem, .int .u8 (c.give.dlc : Int), .slice s'.da c.give.data.length s'.dc, .bool c.sends, .bool c.sender, .slice s'.wa c.wire.length s'.wc, .int .i64 (c.pos : Int), .bool c.tk.b, .int .u8 (c.tk.m : Int), .slice s'.ta c.tk.l.length s'.tc, .int .u8 (c.tk.p : Int), .bool c.tk.fi, .bool c.rl, .int .u8 (c.rm : Int), .bool c.err, .bool c.owed]) ∧ CtO w1.heap.size w' c s' ∧ Below w1.heap.size w1 w' :=
    fun (w1 : World) (k : CtR w1 c s) => apart_any w1 c s k hok.dl hok.wl hok.tl
  generalize stC c x = r at *
  obtain ⟨p, hp⟩ : ∃ p, p = c.ph := ⟨_, rfl⟩
  have q0 : (ctA c s)[0]? = some (.int .u8 (p : Int)) := by rw [hp]; rfl
  rw [← hp] at hF hph
  replace hF : ([.func (.func 117) #[] #[], .func (.func 118) #[] #[], .func (.func 119) #[] #[], .func (.func 120) #[] #[], .func (.func 119) #[] #[], .func (.func 121) #[] #[], .func (.func 122) #[] #[], .func (.func 123) #[] #[], .func (.func 124) #[] #[], .func (.func 125) #[] #[]] : List Value)[p]? = some (.func (.func F) #[] #[]) := by rw [← hF]; unfold doC; simp
  clear hp
  have hF2 : ∀ hh : p < ([.func (.func 117) #[] #[], .func (.func 118) #[] #[], .func (.func 119) #[] #[], .func (.func 120) #[] #[], .func (.func 119) #[] #[], .func (.func 121) #[] #[], .func (.func 122) #[] #[], .func (.func 123) #[] #[], .func (.func 124) #[] #[], .func (.func 125) #[] #[]] : List Value).length, ([.func (.func 117) #[] #[], .func (.func 118) #[] #[], .func (.func 119) #[] #[], .func (.func 120) #[] #[], .func (.func 119) #[] #[], .func (.func 121) #[] #[], .func (.func 122) #[] #[], .func (.func 123) #[] #[], .func (.func 124) #[] #[], .func (.func 125) #[] #[]] : List Value)[p]'hh = .func (.func F) #[] #[] := fun hh => by rw [List.getElem?_eq_getElem hh] at hF; exact Option.some.inj hF
  have i1 : ¬ (10 : Int) ≤ (p : Int) := by omega
  have i2 : (p : Int) < 10 := by omega
  have hb0 := bx_alloc (.cells hap0 127) (bx_alloc (.cells ctZ 42) (heap_alloc_new w (.cells (ctA c s) 42)))
  have g0 : Below w.heap.size w (((w.alloc (.cells (ctA c s) 42)).alloc (.cells ctZ 42)).alloc (.cells hap0 127)) := bnew (bnew (bnew0 w _) _) _
  have z0 : (((w.alloc (.cells (ctA c s) 42)).alloc (.cells ctZ 42)).alloc (.cells hap0 127)).heap.size = w.heap.size + 3 := by simp
  have hr0 : (((w.alloc (.cells (ctA c s) 42)).alloc (.cells ctZ 42)).alloc (.cells hap0 127)).heap[w.heap.size + 1]? = some (.cells ctZ 42 (0, 0)) := by
    refine bx_alloc _ ?_
    have := heap_alloc_new (w.alloc (.cells (ctA c s) 42)) (.cells ctZ 42); rwa [heap_size_alloc] at this
  have hh0 : (((w.alloc (.cells (ctA c s) 42)).alloc (.cells ctZ 42)).alloc (.cells hap0 127)).heap[w.heap.size + 2]? = some (.cells hap0 127 (0, 0)) := by
    have := heap_alloc_new ((w.alloc (.cells (ctA c s) 42)).alloc (.cells ctZ 42)) (.cells hap0 127); rwa [heap_size_alloc, heap_size_alloc] at this
  have h0 := h.below g0
  clear hok
  go_enter Tryz.func59, Tryz.ntmps59
  go_upto_region 6 with (first
    | (with_reducible refine wpList_loadR rowC rfl _ rfl _ rfl hb0 rfl ?_)
    | (go_at_call 52; refine (hA _ h0).mono ?_; rintro e w1 ⟨s1, rfl, o1, g1⟩
       have hb1 := bx_below hb0 g1
       have hr1 := bx_below hr0 g1
       have hh1 := bx_below hh0 g1
       have gg1 := bstep g0 g1
       have z1 := g1.size
       have hz := heap_alloc_new w1 (.cells ctZ 166))
    | (with_reducible refine wpList_storeR rowS rfl _ _ rfl _ _ rfl rfl hz rfl rfl (by kernel_rfl) ?_)
    | (go_at_call 88
       have hn1 : w.heap.size ≠ w1.heap.size ∧ w.heap.size + 1 ≠ w1.heap.size ∧ w.heap.size + 2 ≠ w1.heap.size := by omega
       have hb2 := (setRow_other (w1.alloc (.cells ctZ 166)) w1.heap.size w.heap.size (ctA c s1) hn1.1).trans (bx_alloc _ hb1)
       have hr2 := (setRow_other (w1.alloc (.cells ctZ 166)) w1.heap.size (w.heap.size + 1) (ctA c s1) hn1.2.1).trans (bx_alloc _ hr1)
       have hh2 := (setRow_other (w1.alloc (.cells ctZ 166)) w1.heap.size (w.heap.size + 2) (ctA c s1) hn1.2.2).trans (bx_alloc _ hh1)
       have st2 : StB (w.heap.size + 3) ((w1.alloc (.cells ctZ 166)).setRow w1.heap.size (ctA c s1)) w1.heap.size c s1 := by
         have k := ((o1.alloc (.cells ctZ 166)).setRow (o1.fresh (Nat.le_refl _)) (ctA c s1)).mono (show w.heap.size + 3 ≤ _ by omega)
         exact ⟨setRow_heap _ _ _ _ _ _ hz, by omega, k.da, k.wi, k.ti, o1.fresh (Nat.le_refl _)⟩
       have gg2 : Below w.heap.size w ((w1.alloc (.cells ctZ 166)).setRow w1.heap.size (ctA c s1)) := below_setRow (bnew gg1 _) (by omega) _
       refine (hdo _).mono ?_
       rintro e w3 ⟨rfl, g3⟩
       have hb3 := bx_below hb2 g3
       have hr3 := bx_below hr2 g3
       have hh3 := bx_below hh2 g3
       have st3 := st2.below g3
       have gg3 := bstep gg2 g3
       have z3 := g3.size
       have z2 : ((w1.alloc (.cells ctZ 166)).setRow w1.heap.size (ctA c s1)).heap.size = w1.heap.size + 1 := by simp
       have q3 : (w3.alloc (.cells #[.func (.func 117) #[] #[], .func (.func 118) #[] #[], .func (.func 119) #[] #[], .func (.func 120) #[] #[], .func (.func 119) #[] #[], .func (.func 121) #[] #[], .func (.func 122) #[] #[], .func (.func 123) #[] #[], .func (.func 124) #[] #[], .func (.func 125) #[] #[]] 168)).cell? ⟨w.heap.size, 0, none⟩ = some (.int .u8 (p : Int)) := by rw [bxC (bx_alloc _ hb3) 0]; exact q0)
    | ((with_reducible refine (hL _ _ _ _ (st3.alloc _)).mono ?_); rintro e w4 ⟨s4, a4, n4, rfl, l4, o4, b4⟩))
  have l3 := st3.lt
  have e2 : ∀ (q : Nat) (o : Obj), q < w1.heap.size → w4.heap[q]? = w3.heap[q]? := fun q o hq => by
    rw [l4.wr.block q (by rw [heap_size_alloc]; omega) (by omega)]; exact (bnew0 w3 _).block q (by omega)
  have gl := l4.wr.size
  rw [heap_size_alloc] at gl
  have gg4 : Below w.heap.size w w4 := (l4.wr.below (bnew gg3 _) (by omega) (by rw [heap_size_alloc]; omega))
  have st5 := l4.st.alloc (.cells (hapA r.2 a4 n4) 127)
  have o5 := o4.alloc (.cells (hapA r.2 a4 n4) 127)
  have hx5 := heap_alloc_new w4 (.cells (hapA r.2 a4 n4) 127)
  have hr5 := bx_alloc (.cells (hapA r.2 a4 n4) 127) ((e2 (w.heap.size + 1) default (by omega)).trans hr3)
  have hh5 := bx_alloc (.cells (hapA r.2 a4 n4) 127) ((e2 (w.heap.size + 2) default (by omega)).trans hh3)
  have gg5 : Below w.heap.size w (w4.alloc (.cells (hapA r.2 a4 n4) 127)) := bnew gg4 _
  change Code.wp _ _ _ _ (w4.alloc (.cells (hapA r.2 a4 n4) 127))
  generalize w4.alloc (.cells (hapA r.2 a4 n4) 127) = W at *
  obtain ⟨b0, b1, b2⟩ : w.heap.size + 1 < w1.heap.size ∧ w.heap.size + 2 < w1.heap.size ∧ w.heap.size + 1 ≠ w4.heap.size := by omega
  have bW := st5.lt
  have hW1 : (W.drew.setRow (w.heap.size + 1) (ctA r.1 s4)).heap[w4.heap.size]? = some (.cells (hapA r.2 a4 n4) 127 (0, 0)) := (setRow_other _ _ _ _ (by omega)).trans hx5
  have hW2 : (W.drew.setRow (w.heap.size + 1) (ctA r.1 s4)).heap[w.heap.size + 2]? = some (.cells hap0 127 (0, 0)) := (setRow_other _ _ _ _ (by omega)).trans hh5
  have hW3 : (W.drew.setRow (w.heap.size + 1) (ctA r.1 s4)).heap[w.heap.size + 1]? = some (.cells (ctA r.1 s4) 42 (0, 0)) := setRow_heap _ _ _ _ _ _ hr5
  have hW4 := (setRow_other (W.drew.setRow (w.heap.size + 1) (ctA r.1 s4)) (w.heap.size + 2) (w.heap.size + 1) (hapA r.2 a4 n4) (by omega)).trans hW3
  have hW5 : ((W.drew.setRow (w.heap.size + 1) (ctA r.1 s4)).setRow (w.heap.size + 2) (hapA r.2 a4 n4)).heap[w.heap.size + 2]? = some (.cells (hapA r.2 a4 n4) 127 (0, 0)) := setRow_heap _ _ _ _ _ _ hW2
  have gW : Below w.heap.size w ((W.drew.setRow (w.heap.size + 1) (ctA r.1 s4)).setRow (w.heap.size + 2) (hapA r.2 a4 n4)) :=
    below_setRow (below_setRow (gg5.trans ((below_drewN (Below.refl _ W) 1).mono gg5.size)) (by omega) _) (by omega) _
  have oC : CtO (w.heap.size + 3) ((W.drew.setRow (w.heap.size + 1) (ctA r.1 s4)).setRow (w.heap.size + 2) (hapA r.2 a4 n4)) r.1 s4 :=
    CtO.setRow (CtO.setRow (w := W.drew) ⟨st5.da, st5.wi, st5.ti⟩ (st5.o.nbs (by omega)) _) (st5.o.nbs (by omega)) _
  have oD : OL bv 5 (w.heap.size + 3) ((W.drew.setRow (w.heap.size + 1) (ctA r.1 s4)).setRow (w.heap.size + 2) (hapA r.2 a4 n4)) a4 r.2.2.data.length n4 r.2.2.data :=
    (OL.kept (w' := W.drew.setRow (w.heap.size + 1) (ctA r.1 s4)) o5 fun q hq => setRow_other W.drew _ _ _ (by have := (o5.ltB hq).2; dsimp only at this; omega)).kept fun q hq => setRow_other _ _ _ _ (by have := (o5.ltB hq).2; dsimp only at this; omega)
  refine wp_region_any (by kernel_rfl) ?_
  change wpAny _ _ _ _ _ _ _ W.drew
  refine wpAny_take (i := 0) (v := .pointer (some ⟨w1.heap.size, 0, none⟩)) rfl (by kernel_rfl) (by kernel_rfl) (by kernel_rfl) (fun _ _ _ h => h) (Or.inl ⟨by rfl, ?_⟩) ?_
  · intro w; go_simp
  refine wpAny_ready (rs := [1, 2]) (by kernel_rfl) (by simp) ?_
  refine AllReady.cons rfl (fun K hK => ?_) (AllReady.cons rfl (fun K hK => ?_) AllReady.nil)
  · refine draw_loadR rowC rfl _ rfl w1.heap.size rfl (w := W.drew) st5.box rfl ?_
    refine hK _ _ ?_; clear hK K
    refine wpAny_ready (rs := [2, 3]) (by kernel_rfl) (by simp) ?_
    refine AllReady.cons rfl (fun K hK => ?_) (AllReady.cons rfl (fun K hK => ?_) AllReady.nil)
    · refine draw_loadR rowH rfl _ rfl w4.heap.size rfl (w := W.drew) hx5 rfl ?_
      refine hK _ _ ?_; clear hK K
      refine wpAny_ready (rs := [3]) (by kernel_rfl) (by simp) ?_
      refine AllReady.cons rfl (fun K hK => ?_) AllReady.nil
      refine draw_storeR rowC rfl _ _ rfl (w.heap.size + 1) _ rfl rfl (w := W.drew) hr5 rfl rfl (ct_ones _ _) ?_
      refine hK _ _ ?_; clear hK K
      refine wpAny_ready (rs := [4]) (by kernel_rfl) (by simp) ?_
      refine AllReady.cons rfl (fun K hK => ?_) AllReady.nil
      refine draw_storeR rowH rfl _ _ rfl (w.heap.size + 2) _ rfl rfl hW2 rfl rfl (hap_ones _ _ _) ?_
      refine hK _ _ ?_; clear hK K
      refine wpAny_done (by kernel_rfl) ?_ _
      go_wp2
      exact bodyPost_ret (v := .tuple #[.agg (ctA r.1 s4), .agg (hapA r.2 a4 n4)]) (results_row2 rowC rowH rfl _ _ _ _ rfl rfl hW4 hW5 rfl rfl) rfl ⟨s4, a4, n4, rfl, oC.mono (by omega), oD.mono (by omega), gW⟩
    · refine draw_storeR rowC rfl _ _ rfl (w.heap.size + 1) _ rfl rfl (w := W.drew) hr5 rfl rfl (ct_ones _ _) ?_
      refine hK _ _ ?_; clear hK K
      refine wpAny_ready (rs := [2]) (by kernel_rfl) (by simp) ?_
      refine AllReady.cons rfl (fun K hK => ?_) AllReady.nil
      refine draw_loadR rowH rfl _ rfl w4.heap.size rfl hW1 rfl ?_
      refine hK _ _ ?_; clear hK K
      refine wpAny_ready (rs := [4]) (by kernel_rfl) (by simp) ?_
      refine AllReady.cons rfl (fun K hK => ?_) AllReady.nil
      refine draw_storeR rowH rfl _ _ rfl (w.heap.size + 2) _ rfl rfl hW2 rfl rfl (hap_ones _ _ _) ?_
      refine hK _ _ ?_; clear hK K
      refine wpAny_done (by kernel_rfl) ?_ _
      go_wp2
      exact bodyPost_ret (v := .tuple #[.agg (ctA r.1 s4), .agg (hapA r.2 a4 n4)]) (results_row2 rowC rowH rfl _ _ _ _ rfl rfl hW4 hW5 rfl rfl) rfl ⟨s4, a4, n4, rfl, oC.mono (by omega), oD.mono (by omega), gW⟩
  · refine draw_loadR rowH rfl _ rfl w4.heap.size rfl (w := W.drew) hx5 rfl ?_
    refine hK _ _ ?_; clear hK K
    refine wpAny_ready (rs := [1]) (by kernel_rfl) (by simp) ?_
    refine AllReady.cons rfl (fun K hK => ?_) AllReady.nil
    refine draw_loadR rowC rfl _ rfl w1.heap.size rfl (w := W.drew) st5.box rfl ?_
    refine hK _ _ ?_; clear hK K
    refine wpAny_ready (rs := [3]) (by kernel_rfl) (by simp) ?_
    refine AllReady.cons rfl (fun K hK => ?_) AllReady.nil
    refine draw_storeR rowC rfl _ _ rfl (w.heap.size + 1) _ rfl rfl (w := W.drew) hr5 rfl rfl (ct_ones _ _) ?_
    refine hK _ _ ?_; clear hK K
    refine wpAny_ready (rs := [4]) (by kernel_rfl) (by simp) ?_
    refine AllReady.cons rfl (fun K hK => ?_) AllReady.nil
    refine draw_storeR rowH rfl _ _ rfl (w.heap.size + 2) _ rfl rfl hW2 rfl rfl (hap_ones _ _ _) ?_
    refine hK _ _ ?_; clear hK K
    refine wpAny_done (by kernel_rfl) ?_ _
    go_wp2
    exact bodyPost_ret (v := .tuple #[.agg (ctA r.1 s4), .agg (hapA r.2 a4 n4)]) (results_row2 rowC rowH rfl _ _ _ _ rfl rfl hW4 hW5 rfl rfl) rfl ⟨s4, a4, n4, rfl, oC.mono (by omega), oD.mono (by omega), gW⟩
end Go.Proofs.YtajdbimdiodalaaGreat

namespace Go.Proofs.YtajdbimdiodalaaGreat
open Go.RowKit Go.Sort
set_option linter.unusedVariables false

section
variable (w : World) (c : Ct) (s : Sl)

/-- Drive in a phase that is no frame. -/
theorem drive_phase (p : Nat) (hp : c.ph = p) (h1 : p ≠ 1) (h10 : p < 10) (v : Bool) (hv : v = dvC c) :
    Calls Tryz.prog 62 #[.agg (ctA c s)] w fun e w' => e = .returned (.bool v) ∧ Below w.heap.size w w' := by
  have hb := heap_alloc_new w (.cells (ctA c s) 42)
  have q0 : (ctA c s)[0]? = some (.int .u8 (c.ph : Int)) := rfl
  have q3 : (ctA c s)[7]? = some (.bool c.has) := rfl
  have g1 := bnew0 w (.cells (ctA c s) 42)
  unfold dvC at hv
  rw [hp] at q0 hv
  clear hb hp
  have hcase : p = 0 ∨ p = 2 ∨ p = 3 ∨ p = 4 ∨ p = 5 ∨ p = 6 ∨ p = 7 ∨ p = 8 ∨ p = 9 := by omega
  clear h1 h10
  rcases hcase with rfl | rfl | rfl | rfl | rfl | rfl | rfl | rfl | rfl
  all_goals
    simp only [show ((0 : Nat) : Int) = 0 from rfl, show ((2 : Nat) : Int) = 2 from rfl, show ((3 : Nat) : Int) = 3 from rfl, show ((4 : Nat) : Int) = 4 from rfl, show ((5 : Nat) : Int) = 5 from rfl, show ((6 : Nat) : Int) = 6 from rfl, show ((7 : Nat) : Int) = 7 from rfl, show ((8 : Nat) : Int) = 8 from rfl, show ((9 : Nat) : Int) = 9 from rfl] at q0
    simp at hv
    subst hv
    go_enter Tryz.func62, Tryz.ntmps62
    go_wp2
    go_ret
    exact ⟨rfl, g1⟩

theorem drive_any (h : CtR w c s) (h10 : c.ph < 10) (hs : c.ph = 1 → c.sends = true → c.pos < c.wire.length) :
    Calls Tryz.prog 62 #[.agg (ctA c s)] w fun e w' => e = .returned (.bool (dvC c)) ∧ Below w.heap.size w w' := by
  by_cases h1 : c.ph = 1
  · have hb := heap_alloc_new w (.cells (ctA c s) 42)
    have g1 := bnew0 w (.cells (ctA c s) 42)
    have k1 := h.below g1
    have q0 : (ctA c s)[0]? = some (.int .u8 (c.ph : Int)) := rfl
    have q13 : (ctA c s)[13]? = some (.bool c.sends) := rfl
    have q17 : (ctA c s)[17]? = some (.bool c.tk.b) := rfl
    have q18 : (ctA c s)[18]? = some (.int .u8 (c.tk.m : Int)) := rfl
    have q19 : (ctA c s)[19]? = some (.slice s.ta c.tk.l.length s.tc) := rfl
    have q20 : (ctA c s)[20]? = some (.int .u8 (c.tk.p : Int)) := rfl
    have q21 : (ctA c s)[21]? = some (.bool c.tk.fi) := rfl
    rw [h1] at q0
    simp only [show ((1 : Nat) : Int) = 1 from rfl] at q0
    have hD := fun w1 => drive7_any w1 c.tk.b c.tk.m s.ta c.tk.l.length s.tc c.tk.p c.tk.fi
    have hv : dvC c = if c.sends then c.wire[c.pos]?.getD false else drT c.tk.p c.tk.fi := by unfold dvC; rw [if_neg (by omega), if_pos h1]
    cases hsd : c.sends
    · rw [hsd] at q13 hv
      simp only [Bool.false_eq_true, if_false] at hv
      rw [hv]
      generalize drT c.tk.p c.tk.fi = v at *
      clear h1 hsd hv hs h10
      go_enter Tryz.func62, Tryz.ntmps62
      go_wp2_with (go_at_call 93; (with_reducible refine (hD _).mono ?_); rintro e w1 ⟨rfl, g2⟩)
      go_ret
      exact ⟨rfl, bstep g1 g2⟩
    · have hW := onWire_any (w.alloc (.cells (ctA c s) 42)) c s k1.wi (hs h1 hsd)
      rw [hsd] at q13 hv
      simp only [if_true] at hv
      rw [hv]
      generalize c.wire[c.pos]?.getD false = v at *
      clear h1 hsd hv hs h10 hD
      go_enter Tryz.func62, Tryz.ntmps62
      go_wp2_with (first
        | (go_at_call 92; (with_reducible refine hW.mono ?_); rintro e w1 ⟨rfl, g2⟩)
        | (with_reducible refine wpList_loadR rowC rfl _ rfl _ rfl hb rfl ?_))
      go_ret
      exact ⟨rfl, bstep g1 g2⟩
  · exact drive_phase w c s c.ph rfl h1 h10 _ rfl
end
end Go.Proofs.YtajdbimdiodalaaGreat

namespace Go.Proofs.YtajdbimdiodalaaGreat
open Go.RowKit Go.Sort
set_option linter.unusedVariables false

end Go.Proofs.YtajdbimdiodalaaGreat

namespace Go.Proofs.YtajdbimdiodalaaGreat
open Go.RowKit Go.Sort
set_option linter.unusedVariables false

theorem set6r_other {w : World} {g q : Nat} (hq : q ≠ g) (v0 v1 v2 v3 v4 v5 : Value) : ((((((w.setCell ⟨g, 7, none⟩ v0).setCell ⟨g, 8, none⟩ v1).setCell ⟨g, 9, none⟩ v2).setCell ⟨g, 10, none⟩ v3).setCell ⟨g, 11, none⟩ v4).setCell ⟨g, 12, none⟩ v5).drew.heap[q]? = w.heap[q]? := by
  rw [heap_drew, Below.heap_setCell _ _ _ _ hq, Below.heap_setCell _ _ _ _ hq, Below.heap_setCell _ _ _ _ hq, Below.heap_setCell _ _ _ _ hq, Below.heap_setCell _ _ _ _ hq, Below.heap_setCell _ _ _ _ hq]

theorem set6r_same {w : World} {g : Nat} {c : Ct} {s : Sl} {T : TypeId} (hb : w.heap[g]? = some (.cells (ctA c s) T (0, 0))) (F : Fr) (a : Option Addr) (k : Nat) :
    ((((((w.setCell ⟨g, 7, none⟩ (.bool true)).setCell ⟨g, 8, none⟩ (.int .u32 (F.id : Int))).setCell ⟨g, 9, none⟩ (.bool F.ext)).setCell ⟨g, 10, none⟩ (.bool F.rem)).setCell ⟨g, 11, none⟩ (.int .u8 (F.dlc : Int))).setCell ⟨g, 12, none⟩ (.slice a F.data.length k)).drew.heap[g]? =
      some (.cells (ctA { c with has := true, give := F } { s with da := a, dc := k }) T (0, 0)) := by
  rw [heap_drew]
  have e1 := heap_setCell_same w g 7 _ _ (.bool true) hb
  have e2 := heap_setCell_same _ g 8 _ _ (.int .u32 (F.id : Int)) e1
  have e3 := heap_setCell_same _ g 9 _ _ (.bool F.ext) e2
  have e4 := heap_setCell_same _ g 10 _ _ (.bool F.rem) e3
  have e5 := heap_setCell_same _ g 11 _ _ (.int .u8 (F.dlc : Int)) e4
  have e6 := heap_setCell_same _ g 12 _ _ (.slice a F.data.length k) e5
  rw [e6]
  rfl

theorem below_drew1 {B : Nat} {w W : World} (h : Below B w W) : Below B w W.drew := ⟨h.os, h.tape, h.output, h.size, h.block⟩
theorem set6r_below {w w1 : World} {B g : Nat} (h : Below B w w1) (hg : B ≤ g) (v0 v1 v2 v3 v4 v5 : Value) :
    Below B w ((((((w1.setCell ⟨g, 7, none⟩ v0).setCell ⟨g, 8, none⟩ v1).setCell ⟨g, 9, none⟩ v2).setCell ⟨g, 10, none⟩ v3).setCell ⟨g, 11, none⟩ v4).setCell ⟨g, 12, none⟩ v5).drew := by
  have e1 := Below.setCell (p := ⟨g, 7, none⟩) h hg v0
  have e2 := Below.setCell (p := ⟨g, 8, none⟩) e1 hg v1
  have e3 := Below.setCell (p := ⟨g, 9, none⟩) e2 hg v2
  have e4 := Below.setCell (p := ⟨g, 10, none⟩) e3 hg v3
  have e5 := Below.setCell (p := ⟨g, 11, none⟩) e4 hg v4
  have e6 := Below.setCell (p := ⟨g, 12, none⟩) e5 hg v5
  exact below_drew1 e6

set_option maxHeartbeats 1000000 in
theorem give_yes (w : World) (c : Ct) (s : Sl) (F : Fr) (hF : Good F) (a : Option Addr) (k : Nat) (h : CtR w c s) (h2 : RL bv w a F.data.length k F.data) (hh : c.has = false) (hw : c.wire.length ≤ 1000000) (ht : c.tk.l.length ≤ 1000000) :
    Calls Tryz.prog 86 #[.agg (ctA c s), .agg #[.int .u32 (F.id : Int), .bool F.ext, .bool F.rem, .int .u8 (F.dlc : Int), .slice a F.data.length k]] w fun e w' => ∃ s', e = .returned (.tuple #[.agg (ctA { c with has := true, give := F } s'), .int .i64 0]) ∧
      CtO w.heap.size w' { c with has := true, give := F } s' ∧ Below w.heap.size w w' := by
  have hb0 := bx_alloc (.cells ctZ 42) (bx_alloc (.cells #[.int .u32 (F.id : Int), .bool F.ext, .bool F.rem, .int .u8 (F.dlc : Int), .slice a F.data.length k] 35) (heap_alloc_new w (.cells (ctA c s) 42)))
  have hf0 : (((w.alloc (.cells (ctA c s) 42)).alloc (.cells #[.int .u32 (F.id : Int), .bool F.ext, .bool F.rem, .int .u8 (F.dlc : Int), .slice a F.data.length k] 35)).alloc (.cells ctZ 42)).heap[w.heap.size + 1]? = some (.cells #[.int .u32 (F.id : Int), .bool F.ext, .bool F.rem, .int .u8 (F.dlc : Int), .slice a F.data.length k] 35 (0, 0)) := by
    have := bx_alloc (.cells ctZ 42) (heap_alloc_new (w.alloc (.cells (ctA c s) 42)) (.cells #[.int .u32 (F.id : Int), .bool F.ext, .bool F.rem, .int .u8 (F.dlc : Int), .slice a F.data.length k] 35)); rwa [heap_size_alloc] at this
  have hr0 : (((w.alloc (.cells (ctA c s) 42)).alloc (.cells #[.int .u32 (F.id : Int), .bool F.ext, .bool F.rem, .int .u8 (F.dlc : Int), .slice a F.data.length k] 35)).alloc (.cells ctZ 42)).heap[w.heap.size + 2]? = some (.cells ctZ 42 (0, 0)) := by
    have := heap_alloc_new ((w.alloc (.cells (ctA c s) 42)).alloc (.cells #[.int .u32 (F.id : Int), .bool F.ext, .bool F.rem, .int .u8 (F.dlc : Int), .slice a F.data.length k] 35)) (.cells ctZ 42); rwa [heap_size_alloc, heap_size_alloc] at this
  have g0 : Below w.heap.size w (((w.alloc (.cells (ctA c s) 42)).alloc (.cells #[.int .u32 (F.id : Int), .bool F.ext, .bool F.rem, .int .u8 (F.dlc : Int), .slice a F.data.length k] 35)).alloc (.cells ctZ 42)) := bnew (bnew (bnew0 w _) _) _
  have hri : riF F.id F.ext F.rem F.dlc F.data.length = true := (good_iff F _ rfl).2 hF
  have hl8 := (riF_long hri)
  have hR := fun w1 => frRight_any w1 F.id F.ext F.rem F.dlc a F.data.length k (by omega) (by omega)
  rw [hri] at hR
  have hA := fun (w1 : World) (k1 : CtR w1 { c with has := true, give := F } { s with da := a, dc := k }) => apart_any w1 { c with has := true, give := F } { s with da := a, dc := k } k1 (by show F.data.length ≤ 1000000; omega) hw ht
  have q3 : (ctA c s)[7]? = some (.bool false) := by rw [← hh]; rfl
  clear hri hl8 hF
  go_enter Tryz.func86, Tryz.ntmps86
  go_upto_region 5 with (first
    | (go_at_call 53; (with_reducible refine (hR _).mono ?_); rintro e w1 ⟨rfl, g1⟩
       have hb1 := bx_below hb0 g1
       have hf1 := bx_below hf0 g1
       have hr1 := bx_below hr0 g1
       have q7 : w1.cell? ⟨w.heap.size, 7, none⟩ = some (.bool false) := (bxC hb1 7).trans q3
       have gg := bstep g0 g1))
  obtain ⟨k0, k1, k2, k3, k4⟩ := bx5 hf1
  have q8 : w1.cell? ⟨w.heap.size, 8, none⟩ = some (.int .u32 (c.give.id : Int)) := bxC hb1 8
  have q9 : w1.cell? ⟨w.heap.size, 9, none⟩ = some (.bool c.give.ext) := bxC hb1 9
  have q10 : w1.cell? ⟨w.heap.size, 10, none⟩ = some (.bool c.give.rem) := bxC hb1 10
  have q11 : w1.cell? ⟨w.heap.size, 11, none⟩ = some (.int .u8 (c.give.dlc : Int)) := bxC hb1 11
  have q12 : w1.cell? ⟨w.heap.size, 12, none⟩ = some (.slice s.da c.give.data.length s.dc) := bxC hb1 12
  have f1 := bx_thaw hb1
  go_region
  have hb2 : ((((((w1.setCell ⟨w.heap.size, 7, none⟩ (.bool true)).setCell ⟨w.heap.size, 8, none⟩ (.int .u32 (F.id : Int))).setCell ⟨w.heap.size, 9, none⟩ (.bool F.ext)).setCell ⟨w.heap.size, 10, none⟩ (.bool F.rem)).setCell ⟨w.heap.size, 11, none⟩ (.int .u8 (F.dlc : Int))).setCell ⟨w.heap.size, 12, none⟩ (.slice a F.data.length k)).drew.heap[w.heap.size]? = some (.cells (ctA { c with has := true, give := F } { s with da := a, dc := k }) 42 (0, 0)) :=
    set6r_same hb1 F a k
  have hr2 : ((((((w1.setCell ⟨w.heap.size, 7, none⟩ (.bool true)).setCell ⟨w.heap.size, 8, none⟩ (.int .u32 (F.id : Int))).setCell ⟨w.heap.size, 9, none⟩ (.bool F.ext)).setCell ⟨w.heap.size, 10, none⟩ (.bool F.rem)).setCell ⟨w.heap.size, 11, none⟩ (.int .u8 (F.dlc : Int))).setCell ⟨w.heap.size, 12, none⟩ (.slice a F.data.length k)).drew.heap[w.heap.size + 2]? = some (.cells ctZ 42 (0, 0)) :=
    (set6r_other (by omega) _ _ _ _ _ _).trans hr1
  have gg2 : Below w.heap.size w ((((((w1.setCell ⟨w.heap.size, 7, none⟩ (.bool true)).setCell ⟨w.heap.size, 8, none⟩ (.int .u32 (F.id : Int))).setCell ⟨w.heap.size, 9, none⟩ (.bool F.ext)).setCell ⟨w.heap.size, 10, none⟩ (.bool F.rem)).setCell ⟨w.heap.size, 11, none⟩ (.int .u8 (F.dlc : Int))).setCell ⟨w.heap.size, 12, none⟩ (.slice a F.data.length k)).drew :=
    set6r_below gg (Nat.le_refl _) _ _ _ _ _ _
  clear k0 k1 k2 k3 k4 q7 q8 q9 q10 q11 q12 f1 hb1 hf1 hr1 gg hb0 hf0 hr0 g0 g1 hR
  generalize ((((((w1.setCell ⟨w.heap.size, 7, none⟩ (.bool true)).setCell ⟨w.heap.size, 8, none⟩ (.int .u32 (F.id : Int))).setCell ⟨w.heap.size, 9, none⟩ (.bool F.ext)).setCell ⟨w.heap.size, 10, none⟩ (.bool F.rem)).setCell ⟨w.heap.size, 11, none⟩ (.int .u8 (F.dlc : Int))).setCell ⟨w.heap.size, 12, none⟩ (.slice a F.data.length k)).drew = W at *
  have h3 : CtR W { c with has := true, give := F } { s with da := a, dc := k } := ⟨h2.below gg2, h.wi.below gg2, h.ti.below gg2⟩
  have z2 := gg2.size
  have l2 := bx_lt hr2
  go_wp2_with (first
    | (with_reducible refine wpList_loadR rowC rfl _ rfl _ rfl hb2 rfl ?_)
    | (go_at_call 52; (with_reducible refine (hA _ h3).mono ?_); rintro e w4 ⟨s4, rfl, o4, g4⟩; have hr4 := bx_below hr2 g4; have gg4 := bstep gg2 g4)
    | (with_reducible refine wpList_storeR rowC rfl _ _ rfl _ _ rfl rfl hr4 rfl rfl (ct_ones _ _) ?_))
  have o5 := o4.setRow (o4.nbs l2) (ctA { c with has := true, give := F } s4)
  exact bodyPost_ret (v := .tuple #[.agg (ctA { c with has := true, give := F } s4), .int .i64 0]) (results_row1 rowC rfl _ _ _ rfl rfl (setRow_heap _ _ _ _ _ _ hr4) rfl) rfl ⟨_, rfl, o5.mono z2, below_setRow gg4 (by omega) _⟩
end Go.Proofs.YtajdbimdiodalaaGreat

namespace Go.Proofs.YtajdbimdiodalaaGreat
open Go.RowKit Go.Sort
set_option linter.unusedVariables false

/-- A box that holds a controller, whose slices lie elsewhere. -/
structure Cb (w : World) (g : Nat) (c : Ct) (s : Sl) : Prop where
  box : w.heap[g]? = some (.cells (ctA c s) 42 (0, 0))
  o : CtO 0 w c s
  nb : NBs s g

section
variable {w w1 w2 : World} {g q B : Nat} {c c' : Ct} {s s' : Sl}
theorem Cb.lt (h : Cb w g c s) : g < w.heap.size := bx_lt h.box
theorem Cb.below (h : Cb w g c s) (k : Below w.heap.size w w1) : Cb w1 g c s := ⟨bx_below h.box k, h.o.below k, h.nb⟩
theorem Cb.alloc (h : Cb w g c s) (o : Obj) : Cb (w.alloc o) g c s := ⟨bx_alloc o h.box, h.o.alloc o, h.nb⟩
theorem Cb.drew (h : Cb w g c s) : Cb w.drew g c s := ⟨h.box, ⟨h.o.da, h.o.wi, h.o.ti⟩, h.nb⟩
/-- Another block is written. -/
theorem Cb.other (h : Cb w g c s) (hq : g ≠ q) (hn : NBs s q) (cs : Array Value) : Cb (w.setRow q cs) g c s := ⟨(setRow_other _ _ _ _ hq).trans h.box, h.o.setRow hn cs, h.nb⟩
theorem Cb.cell (h : Cb w g c s) (hq : g ≠ q) (hn : NBs s q) (i : Nat) (v : Value) : Cb (w.setCell ⟨q, i, none⟩ v) g c s := ⟨(Below.heap_setCell _ _ _ _ hq).trans h.box, h.o.setCell hn v, h.nb⟩
/-- The box is written anew. -/
theorem Cb.put (hb : w.heap[g]? = some (.cells (ctA c s) 42 (0, 0))) (ho : CtO B w c' s') (hn : NBs s' g) : Cb (w.setRow g (ctA c' s')) g c' s' := ⟨setRow_heap _ _ _ _ _ _ hb, (ho.mono (Nat.zero_le _)).setRow hn _, hn⟩
theorem Cb.r (h : Cb w g c s) : CtR w c s := h.o.r
end

end Go.Proofs.YtajdbimdiodalaaGreat

namespace Go.Proofs.YtajdbimdiodalaaGreat
open Go.RowKit Go.Sort
set_option linter.unusedVariables false

/-- Behind a step: a box for the controller, one for what happened, both new. -/
structure Two8 (w1 : World) (r : Ct × Hp) (s : Sl) (a : Option Addr) (n : Nat) : Prop where
  z : (w1.alloc (.cells ctZ 42)).heap[w1.heap.size]? = some (.cells ctZ 42 (0, 0))
  z1 : ((w1.alloc (.cells ctZ 42)).alloc (.cells hap0 127)).heap[w1.heap.size]? = some (.cells ctZ 42 (0, 0))
  h1 : (((w1.alloc (.cells ctZ 42)).alloc (.cells hap0 127)).setRow w1.heap.size (ctA r.1 s)).heap[w1.heap.size + 1]? = some (.cells hap0 127 (0, 0))
  c2 : ((((w1.alloc (.cells ctZ 42)).alloc (.cells hap0 127)).setRow w1.heap.size (ctA r.1 s)).setRow (w1.heap.size + 1) (hapA r.2 a n)).heap[w1.heap.size]? = some (.cells (ctA r.1 s) 42 (0, 0))
  h2 : ((((w1.alloc (.cells ctZ 42)).alloc (.cells hap0 127)).setRow w1.heap.size (ctA r.1 s)).setRow (w1.heap.size + 1) (hapA r.2 a n)).heap[w1.heap.size + 1]? = some (.cells (hapA r.2 a n) 127 (0, 0))
  b : Below w1.heap.size w1 ((((w1.alloc (.cells ctZ 42)).alloc (.cells hap0 127)).setRow w1.heap.size (ctA r.1 s)).setRow (w1.heap.size + 1) (hapA r.2 a n))

theorem two8 (w1 : World) (r : Ct × Hp) (s : Sl) (a : Option Addr) (n : Nat) : Two8 w1 r s a n := by
  have z := heap_alloc_new w1 (.cells ctZ 42)
  have z1 := bx_alloc (.cells hap0 127) z
  have k1 : ((w1.alloc (.cells ctZ 42)).alloc (.cells hap0 127)).heap[w1.heap.size + 1]? = some (.cells hap0 127 (0, 0)) := by
    have := heap_alloc_new (w1.alloc (.cells ctZ 42)) (.cells hap0 127); rwa [heap_size_alloc] at this
  have h1 := (setRow_other ((w1.alloc (.cells ctZ 42)).alloc (.cells hap0 127)) w1.heap.size (w1.heap.size + 1) (ctA r.1 s) (by omega)).trans k1
  have c1 := setRow_heap _ w1.heap.size ctZ (ctA r.1 s) 42 (0, 0) z1
  exact ⟨z, z1, h1, (setRow_other _ (w1.heap.size + 1) w1.heap.size (hapA r.2 a n) (by omega)).trans c1, setRow_heap _ _ _ _ _ _ h1, below_setRow (below_setRow (bnew (bnew0 w1 _) _) (Nat.le_refl _) _) (by omega) _⟩

end Go.Proofs.YtajdbimdiodalaaGreat

namespace Go.Proofs.YtajdbimdiodalaaGreat
set_option linter.unusedVariables false

end Go.Proofs.YtajdbimdiodalaaGreat

namespace Go.Proofs.YtajdbimdiodalaaGreat
set_option linter.unusedVariables false

theorem ack_at {F : Fr} {j : Nat} (hj : j < 10) : (ackL F)[(putL (boL F)).length + j]? = some (!decide (j = 1)) := by
  unfold ackL
  by_cases h1 : j = 1
  · subst h1
    rw [List.getElem?_set_self (by rw [wiL_length]; omega)]; rfl
  · rw [List.getElem?_set_ne (by omega), wi_at hj, decide_eq_false h1]; rfl

end Go.Proofs.YtajdbimdiodalaaGreat

namespace Go.Proofs.YtajdbimdiodalaaGreat
set_option linter.unusedVariables false
def F1 : Fr := ⟨1, false, false, 0, []⟩
end Go.Proofs.YtajdbimdiodalaaGreat

namespace Go.Proofs.YtajdbimdiodalaaGreat
set_option linter.unusedVariables false

/-- Bits that come behind what was read change nothing of it. -/
theorem Reading.post {l : List Bool} {s : Tk} (m : List Bool) (h : Reading l l.length s) : Reading (l ++ m) l.length s := by
  have htt : (l ++ m).take l.length = l := List.take_left
  have htl : l.take l.length = l := List.take_length
  rcases h with h | h
  · left
    exact ⟨h.p, by rw [htt]; have := h.tk; rwa [htl] at this, by rw [htt]; have := h.ru; rwa [htl] at this, h.fi, h.le, h.no, by simp, h.ri⟩
  · right
    have ht2 : (l ++ m).take (bdN l) = putL (bdL l) := by rw [List.take_append_of_le_length h.lo, h.pu]
    have htk : tkL ((l ++ m).take (bdN l)) = (bdL l, -1) := by rw [ht2]; exact tkL_putL _
    have hm : (ruF false 0 ((l ++ m).take (bdN l))).2 ≠ 5 := fun e => by
      have := put_at htk
      rw [if_pos e, ht2] at this
      have := congrArg List.length this
      simp at this
    obtain ⟨e1, e2, _, e4⟩ := bd_found (by rw [List.length_append]; have := h.lo; omega) htk hm h.cm
    exact ⟨by rw [e1]; exact h.n0, by rw [e1]; exact h.lo, by rw [e1]; exact h.hi, by rw [e1]; exact h.p, by rw [e2]; exact h.li, by rw [e2]; exact h.fi, h.m, h.ri, h.ok, by rw [e1, e2]; exact e4, by rw [e2]; exact h.cm⟩

/-- One bit more. -/
theorem Reading.more {l : List Bool} {s : Tk} (x : Bool) (h : Reading l l.length s) (hs : (nxT s x).2 = 0 ∨ (nxT s x).2 = 4) : Reading (l ++ [x]) (l ++ [x]).length (nxT s x).1 := by
  have h1 := h.post [x]
  have hx : (l ++ [x])[l.length]? = some x := by simp
  have := (h1.step hx).2 hs
  rw [List.length_append]
  exact this

/-- A body is no longer than a head says. -/
theorem hdN_max (l : List Bool) : hdN l ≤ 118 := by
  unfold hdN
  have h1 := lonF_le (reF l).rem (reF l).dlc
  have h2 : heM l ≤ 39 := by unfold heM; split <;> omega
  omega

theorem Reading.short {l : List Bool} {s : Tk} (h : Reading l l.length s) : s.l.length ≤ 118 := by
  rcases h with h | h
  · cases hk : hdK s.l with
    | true => have := h.le hk; have := hdN_max s.l; omega
    | false =>
      by_cases h40 : s.l.length < 40
      · omega
      · have : hdK s.l = true := by unfold hdK; rw [decide_eq_true (by omega), decide_eq_true (by omega)]; simp
        rw [hk] at this; cases this
  · have hc := h.cm
    unfold cmpL at hc
    simp only [Bool.and_eq_true, decide_eq_true_eq] at hc
    rw [h.li, hc.2]
    exact hdN_max _

/-- A frame whose sum fits is right. -/
theorem fit_good {l : List Bool} (h : fitL l = true) : Good (paU l) := by
  unfold fitL at h
  simp only [Bool.and_eq_true, decide_eq_true_eq] at h
  have hp : paU l = ⟨(reF l).id, (reF l).ext, (reF l).rem, (reF l).dlc, paD l⟩ := by
    unfold paU; rw [h.1, h.2]; rfl
  rw [hp]
  refine ⟨?_, ?_, ?_⟩
  · show (reF l).id ≤ if (reF l).ext = true then 536870911 else 2047
    unfold reF
    split
    · have h1 := numL_take_lt (l.drop 1) 11
      have h2 := numL_take_lt (l.drop 14) 18
      simp only [if_true]
      omega
    · have h1 := numL_take_lt (l.drop 1) 11
      simp only [Bool.false_eq_true, if_false]
      omega
  · show (reF l).dlc ≤ 15
    unfold reF
    split
    · have h1 := numL_take_lt (l.drop 35) 4
      simp only; omega
    · have h1 := numL_take_lt (l.drop 15) 4
      simp only; omega
  · show (paD l).length = _
    exact paD_length l h.1

/-- What is taken is a right frame. -/
theorem took_good {l : List Bool} {s : Tk} {x : Bool} (h : Reading l l.length s) (hs : (nxT s x).2 = 4) : Good (paU (nxT s x).1.l) := by
  have h1 := h.more x (.inr hs)
  have hB : s.p = 9 := by
    unfold nxT at hs
    repeat' split at hs
    all_goals first | (simp at hs; done) | assumption | (cases x <;> simp at hs; done) | omega
  have hB2 := BeB.of h1
  have hr : BeB (l ++ [x]) (l ++ [x]).length (nxT s x).1 := by
    rcases h1 with h1 | h1
    · exfalso
      have hp := h1.p
      have : (nxT s x).1.p = 10 := by
        have hx : x = true := by
          cases x with
          | true => rfl
          | false => rw [nx_dom (by omega) (by omega) (by omega)] at hs; simp at hs
        subst hx
        rw [nx_on (by omega) (by omega) (by omega) (by omega)]
        show s.p + 1 = 10
        omega
      omega
    · exact h1
  have h4 : 4 ≤ (nxT s x).1.p := by
    have hx : x = true := by
      cases x with
      | true => rfl
      | false => rw [nx_dom (by omega) (by omega) (by omega)] at hs; simp at hs
    subst hx
    rw [nx_on (by omega) (by omega) (by omega) (by omega)]
    show 4 ≤ s.p + 1
    omega
  exact fit_good (hr.got h4).fit
end Go.Proofs.YtajdbimdiodalaaGreat

namespace Go.Proofs.YtajdbimdiodalaaGreat
set_option linter.unusedVariables false

end Go.Proofs.YtajdbimdiodalaaGreat

namespace Go.Proofs.YtajdbimdiodalaaGreat
set_option linter.unusedVariables false

end Go.Proofs.YtajdbimdiodalaaGreat

namespace Go.Proofs.YtajdbimdiodalaaGreat
set_option linter.unusedVariables false

end Go.Proofs.YtajdbimdiodalaaGreat

namespace Go.Proofs.YtajdbimdiodalaaGreat
open Go.RowKit Go.Sort
set_option linter.unusedVariables false

theorem P_top {F : Fr} (hg : Good F) : (putL (boL F)).length ≤ 150 := by
  have h1 := putL_len (boL F)
  have h2 := boL_length F
  have h3 : heN F.ext ≤ 39 := by unfold heN; split <;> omega
  have h4 : F.data.length ≤ 8 := by
    have := (riF_long ((good_iff F _ rfl).2 hg)).2.1; exact this
  omega

theorem tk_rd {F : Fr} (hg : Good F) {k : Nat} {s : Tk} (hk : k < (putL (boL F)).length + 10) (h : Rd (ackL F) (putL (boL F)).length k s) : TkOK s := by
  have hP := P_top hg
  refine ⟨h.ri, by have := h.len; omega, by have := h.p; omega, fun e => ?_⟩
  rcases h.on hk with hI | hB
  · have := hI.p; omega
  · exact ⟨hB.ok (by omega), hB.m⟩

theorem good_len {F : Fr} (hg : Good F) : F.data.length ≤ 8 := (riF_long ((good_iff F _ rfl).2 hg)).2.1

theorem ok_snd {F : Fr} (hg : Good F) {cf : Cf} (hm : moC cf ≤ 1) {k : Nat} {s : Tk} (h1 : 1 ≤ k) (hk : k < (putL (boL F)).length + 10) (h : Rd (ackL F) (putL (boL F)).length k s) (hl : 1 ≤ s.l.length) : StepOK (sndAt F cf s k) := by
  have hP := P_top hg
  have hwl := wiL_length F
  have hs := tk_rd hg hk h
  have hd := good_len hg
  refine ⟨by show (1 : Nat) < 10; omega, by show (0 : Nat) ≤ _; omega, fun _ => hm, fun _ => hg, by show F.data.length ≤ _; omega, by show (wiL F).length ≤ _; omega, by show s.l.length ≤ _; have := h.len; omega, fun _ => hs, fun _ _ => ⟨by show k < (wiL F).length; omega, by show (wiL F).length ≤ _; omega, fun e => ?_, hl⟩, fun e => absurd e (by show ¬ (1 : Nat) = 6; omega)⟩
  have e' : k + 9 = (wiL F).length := e
  show (wiL F)[k]?.getD false = true
  rw [show k = (putL (boL F)).length + 1 by omega, wi_at (by omega)]; rfl

theorem rd_len {F : Fr} (hg : Good F) {k : Nat} {s : Tk} (h1 : 1 ≤ k) (hk : k < (putL (boL F)).length + 10) (h : Rd (ackL F) (putL (boL F)).length k s) : 1 ≤ s.l.length := by
  have hP := P_pos F
  rcases h.on hk with hI | hB
  · have hp := put_at hI.tk
    have hkl := hI.kl
    by_cases h0 : s.l.length = 0
    · exfalso
      have e : s.l = [] := List.eq_nil_of_length_eq_zero h0
      rw [e] at hp
      have hl := congrArg List.length hp
      rw [show (putL ([] : List Bool)).length = 0 from rfl] at hl
      split at hl
      · rw [List.length_append, List.length_take] at hl; simp at hl
      · rw [List.length_take] at hl; omega
    · omega
  · rw [hB.li]
    obtain ⟨_, f2, _⟩ := wire_found hg (ack_take (F := F) false) (by rw [List.length_set, wiL_length]; omega)
    have e : bdL (ackL F) = boL F := f2
    rw [e, boL_length]; omega

end Go.Proofs.YtajdbimdiodalaaGreat

namespace Go.Proofs.YtajdbimdiodalaaGreat
open Go.RowKit Go.Sort
set_option linter.unusedVariables false

end Go.Proofs.YtajdbimdiodalaaGreat

namespace Go.Proofs.YtajdbimdiodalaaGreat
open Go.RowKit
set_option linter.unusedVariables false

end Go.Proofs.YtajdbimdiodalaaGreat

namespace Go.Proofs.YtajdbimdiodalaaGreat
set_option linter.unusedVariables false

/-- The body that was read is found in what was read so far. -/
theorem Reading.pre {l : List Bool} {k : Nat} {s : Tk} (hk : k ≤ l.length) (h : Reading l k s) : Reading (l.take k) k s := by
  have hlk : (l.take k).length = k := by rw [List.length_take]; omega
  have htt : (l.take k).take k = l.take k := by rw [List.take_take, Nat.min_self]
  rcases h with h | h
  · left
    exact ⟨h.p, by rw [htt]; exact h.tk, by rw [htt]; exact h.ru, h.fi, h.le, h.no, by omega, h.ri⟩
  · right
    have ht2 : (l.take k).take (bdN l) = putL (bdL l) := by rw [List.take_take, Nat.min_eq_left h.lo, h.pu]
    have htk : tkL ((l.take k).take (bdN l)) = (bdL l, -1) := by rw [ht2]; exact tkL_putL _
    have hm : (ruF false 0 ((l.take k).take (bdN l))).2 ≠ 5 := fun e => by
      have := put_at htk
      rw [if_pos e, ht2] at this
      have := congrArg List.length this
      simp at this
    obtain ⟨e1, e2, _, e4⟩ := bd_found (by rw [hlk]; exact h.lo) htk hm h.cm
    exact ⟨by rw [e1]; exact h.n0, by rw [e1]; exact h.lo, by rw [e1]; exact h.hi, by rw [e1]; exact h.p, by rw [e2]; exact h.li, by rw [e2]; exact h.fi, h.m, h.ri, h.ok, by rw [e1, e2]; exact e4, by rw [e2]; exact h.cm⟩

def rfN (l : List Bool) : Bool := decide (bdN l = 0) || decide (l.length < bdN l)
def rfF (l : List Bool) : Fr := if rfN l then zeroFr else paU (bdL l)
def rfK (l : List Bool) : Bool := !rfN l && fitL (bdL l)

theorem Reading.frame {l : List Bool} {s : Tk} (h : Reading l l.length s) : frF s.m s.l s.p s.fi = rfF l ∧ frK s.m s.l s.p s.fi = rfK l := by
  unfold frF frK rfF rfK
  rcases h with h | h
  · have e1 : frN s.m s.p s.fi = true := by unfold frN; rw [h.p]; rfl
    have e2 : rfN l = true := by
      unfold rfN
      rcases h.early with e | e
      · simp [e]
      · rw [decide_eq_true e]; simp
    rw [e1, e2]; exact ⟨rfl, rfl⟩
  · have e2 : rfN l = false := by
      unfold rfN; rw [decide_eq_false h.n0, decide_eq_false (by have := h.lo; omega)]; rfl
    have e1 : frN s.m s.p s.fi = !s.fi := by
      unfold frN
      rw [decide_eq_false (by have := h.p; omega), decide_eq_false h.m]; simp
    rw [e1, e2, h.li, h.fi]
    cases hf : fitL (bdL l)
    · refine ⟨?_, rfl⟩
      simp only [Bool.not_false, if_true, Bool.false_eq_true, if_false]
      unfold paU
      unfold fitL at hf
      rw [hf]; rfl
    · exact ⟨rfl, rfl⟩
end Go.Proofs.YtajdbimdiodalaaGreat

namespace Go.Proofs.YtajdbimdiodalaaGreat
set_option linter.unusedVariables false

/-- A controller as it may be, whatever bits came. -/
structure OnC (c : Ct) : Prop where
  ri : riC c.cf = true
  off : c.cf.o = true ↔ c.ph = 9
  le : c.ph ≤ 9
  gv : c.has = true → Good c.give
  snd : c.sends = true → c.ph = 1 ∧ c.has = true ∧ c.wire = wiL c.give ∧ 1 ≤ c.pos ∧ c.pos < (putL (boL c.give)).length + 10 ∧ Rd (ackL c.give) (putL (boL c.give)).length c.pos c.tk
  rd : c.ph = 1 → ∃ l, Reading l l.length c.tk

/-- What a bit may do. -/
structure StOK (c : Ct) (r : Ct × Hp) : Prop where
  on : OnC r.1
  sent : r.2.1 = 1 → c.has = true ∧ r.2.2 = c.give ∧ r.1.has = false
  keep : r.2.1 ≠ 1 → r.1.has = c.has ∧ r.1.give = c.give
  took : r.2.1 = 2 → Good r.2.2 ∧ r.1.sends = false

theorem OnC.start : OnC c0 := ⟨by decide, by simp [c0, zeC], by simp [c0], by simp [c0], by simp [c0], by simp [c0]⟩

/-- A phase that begins, of one that is on. -/
theorem on_new {c : Ct} (hr : riC c.cf = true) (ho : c.cf.o = false) (hg : c.has = true → Good c.give) {ph : Nat} (h1 : ph ≠ 1) (h9 : ph ≠ 9) (hle : ph ≤ 9) : OnC (newC c ph) :=
  ⟨hr, ⟨fun h => (by have : c.cf.o = true := h; rw [ho] at this; cases this), fun h => absurd h h9⟩, hle, hg, fun h => (by cases h), fun h => absurd h h1⟩

theorem on_ph {c : Ct} (n : Nat) (e o rl : Bool) {ph : Nat} (h : OnC (newC c ph)) (h1 : ph ≠ 1) : OnC { newC c ph with n := n, err := e, owed := o, rl := rl } :=
  ⟨h.ri, h.off, h.le, h.gv, fun hs => (by cases hs), fun hp => absurd hp h1⟩

theorem sk_off {c : Ct} (c1 : Ct) (hr : riC c1.cf = true) (ho : c1.cf.o = true) (hg : c.has = true → Good c.give) (h1 : c1.has = c.has) (h2 : c1.give = c.give) : StOK c (offC c1) :=
  ⟨⟨hr, ⟨fun _ => rfl, fun _ => ho⟩, Nat.le_refl _, fun h => by show Good c1.give; rw [h2]; exact hg (by rw [← h1]; exact h), fun h => (by cases h), fun h => (by cases h)⟩, fun h => (by cases h), fun _ => ⟨h1, h2⟩, fun h => (by cases h)⟩

theorem sk_flag {c : Ct} (c1 : Ct) (hr : riC c1.cf = true) (hon : c1.cf.o = false) (hg : c.has = true → Good c.give) (h1 : c1.has = c.has) (h2 : c1.give = c.give) (w k : Nat) (o : Bool) (hw : w ≠ 1) (hw2 : w ≠ 2) : StOK c (flagC c1 w k o) := by
  have hgc : ∀ d : Ct, d.has = c1.has → d.give = c1.give → (d.has = true → Good d.give) := fun d e1 e2 h => by rw [e2, h2]; exact hg (by rw [← h1, ← e1]; exact h)
  have hcr : riC (cntC c1 k).cf = true := by
    unfold cntC; split
    · exact hr
    · exact ri_ev hr k
  have hch : (cntC c1 k).has = c1.has ∧ (cntC c1 k).give = c1.give := by unfold cntC; split <;> exact ⟨rfl, rfl⟩
  unfold flagC
  split
  · rename_i hm
    exact sk_off _ hcr ((mo_of_right hcr).1 hm) hg (hch.1.trans h1) (hch.2.trans h2)
  · rename_i hm
    have hoff : (cntC c1 k).cf.o = false := by
      cases e : (cntC c1 k).cf.o with
      | false => rfl
      | true => exact absurd ((mo_of_right hcr).2 e) hm
    have hph : ∀ ph, ph ≠ 1 → ph ≠ 9 → ph ≤ 9 → StOK c ({ newC (cntC c1 k) ph with err := true, owed := o }, (w, zeroFr)) := fun ph a1 a2 a3 =>
      ⟨on_ph 0 true o false (on_new hcr hoff (hgc _ hch.1 hch.2) a1 a2 a3) a1, fun h => absurd h hw, fun _ => ⟨hch.1.trans h1, hch.2.trans h2⟩, fun h => absurd h hw2⟩
    split
    · exact hph 3 (by omega) (by omega) (by omega)
    · exact hph 2 (by omega) (by omega) (by omega)

theorem sk_new {c : Ct} (c1 : Ct) (hr : riC c1.cf = true) (hon : c1.cf.o = false) (hg : c.has = true → Good c.give) (h1 : c1.has = c.has) (h2 : c1.give = c.give) {ph : Nat} (a1 : ph ≠ 1) (a2 : ph ≠ 9) (a3 : ph ≤ 9) (n w : Nat) (e : Bool) (hw : w ≠ 1) (hw2 : w ≠ 2) :
    StOK c ({ newC c1 ph with n := n, err := e }, (w, zeroFr)) :=
  ⟨on_ph n e false false (on_new hr hon (fun h => by rw [h2]; exact hg (by rw [← h1]; exact h)) a1 a2 a3) a1, fun h => absurd h hw, fun _ => ⟨h1, h2⟩, fun h => absurd h hw2⟩

/-- A frame that begins. -/
theorem sk_beg {c : Ct} (h : OnC c) (hon : c.cf.o = false) (s : Bool) (hs : s = true → c.has = true) : StOK c (begC c s, noH) := by
  refine ⟨⟨h.ri, ⟨fun e => (by have : c.cf.o = true := e; rw [hon] at this; cases this), fun e => (by cases e)⟩, by show 1 ≤ 9; omega, h.gv, fun e => ?_, fun _ => ?_⟩, fun e => (by cases e), fun _ => ⟨rfl, rfl⟩, fun e => (by cases e)⟩
  · have hs1 : s = true := e
    subst hs1
    have hh := hs rfl
    have hP := P_pos c.give
    exact ⟨rfl, hh, rfl, Nat.le_refl _, by show 1 < _; omega, rd_one (h.gv hh)⟩
  · refine ⟨[false], ?_⟩
    have := (Reading.start []).more false (.inl (by rfl))
    exact this

theorem on_off {c : Ct} (h : OnC c) (hp : c.ph ≠ 9) : c.cf.o = false := by
  cases e : c.cf.o with
  | false => rfl
  | true => exact absurd (h.off.1 e) hp

theorem sk_rcv {c : Ct} (h : OnC c) (hp : c.ph = 1) (hs : c.sends = false) (x : Bool) : StOK c (rcvC c x) := by
  have hon := on_off h (by omega)
  obtain ⟨l, hl⟩ := h.rd hp
  have hfail : ∀ w, w ≠ 1 → w ≠ 2 → StOK c (failC { c with tk := (nxT c.tk x).1 } w) := fun w a b => sk_flag { c with tk := (nxT c.tk x).1 } h.ri hon h.gv rfl rfl w _ false a b
  unfold rcvC
  split
  · rename_i h0
    split
    · exact hfail 4 (by omega) (by omega)
    · exact ⟨⟨h.ri, h.off, h.le, h.gv, fun e => (by have : c.sends = true := e; rw [hs] at this; cases this), fun _ => ⟨_, hl.more x (.inl h0)⟩⟩, fun e => (by cases e), fun _ => ⟨rfl, rfl⟩, fun e => (by cases e)⟩
  · split
    · exact hfail 5 (by omega) (by omega)
    · split
      · exact hfail 6 (by omega) (by omega)
      · split
        · exact hfail 8 (by omega) (by omega)
        · split
          · rename_i h4
            have hr9 := ri_ev h.ri 9
            have ho9 : (evC c.cf 9).o = c.cf.o := by
              unfold evC
              split
              · rfl
              · split
                · rfl
                · obtain ⟨a1, a2, a3, a4, _⟩ := ri_on h.ri hon
                  show decide (teA c.cf.t 9 > 255) = _
                  rw [te_rec (by omega), hon]
                  exact decide_eq_false (by omega)
            refine ⟨⟨hr9, ⟨fun e => ?_, fun e => ?_⟩, h.le, h.gv, fun e => (by have : c.sends = true := e; rw [hs] at this; cases this), fun _ => ⟨_, hl.more x (.inr h4)⟩⟩, fun e => (by cases e), fun _ => ⟨rfl, rfl⟩, fun _ => ⟨took_good hl h4, hs⟩⟩
            · have : (evC c.cf 9).o = true := e
              rw [ho9, hon] at this; cases this
            · have : c.ph = 9 := e
              omega
          · split
            · exact sk_new c h.ri hon h.gv rfl rfl (by omega) (by omega) (by omega) 0 9 false (by omega) (by omega)
            · exact sk_new c h.ri hon h.gv rfl rfl (by omega) (by omega) (by omega) 0 0 c.err (by omega) (by omega)

theorem sk_snd {c : Ct} (h : OnC c) (hs : c.sends = true) (x : Bool) : StOK c (sndC c x) := by
  obtain ⟨hp, hh, hw, h1, h2, h3⟩ := h.snd hs
  have hg := h.gv hh
  have hon := on_off h (by omega)
  have hwl := wiL_length c.give
  have hP := P_pos c.give
  have hfail : ∀ w, w ≠ 1 → w ≠ 2 → StOK c (failC c w) := fun w a b => sk_flag c h.ri hon h.gv rfl rfl w _ false a b
  have hgo : ∀ y, (ackL c.give)[c.pos]? = some y → y = x → c.pos + 1 < (putL (boL c.give)).length + 10 → StOK c ({ c with tk := (nxT c.tk x).1, pos := c.pos + 1 }, noH) := fun y hy hyx hlt => by
    subst hyx
    obtain ⟨e1, e2, _⟩ := whole_step hg h2 h3 hy
    obtain ⟨l, hl⟩ := h.rd hp
    refine ⟨⟨h.ri, h.off, h.le, h.gv, fun _ => ⟨hp, hh, hw, by show 1 ≤ c.pos + 1; omega, hlt, e2⟩, fun _ => ⟨(ackL c.give).take (c.pos + 1), ?_⟩⟩, fun e => (by cases e), fun _ => ⟨rfl, rfl⟩, fun e => (by cases e)⟩
    have hlen : c.pos + 1 ≤ (ackL c.give).length := by unfold ackL; rw [List.length_set, hwl]; omega
    have := Reading.pre (l := ackL c.give) hlen (e2.on hlt)
    rw [show ((ackL c.give).take (c.pos + 1)).length = c.pos + 1 by rw [List.length_take]; omega]
    exact this
  have hwlen : c.wire.length = (putL (boL c.give)).length + 10 := by rw [hw]; exact hwl
  unfold sndC
  rw [hwlen]
  split
  · rename_i h9
    split
    · rename_i hx
      have hpos : c.pos = (putL (boL c.give)).length + 1 := by omega
      exact hgo false (by rw [hpos, ack_at (by omega)]; rfl) hx.symm (by omega)
    · split
      · exact sk_flag c h.ri hon h.gv rfl rfl 7 0 true (by omega) (by omega)
      · exact hfail 7 (by omega) (by omega)
  · rename_i h9
    split
    · rename_i hx
      split
      · rename_i hlt
        rw [hw] at hx
        refine hgo x ?_ rfl hlt
        unfold ackL
        rw [List.getElem?_set_ne (by omega)]
        obtain ⟨z, hz⟩ : ∃ z, (wiL c.give)[c.pos]? = some z := ⟨(wiL c.give)[c.pos]'(by rw [hwl]; exact h2), by simp⟩
        rw [hz] at hx ⊢
        simp at hx
        rw [hx]
      · have hr8 := ri_ev h.ri 8
        have ho8 : (evC c.cf 8).o = false := by
          obtain ⟨a1, a2, a3, a4, _⟩ := ri_on h.ri hon
          unfold evC
          split
          · exact hon
          · split
            · exact hon
            · show decide (teA c.cf.t 8 > 255) = false
              unfold teA
              rw [if_neg (by omega), if_pos rfl]
              exact decide_eq_false (by omega)
        exact ⟨⟨hr8, ⟨fun e => (by have : (evC c.cf 8).o = true := e; rw [ho8] at this; cases this), fun e => (by cases e)⟩, by show 7 ≤ 9; omega, fun e => (by cases e), fun e => (by cases e), fun e => (by cases e)⟩, fun _ => ⟨hh, rfl, rfl⟩, fun e => absurd rfl e, fun e => (by cases e)⟩
    · rename_i hx
      by_cases har : x = true ∨ c.tk.l.length < 1 ∨ (if c.give.ext = true then 32 else 12) < c.tk.l.length
      · rw [if_pos har]
        exact hfail 4 (by omega) (by omega)
      · rw [if_neg har]
        split
        · exact sk_flag c h.ri hon h.gv rfl rfl 5 0 false (by omega) (by omega)
        · rename_i hm
          have hxf : x = false := by
            cases x with
            | false => rfl
            | true => exact absurd (.inl rfl) har
          subst hxf
          -- behind arbitration's bit a plain one was read: it goes on reading
          have hplain : ∃ l, Reading l l.length c.tk ∧ c.tk.p = 0 := by
            have hlen : c.pos ≤ (ackL c.give).length := by unfold ackL; rw [List.length_set, hwl]; omega
            have hR := h3.on h2
            refine ⟨(ackL c.give).take c.pos, ?_, ?_⟩
            · rw [show ((ackL c.give).take c.pos).length = c.pos by rw [List.length_take]; omega]
              exact hR.pre hlen
            · rcases hR with hI | hB
              · exact hI.p
              · exfalso
                apply har
                right; right
                rw [hB.li]
                obtain ⟨_, f2, _⟩ := wire_found hg (ack_take (F := c.give) false) (by rw [List.length_set, hwl]; omega)
                have e : bdL (ackL c.give) = boL c.give := f2
                rw [e, boL_length]
                have : 19 ≤ heN c.give.ext ∧ (c.give.ext = true → heN c.give.ext = 39) := by unfold heN; split <;> simp_all
                split
                · rename_i hx; have := this.2 hx; omega
                · omega
          obtain ⟨l, hl, hp0⟩ := hplain
          have hsaid : (nxT c.tk false).2 = 0 := by
            unfold nxT
            rw [if_pos hp0]
            have := nxt_plain (b := c.tk.b) (x := false) hm
            rw [this]; rfl
          exact ⟨⟨h.ri, h.off, h.le, h.gv, fun e => (by cases e), fun _ => ⟨_, hl.more false (.inl hsaid)⟩⟩, fun e => (by cases e), fun _ => ⟨rfl, rfl⟩, fun e => (by cases e)⟩
end Go.Proofs.YtajdbimdiodalaaGreat

namespace Go.Proofs.YtajdbimdiodalaaGreat
set_option linter.unusedVariables false

theorem no_snd {c : Ct} (h : OnC c) (hp : c.ph ≠ 1) : c.sends = false := by
  cases e : c.sends with
  | false => rfl
  | true => exact absurd (h.snd e).1 hp

/-- The same phase goes on. -/
theorem sk_mk {c : Ct} (d : Ct) (h : OnC c) (hp : c.ph ≠ 1) (e1 : d.ph = c.ph) (e2 : d.has = c.has) (e3 : d.give = c.give) (e4 : d.sends = c.sends) (hr : riC d.cf = true) (ho : d.cf.o = c.cf.o) (w : Nat) (hw : w ≠ 1) (hw2 : w ≠ 2) : StOK c (d, (w, zeroFr)) :=
  ⟨⟨hr, by rw [ho, e1]; exact h.off, by rw [e1]; exact h.le, fun e => by rw [e3]; exact h.gv (by rw [← e2]; exact e), fun e => (by rw [e4, no_snd h hp] at e; cases e), fun e => absurd (e1.symm.trans e) hp⟩, fun e => absurd e hw, fun _ => ⟨e2, e3⟩, fun e => absurd e hw2⟩

theorem ev_on' {c : Cf} (hr : riC c = true) {k : Nat} (hm : ¬ moC (evC c k) = 2) : (evC c k).o = false := by
  cases e : (evC c k).o with
  | false => rfl
  | true => exact absurd ((mo_of_right (ri_ev hr k)).2 e) hm

theorem sk_idle {c : Ct} (h : OnC c) (hp : c.ph = 0) (x : Bool) : StOK c (idleC c x) := by
  have hon := on_off h (by omega)
  unfold idleC
  split
  · split
    · exact sk_flag { c with sender := true } h.ri hon h.gv rfl rfl 4 _ false (by omega) (by omega)
    · exact sk_mk c h (by omega) rfl rfl rfl rfl h.ri rfl 0 (by omega) (by omega)
  · exact sk_beg h hon c.has (fun e => e)

theorem sk_six {c : Ct} (h : OnC c) (hp : c.ph = 2 ∨ c.ph = 4) (x : Bool) : StOK c (sixC c x) := by
  have hon := on_off h (by omega)
  unfold sixC
  obtain ⟨k, hk⟩ : ∃ k, k = if c.sender = true then 6 else 3 := ⟨_, rfl⟩
  rw [← hk]
  have hr := ri_ev h.ri k
  split
  · rename_i hx
    exact sk_off { c with cf := evC c.cf k } hr ((mo_of_right hr).1 hx.2) h.gv rfl rfl
  · rename_i hx
    cases x with
    | true =>
      have ho := ev_on' h.ri (k := k) (fun e => hx ⟨rfl, e⟩)
      dsimp only
      simp only [if_true]
      split
      · exact sk_new { c with cf := evC c.cf k } hr ho h.gv rfl rfl (ph := 5) (by omega) (by omega) (by omega) 0 4 c.err (by omega) (by omega)
      · exact sk_mk { c with cf := evC c.cf k, n := c.n + 1 } h (by omega) rfl rfl rfl rfl hr (by rw [hon]; exact ho) 4 (by omega) (by omega)
    | false =>
      dsimp only
      simp only [Bool.false_eq_true, if_false]
      split
      · exact sk_new c h.ri hon h.gv rfl rfl (ph := 5) (by omega) (by omega) (by omega) 0 0 c.err (by omega) (by omega)
      · exact sk_mk { c with n := c.n + 1 } h (by omega) rfl rfl rfl rfl h.ri rfl 0 (by omega) (by omega)

theorem sk_weak {c : Ct} (h : OnC c) (hp : c.ph = 3) (x : Bool) : StOK c (weakC c x) := by
  have hon := on_off h (by omega)
  have hr := ri_ev h.ri 5
  unfold weakC
  split
  · rename_i hx
    exact sk_off { c with owed := false, cf := evC c.cf 5 } hr ((mo_of_right hr).1 hx.2.2) h.gv rfl rfl
  · rename_i hx
    dsimp only
    obtain ⟨m, hm⟩ : ∃ m, m = if 0 < c.n ∧ c.rl = x then c.n + 1 else 1 := ⟨_, rfl⟩
    rw [← hm]
    cases ho : (c.owed && !x)
    · simp only [Bool.false_eq_true, if_false]
      split
      · exact sk_new c h.ri hon h.gv rfl rfl (ph := 5) (by omega) (by omega) (by omega) 0 0 c.err (by omega) (by omega)
      · exact sk_mk { c with n := m, rl := x } h (by omega) rfl rfl rfl rfl h.ri rfl 0 (by omega) (by omega)
    · simp only [Bool.and_eq_true, Bool.not_eq_true'] at ho
      have hof := ev_on' h.ri (k := 5) (fun e => hx ⟨ho.1, ho.2, e⟩)
      simp only [if_true]
      split
      · exact sk_new { c with owed := false, cf := evC c.cf 5 } hr hof h.gv rfl rfl (ph := 5) (by omega) (by omega) (by omega) 0 0 c.err (by omega) (by omega)
      · exact sk_mk { c with owed := false, cf := evC c.cf 5, n := m, rl := x } h (by omega) rfl rfl rfl rfl hr (by rw [hon]; exact hof) 0 (by omega) (by omega)

theorem sk_wait {c : Ct} (h : OnC c) (hp : c.ph = 5) (x : Bool) : StOK c (waitC c x) := by
  have hon := on_off h (by omega)
  unfold waitC
  split
  · exact sk_new c h.ri hon h.gv rfl rfl (ph := 6) (by omega) (by omega) (by omega) 1 0 c.err (by omega) (by omega)
  · have hr := ri_ev h.ri (waitE c)
    by_cases h0 : waitE c = 0
    · rw [if_neg (fun e => e.2 h0)]
      have : cntC c (waitE c) = c := by unfold cntC; rw [if_pos h0]
      rw [this]
      exact sk_mk { c with n := c.n + 1 } h (by omega) rfl rfl rfl rfl h.ri rfl 0 (by omega) (by omega)
    · have hc : cntC c (waitE c) = { c with cf := evC c.cf (waitE c) } := by unfold cntC; rw [if_neg h0]
      rw [hc]
      split
      · rename_i hx
        exact sk_off { c with cf := evC c.cf (waitE c) } hr ((mo_of_right hr).1 hx.1) h.gv rfl rfl
      · rename_i hx
        have hof := ev_on' h.ri (k := waitE c) (fun e => hx ⟨e, h0⟩)
        exact sk_mk { c with cf := evC c.cf (waitE c), n := c.n + 1 } h (by omega) rfl rfl rfl rfl hr (by rw [hon]; exact hof) 0 (by omega) (by omega)

theorem sk_delim {c : Ct} (h : OnC c) (hp : c.ph = 6) (x : Bool) : StOK c (delimC c x) := by
  have hon := on_off h (by omega)
  unfold delimC
  split
  · split
    · exact sk_new c h.ri hon h.gv rfl rfl (ph := 7) (by omega) (by omega) (by omega) 0 0 c.err (by omega) (by omega)
    · exact sk_mk { c with n := c.n + 1 } h (by omega) rfl rfl rfl rfl h.ri rfl 0 (by omega) (by omega)
  · split
    · exact sk_flag c h.ri hon h.gv rfl rfl 6 _ false (by omega) (by omega)
    · exact sk_new c h.ri hon h.gv rfl rfl (ph := 4) (by omega) (by omega) (by omega) 0 9 false (by omega) (by omega)

theorem sk_inter {c : Ct} (h : OnC c) (hp : c.ph = 7) (x : Bool) : StOK c (interC c x) := by
  have hon := on_off h (by omega)
  unfold interC
  split
  · split
    · cases holdC c
      · exact sk_new c h.ri hon h.gv rfl rfl (ph := 0) (by omega) (by omega) (by omega) 0 0 c.err (by omega) (by omega)
      · exact sk_new c h.ri hon h.gv rfl rfl (ph := 8) (by omega) (by omega) (by omega) 0 0 c.err (by omega) (by omega)
    · exact sk_mk { c with n := c.n + 1 } h (by omega) rfl rfl rfl rfl h.ri rfl 0 (by omega) (by omega)
  · split
    · exact sk_new c h.ri hon h.gv rfl rfl (ph := 4) (by omega) (by omega) (by omega) 0 9 false (by omega) (by omega)
    · exact sk_beg h hon _ (fun e => by simp only [Bool.and_eq_true] at e; exact e.1)

theorem sk_hold {c : Ct} (h : OnC c) (hp : c.ph = 8) (x : Bool) : StOK c (hold8C c x) := by
  have hon := on_off h (by omega)
  unfold hold8C
  split
  · split
    · exact sk_new c h.ri hon h.gv rfl rfl (ph := 0) (by omega) (by omega) (by omega) 0 0 c.err (by omega) (by omega)
    · exact sk_mk { c with n := c.n + 1 } h (by omega) rfl rfl rfl rfl h.ri rfl 0 (by omega) (by omega)
  · exact sk_beg h hon false (fun e => by cases e)

theorem sk_offs {c : Ct} (h : OnC c) (hp : c.ph = 9) (x : Bool) : StOK c (offsC c x) := by
  have ho := h.off.2 hp
  have hr := ri_bit h.ri x
  unfold offsC
  split
  · rename_i hm
    exact sk_mk { c with cf := biC c.cf x } h (by omega) rfl rfl rfl rfl hr (by rw [ho]; exact (mo_of_right hr).1 hm) 0 (by omega) (by omega)
  · rename_i hm
    have hof : (biC c.cf x).o = false := by
      cases e : (biC c.cf x).o with
      | false => rfl
      | true => exact absurd ((mo_of_right hr).2 e) hm
    exact sk_new { c with cf := biC c.cf x } hr hof h.gv rfl rfl (ph := 0) (by omega) (by omega) (by omega) 0 11 c.err (by omega) (by omega)

/-- Whatever bit comes. -/
theorem on_step {c : Ct} (h : OnC c) (x : Bool) : StOK c (stC c x) := by
  have hle := h.le
  unfold stC
  split
  · rename_i hp; exact sk_idle h hp x
  · split
    · rename_i hp
      split
      · rename_i hs; exact sk_snd h hs x
      · rename_i hs; exact sk_rcv h hp (by simpa using hs) x
    · split
      · rename_i hp; exact sk_six h hp x
      · split
        · rename_i hp; exact sk_weak h hp x
        · split
          · rename_i hp; exact sk_wait h hp x
          · split
            · rename_i hp; exact sk_delim h hp x
            · split
              · rename_i hp; exact sk_inter h hp x
              · split
                · rename_i hp; exact sk_hold h hp x
                · exact sk_offs h (by omega) x

/-- A frame that is given, and one that is taken back. -/
theorem on_give {c : Ct} (h : OnC c) {F : Fr} (hg : Good F) (hn : c.has = false) : OnC { c with has := true, give := F } :=
  ⟨h.ri, h.off, h.le, fun _ => hg, fun e => (by have := (h.snd e).2.1; rw [hn] at this; cases this), h.rd⟩

theorem on_drop {c : Ct} (h : OnC c) (hs : c.sends = false) : OnC { c with has := false, give := zeroFr } :=
  ⟨h.ri, h.off, h.le, fun e => (by cases e), fun e => (by have : c.sends = true := e; rw [hs] at this; cases this), h.rd⟩
end Go.Proofs.YtajdbimdiodalaaGreat

namespace Go.Proofs.YtajdbimdiodalaaGreat
open Go.RowKit Go.Sort
set_option linter.unusedVariables false
set_option linter.unusedSectionVars false

end Go.Proofs.YtajdbimdiodalaaGreat

namespace Go.Proofs.YtajdbimdiodalaaGreat
set_option linter.unusedVariables false
set_option linter.unusedSectionVars false

end Go.Proofs.YtajdbimdiodalaaGreat

namespace Go.Proofs.YtajdbimdiodalaaGreat
set_option linter.unusedVariables false

end Go.Proofs.YtajdbimdiodalaaGreat

namespace Go.Proofs.YtajdbimdiodalaaGreat
set_option linter.unusedVariables false

end Go.Proofs.YtajdbimdiodalaaGreat

namespace Go.Proofs.YtajdbimdiodalaaGreat
set_option linter.unusedVariables false
set_option linter.unusedSectionVars false

/-- What stands in a controller beside what OnC says, behind m bits. -/
structure SmC (m : Nat) (c : Ct) : Prop where
  n : c.n ≤ m
  six : c.ph = 6 → c.n < 8
  gz : c.has = false → c.give = zeroFr
  wl : c.wire.length ≤ 200
  tz : c.ph ≠ 1 → c.tk.l = []
  tl : c.tk.l.length ≤ 1000

theorem mo_le (c : Cf) : moC c ≤ 2 := by
  unfold moC
  split
  · exact Nat.le_refl _
  · split <;> omega

theorem sm_start : SmC 0 c0 := ⟨Nat.le_refl _, fun e => (by cases e), fun _ => rfl, by simp [c0], fun _ => rfl, by simp [c0, s0]⟩

theorem SmC.mono {m m' : Nat} {c : Ct} (h : SmC m c) (hm : m ≤ m') : SmC m' c := ⟨by have := h.n; omega, h.six, h.gz, h.wl, h.tz, h.tl⟩

/-- A phase that begins. -/
theorem sm_new {m : Nat} {c : Ct} (hg : c.has = false → c.give = zeroFr) {ph n : Nat} (hn : n ≤ 1) (hm : 1 ≤ m) (h1 : ph ≠ 1) (e o rl b : Bool) : SmC m { newC c ph with n := n, err := e, owed := o, rl := rl, sender := b } :=
  ⟨by show n ≤ m; omega, fun _ => by show n < 8; omega, hg, by show ([] : List Bool).length ≤ 200; simp, fun _ => rfl, by show ([] : List Bool).length ≤ 1000; simp⟩

section
variable {m : Nat} {c : Ct} (h : OnC c) (k : SmC m c)
include h k

theorem sm_flag {c1 : Ct} (e1 : c1.has = c.has) (e2 : c1.give = c.give) (w q : Nat) (o : Bool) : SmC (m + 1) (flagC c1 w q o).1 := by
  have g1 : (cntC c1 q).has = false → (cntC c1 q).give = zeroFr := by
    have a1 : (cntC c1 q).has = c.has := by unfold cntC; split <;> exact e1
    have a2 : (cntC c1 q).give = c.give := by unfold cntC; split <;> exact e2
    rw [a1, a2]; exact k.gz
  unfold flagC
  split
  · exact sm_new (c := cntC c1 q) g1 (ph := 9) (n := 0) (by omega) (by omega) (by omega) (cntC c1 q).err false false false
  · split
    · exact sm_new (c := cntC c1 q) g1 (ph := 3) (n := 0) (by omega) (by omega) (by omega) true o false (cntC c1 q).sender
    · exact sm_new (c := cntC c1 q) g1 (ph := 2) (n := 0) (by omega) (by omega) (by omega) true o false (cntC c1 q).sender

theorem sm_fresh {c1 : Ct} (e1 : c1.has = c.has) (e2 : c1.give = c.give) {ph n : Nat} (h1 : ph ≠ 1) (hn : n ≤ 1) (e b : Bool) : SmC (m + 1) { newC c1 ph with n := n, err := e, sender := b } :=
  sm_new (c := c1) (by rw [e1, e2]; exact k.gz) hn (by omega) h1 e false false b

theorem sm_off {c1 : Ct} (e1 : c1.has = c.has) (e2 : c1.give = c.give) : SmC (m + 1) (offC c1).1 := sm_fresh h k e1 e2 (ph := 9) (n := 0) (by omega) (by omega) c1.err false
theorem sm_plain {c1 : Ct} (e1 : c1.has = c.has) (e2 : c1.give = c.give) {ph : Nat} (h1 : ph ≠ 1) : SmC (m + 1) (newC c1 ph) := sm_fresh h k e1 e2 (ph := ph) (n := 0) h1 (by omega) c1.err c1.sender

theorem sm_beg (s : Bool) (hs : s = true → c.has = true) : SmC (m + 1) (begC c s) := by
  refine ⟨by show 0 ≤ _; omega, fun e => (by cases e), k.gz, ?_, fun e => absurd rfl e, by show (nxT s0 false).1.l.length ≤ 1000; decide⟩
  show (if s = true then wiL c.give else []).length ≤ 200
  cases s with
  | false => simp
  | true =>
    rw [if_pos rfl, wiL_length]
    have := P_top (h.gv (hs rfl))
    omega

/-- Whatever bit comes. -/
theorem sm_step (x : Bool) : SmC (m + 1) (stC c x).1 := by
  have hon := (on_step h x).on
  have htl : (stC c x).1.ph = 1 → (stC c x).1.tk.l.length ≤ 1000 := fun e => by
    obtain ⟨l, hl⟩ := hon.rd e
    have := hl.short; omega
  have keep : ∀ (c1 : Ct), c1.ph = c.ph → c1.n ≤ c.n + 1 → (c.ph = 6 → c1.n < 8) → c1.has = c.has → c1.give = c.give → c1.wire = c.wire → c1.tk = c.tk → SmC (m + 1) c1 := fun c1 a1 a2 a3 a4 a5 a6 a7 =>
    ⟨by have := k.n; omega, fun e => a3 (by rw [← a1]; exact e), by rw [a4, a5]; exact k.gz, by rw [a6]; exact k.wl, by rw [a1, a7]; exact k.tz, by rw [a7]; exact k.tl⟩
  revert htl
  unfold stC
  split
  · intro _
    unfold idleC
    split
    · split
      · exact sm_flag h k (c1 := { c with sender := true }) rfl rfl 4 5 false
      · exact k.mono (by omega)
    · exact sm_beg h k c.has (fun e => e)
  rename_i n0
  split
  · rename_i n1
    split
    · rename_i hs
      obtain ⟨_, hhas, hw, _⟩ := h.snd hs
      unfold sndC
      split
      · split
        · intro htl
          exact ⟨by have := k.n; show c.n ≤ _; omega, fun e => by have : c.ph = 6 := e; omega, k.gz, k.wl, fun e => absurd n1 e, htl n1⟩
        · intro _
          split
          · exact sm_flag h k rfl rfl 7 0 true
          · exact sm_flag h k rfl rfl 7 _ false
      · split
        · split
          · intro htl
            exact ⟨by have := k.n; show c.n ≤ _; omega, fun e => by have : c.ph = 6 := e; omega, k.gz, k.wl, fun e => absurd n1 e, htl n1⟩
          · intro _
            exact sm_new (c := { c with cf := evC c.cf 8, has := false, give := zeroFr }) (fun _ => rfl) (ph := 7) (n := 0) (by omega) (by omega) (by omega) c.err false false c.sender
        · by_cases c3 : x = true ∨ c.tk.l.length < 1 ∨ (if c.give.ext then 32 else 12) < c.tk.l.length
          · rw [if_pos c3]
            intro _; exact sm_flag h k rfl rfl 4 _ false
          · rw [if_neg c3]
            split
            · intro _; exact sm_flag h k rfl rfl 5 0 false
            · intro htl
              exact ⟨by have := k.n; show c.n ≤ _; omega, fun e => by have : c.ph = 6 := e; omega, k.gz, by show ([] : List Bool).length ≤ 200; simp, fun e => absurd n1 e, htl n1⟩
    · unfold rcvC
      split
      · split
        · intro _; exact sm_flag h k (c1 := { c with tk := (nxT c.tk x).1 }) rfl rfl 4 _ false
        · intro htl
          exact ⟨by have := k.n; show c.n ≤ _; omega, fun e => by have : c.ph = 6 := e; omega, k.gz, k.wl, fun e => absurd n1 e, htl n1⟩
      split
      · intro _; exact sm_flag h k (c1 := { c with tk := (nxT c.tk x).1 }) rfl rfl 5 _ false
      split
      · intro _; exact sm_flag h k (c1 := { c with tk := (nxT c.tk x).1 }) rfl rfl 6 _ false
      split
      · intro _; exact sm_flag h k (c1 := { c with tk := (nxT c.tk x).1 }) rfl rfl 8 _ false
      split
      · intro htl
        exact ⟨by have := k.n; show c.n ≤ _; omega, fun e => by have : c.ph = 6 := e; omega, k.gz, k.wl, fun e => absurd n1 e, htl n1⟩
      split
      · intro _; exact sm_fresh h k rfl rfl (ph := 4) (n := 0) (by omega) (by omega) false c.sender
      · intro _; exact sm_plain h k rfl rfl (by omega)
  rename_i n1
  intro _
  split
  · rename_i n2
    unfold sixC
    generalize (if c.sender = true then 6 else 3) = q
    split
    · exact sm_off h k rfl rfl
    · cases x with
      | true =>
        dsimp only
        rw [if_pos rfl]
        split
        · exact sm_plain h k (c1 := { c with cf := evC c.cf q }) rfl rfl (by omega)
        · exact keep _ rfl (by show c.n + 1 ≤ _; omega) (fun e => by omega) rfl rfl rfl rfl
      | false =>
        dsimp only
        rw [if_neg Bool.false_ne_true]
        split
        · exact sm_plain h k rfl rfl (by omega)
        · exact keep _ rfl (by show c.n + 1 ≤ _; omega) (fun e => by omega) rfl rfl rfl rfl
  split
  · rename_i n3
    unfold weakC
    split
    · exact sm_off h k rfl rfl
    · dsimp only
      obtain ⟨d, hd⟩ : ∃ d : Ct, d = (if (c.owed && !x) = true then { c with owed := false, cf := evC c.cf 5 } else c) := ⟨_, rfl⟩
      rw [← hd]
      have a : d.ph = c.ph ∧ d.has = c.has ∧ d.give = c.give ∧ d.wire = c.wire ∧ d.tk = c.tk := by rw [hd]; split <;> exact ⟨rfl, rfl, rfl, rfl, rfl⟩
      obtain ⟨a1, a2, a3, a4, a5⟩ := a
      have hb : (if 0 < c.n ∧ c.rl = x then c.n + 1 else 1) ≤ c.n + 1 := by split <;> omega
      generalize (if 0 < c.n ∧ c.rl = x then c.n + 1 else 1) = mm at *
      split
      · exact sm_plain h k a2 a3 (by omega)
      · exact keep _ a1 hb (fun e => by omega) a2 a3 a4 a5
  split
  · rename_i n5
    unfold waitC
    split
    · exact sm_fresh h k rfl rfl (ph := 6) (n := 1) (by omega) (by omega) c.err c.sender
    · have a : ∀ q, (cntC c q).ph = c.ph ∧ (cntC c q).has = c.has ∧ (cntC c q).give = c.give ∧ (cntC c q).wire = c.wire ∧ (cntC c q).tk = c.tk := fun q => by unfold cntC; split <;> exact ⟨rfl, rfl, rfl, rfl, rfl⟩
      obtain ⟨a1, a2, a3, a4, a5⟩ := a (waitE c)
      split
      · exact sm_off h k a2 a3
      · exact keep _ a1 (by show c.n + 1 ≤ _; omega) (fun e => by omega) a2 a3 a4 a5
  split
  · rename_i n6
    have h8 := k.six n6
    unfold delimC
    split
    · split
      · exact sm_plain h k rfl rfl (by omega)
      · exact keep _ rfl (by show c.n + 1 ≤ _; omega) (fun e => by show c.n + 1 < 8; omega) rfl rfl rfl rfl
    · split
      · exact sm_flag h k rfl rfl 6 _ false
      · exact sm_fresh h k rfl rfl (ph := 4) (n := 0) (by omega) (by omega) false c.sender
  split
  · rename_i n7
    unfold interC
    split
    · split
      · split
        · exact sm_plain h k rfl rfl (by omega)
        · exact sm_plain h k rfl rfl (by omega)
      · exact keep _ rfl (by show c.n + 1 ≤ _; omega) (fun e => by omega) rfl rfl rfl rfl
    · split
      · exact sm_fresh h k rfl rfl (ph := 4) (n := 0) (by omega) (by omega) false c.sender
      · exact sm_beg h k _ (fun e => by simp at e; exact e.1)
  split
  · rename_i n8
    unfold hold8C
    split
    · split
      · exact sm_plain h k rfl rfl (by omega)
      · exact keep _ rfl (by show c.n + 1 ≤ _; omega) (fun e => by omega) rfl rfl rfl rfl
    · exact sm_beg h k false (fun e => by cases e)
  · unfold offsC
    split
    · exact keep _ rfl (by show c.n ≤ _; omega) (fun e => k.six e) rfl rfl rfl rfl
    · exact sm_plain h k (c1 := { c with cf := biC c.cf x }) rfl rfl (by omega)

theorem sm_ok (hm : m ≤ 1000000000) : StepOK c := by
  refine ⟨by have := h.le; omega, by have := k.n; omega, fun h9 => ?_, h.gv, ?_, by have := k.wl; omega, by have := k.tl; omega, fun h1 => ?_, fun h1 hs => ?_, k.six⟩
  · have ho := on_off h h9
    have h2 : ¬ moC c.cf = 2 := fun e => by
      have := (mo_of_right h.ri).1 e
      rw [ho] at this; cases this
    have := mo_le c.cf
    omega
  · cases hh : c.has with
    | false => rw [k.gz hh]; simp [zeroFr]
    | true => have := good_len (h.gv hh); omega
  · obtain ⟨l, hl⟩ := h.rd h1
    have h118 := hl.short
    rcases hl with hI | hB
    · exact ⟨hI.ri, by omega, by have := hI.p; omega, fun e => by have := hI.p; omega⟩
    · exact ⟨hB.ri, by omega, by have := hB.p; have := hB.hi; omega, fun e => ⟨hB.ok (by omega), hB.m⟩⟩
  · obtain ⟨_, hhas, hw, p1, p2, hr⟩ := h.snd hs
    have hg := h.gv hhas
    have z := (ok_snd hg (cf := zeC) (by decide) p1 p2 hr (rd_len hg p1 p2 hr)).sn rfl rfl
    exact ⟨by rw [hw]; exact z.pos, by rw [hw]; exact z.len, by rw [hw]; exact z.ack, z.one⟩
end
end Go.Proofs.YtajdbimdiodalaaGreat

namespace Go.Proofs.YtajdbimdiodalaaGreat
set_option linter.unusedVariables false

theorem sm_give {m : Nat} {c : Ct} (k : SmC m c) (F : Fr) : SmC m { c with has := true, give := F } := ⟨k.n, k.six, fun e => (by cases e), k.wl, k.tz, k.tl⟩
theorem sm_drop {m : Nat} {c : Ct} (k : SmC m c) : SmC m { c with has := false, give := zeroFr } := ⟨k.n, k.six, fun _ => rfl, k.wl, k.tz, k.tl⟩
end Go.Proofs.YtajdbimdiodalaaGreat
