/-
  Contracts of a state's methods: a phase that begins, how it stands, an event that is counted.
  Contracts of a state's methods: the flags, an error of its own, a frame that begins.
  Contract of a state's method: a frame that begins.
-/
import Derived.Test.YtgpmhmdofefdcaaGreatB8
namespace Go.Proofs.YtgpmhmdofefdcaaGreat
open Go.RowKit Go.Sort
set_option linter.unusedVariables false

/-- The slices behind a phase that begins. -/
def Sl.new (s : Sl) : Sl := ⟨s.da, s.dc, none, 0, none, 0⟩

theorem NBs.new {s : Sl} {k : Nat} (h : NBs s k) : NBs s.new k := ⟨h.d, NB.nil k, NB.nil k⟩

set_option maxRecDepth 100000 in
set_option maxHeartbeats 2000000 in
theorem enter_any (B : Nat) (w : World) (g : Nat) (c : Ct) (s : Sl) (ph : Nat) (h : StB B w g c s) :
    Calls Tryz.prog 78 #[.pointer (some ⟨g, 0, none⟩), .int .u8 (ph : Int)] w fun e w' => e = .returned (.tuple #[]) ∧ Left B w w' g (newC c ph) s s.new := by
  have q2 : w.drew.cell? ⟨g, 2, none⟩ = _ := h.q2
  have q3 : w.drew.cell? ⟨g, 3, none⟩ = _ := h.q3
  have q4 : w.drew.cell? ⟨g, 4, none⟩ = _ := h.q4
  have q5 : w.drew.cell? ⟨g, 5, none⟩ = _ := h.q5
  have q6 : w.drew.cell? ⟨g, 6, none⟩ = _ := h.q6
  have q7 : w.drew.cell? ⟨g, 7, none⟩ = _ := h.q7
  have q8 : w.drew.cell? ⟨g, 8, none⟩ = _ := h.q8
  have q9 : w.drew.cell? ⟨g, 9, none⟩ = _ := h.q9
  have q10 : w.drew.cell? ⟨g, 10, none⟩ = _ := h.q10
  have q11 : w.drew.cell? ⟨g, 11, none⟩ = _ := h.q11
  have q12 : w.drew.cell? ⟨g, 12, none⟩ = _ := h.q12
  have q14 : w.drew.cell? ⟨g, 14, none⟩ = _ := h.q14
  have q24 : w.drew.cell? ⟨g, 24, none⟩ = _ := h.q24
  go_enter Tryz.func78, Tryz.ntmps78
  go_wp2_with (fail)
  refine wp_region_still_tail 30 (by kernel_rfl) (by kernel_rfl) ?_
  simp only [List.take_succ_cons, List.take_zero, List.drop_succ_cons, List.drop_zero]
  repeat still_step
  refine wpStill_nil ?_
  change wpList _ _ _ _ _ w.drew
  have hd : StB B w.drew g c s := h.drew
  have hw : Wr g w w.drew := (Wr.refl g w).drew
  clear q2 q3 q4 q5 q6 q7 q8 q9 q10 q11 q12 q14 q24
  generalize w.drew = w2 at *
  refine wpList_store_row rfl 54 _ _ rfl g (ctA (newC c ph) s.new) rfl rfl 92 (ctA c s) hd.box (by kernel_rfl) rfl (by kernel_rfl) ?_
  go_wp2
  exact bodyPost_end (v := .tuple #[]) (by simp [results, Tryz.results78, go_sem]) rfl ⟨rfl, ⟨setRow_heap _ _ _ _ _ _ hd.box, h.hB, (hd.da.kept fun q hq => setRow_other _ _ _ _ (hd.nb.d _ hq)), OL.nil _ _ _ _, OL.nil _ _ _ _, hd.nb.new⟩, hw.setRow (.inl rfl) _, fun k hk hn => hn.new⟩

theorem event_cf (w : World) (f : Cf) (k : Nat) (hk : k < 256) : Calls Tryz.prog 91 #[.agg #[.int .i64 f.t, .int .i64 f.r, .bool f.o, .int .i64 f.n, .int .i64 f.m], .int .u8 (k : Int)] w fun e w' =>
    ∃ z, e = .returned (.tuple #[.agg #[.int .i64 (evC f k).t, .int .i64 (evC f k).r, .bool (evC f k).o, .int .i64 (evC f k).n, .int .i64 (evC f k).m], .int .i64 z]) ∧ Below w.heap.size w w' :=
  (event_any w f.t f.r f.o f.n f.m k hk).mono fun e w' h => ⟨_, h⟩
theorem mode_cf (w : World) (f : Cf) : Calls Tryz.prog 92 #[.agg #[.int .i64 f.t, .int .i64 f.r, .bool f.o, .int .i64 f.n, .int .i64 f.m]] w fun e w' => e = .returned (.int .u8 (moC f : Int)) ∧ Below w.heap.size w w' :=
  mode_any w f.t f.r f.o f.n f.m
theorem bit_cf (w : World) (f : Cf) (x : Bool) : Calls Tryz.prog 82 #[.agg #[.int .i64 f.t, .int .i64 f.r, .bool f.o, .int .i64 f.n, .int .i64 f.m], .bool x] w fun e w' =>
    e = .returned (.agg #[.int .i64 (biC f x).t, .int .i64 (biC f x).r, .bool (biC f x).o, .int .i64 (biC f x).n, .int .i64 (biC f x).m]) ∧ Below w.heap.size w w' :=
  bit_any w f.t f.r f.o f.n f.m x

theorem mode_st (B : Nat) (w : World) (g : Nat) (c : Ct) (s : Sl) (h : StB B w g c s) :
    Calls Tryz.prog 81 #[.pointer (some ⟨g, 0, none⟩)] w fun e w' => e = .returned (.int .u8 (moC c.cf : Int)) ∧ Below w.heap.size w w' := by
  have q2 := h.q2
  have q3 := h.q3
  have q4 := h.q4
  have q5 := h.q5
  have q6 := h.q6
  go_enter Tryz.func81, Tryz.ntmps81
  go_wp2_with (go_at_call 92; (with_reducible refine (mode_cf _ _).mono ?_); rintro e w1 ⟨rfl, g1⟩)
  go_ret
  exact ⟨rfl, g1⟩

theorem count_st (B : Nat) (w : World) (g : Nat) (c : Ct) (s : Sl) (k : Nat) (hk : k < 256) (h : StB B w g c s) :
    Calls Tryz.prog 79 #[.pointer (some ⟨g, 0, none⟩), .int .u8 (k : Int)] w fun e w' => e = .returned (.tuple #[]) ∧ Left B w w' g { c with cf := evC c.cf k } s s := by
  have q2 := h.q2
  have q3 := h.q3
  have q4 := h.q4
  have q5 := h.q5
  have q6 := h.q6
  go_enter Tryz.func79, Tryz.ntmps79
  go_wp2_with (go_at_call 91; (with_reducible refine (event_cf _ _ k hk).mono ?_); rintro e w1 ⟨z, rfl, g1⟩; have h1 := h.below g1; clear q2 q3 q4 q5 q6; have q2 := h1.q2; have q3 := h1.q3; have q4 := h1.q4; have q5 := h1.q5; have q6 := h1.q6; have f := h1.fz)
  exact bodyPost_end (v := .tuple #[]) (by simp [results, Tryz.results79, go_sem]) rfl ⟨rfl, h1.putCf _, ((((((Wr.refl g w).call g1).setCell (.inl rfl) _).setCell (.inl rfl) _).setCell (.inl rfl) _).setCell (.inl rfl) _).setCell (.inl rfl) _, fun k hk hn => hn⟩

theorem either_any (B : Nat) (w : World) (g : Nat) (c : Ct) (s : Sl) (x y : Nat) (h : StB B w g c s) :
    Calls Tryz.prog 76 #[.pointer (some ⟨g, 0, none⟩), .int .u8 (x : Int), .int .u8 (y : Int)] w fun e w' => e = .returned (.int .u8 ((if c.sender then x else y : Nat) : Int)) ∧ Below w.heap.size w w' := by
  have q14 := h.q14
  cases hs : c.sender
  all_goals
    rw [hs] at q14
    clear hs h
    go_enter Tryz.func76, Tryz.ntmps76
    go_wp2
    go_ret
    exact ⟨rfl, Below.refl _ _⟩

/-- A bit more of a phase that has not come to its end. -/
theorem oneMore_on (B : Nat) (w : World) (g : Nat) (c : Ct) (s : Sl) (m : Int) (ph : Nat) (h : StB B w g c s) (hn : c.n ≤ 1000000000) (hm : (c.n : Int) + 1 ≠ m) :
    Calls Tryz.prog 77 #[.pointer (some ⟨g, 0, none⟩), .int .i64 m, .int .u8 (ph : Int)] w fun e w' => e = .returned (.tuple #[]) ∧ Left B w w' g { c with n := c.n + 1 } s s := by
  have q1 := h.q1
  have f := h.fz
  have hk := h.put 1 (.int .i64 ((c.n : Int) + 1)) { c with n := c.n + 1 } rfl rfl rfl rfl
  clear h
  go_enter Tryz.func77, Tryz.ntmps77
  go_wp2
  exact bodyPost_end (v := .tuple #[]) (by simp [results, Tryz.results77, go_sem]) rfl ⟨rfl, hk, (Wr.refl g w).setCell (.inl rfl) _, fun k hk hn => hn⟩

/-- The last bit of a phase. -/
theorem oneMore_end (B : Nat) (w : World) (g : Nat) (c : Ct) (s : Sl) (m : Int) (ph : Nat) (h : StB B w g c s) (hn : c.n ≤ 1000000000) (hm : (c.n : Int) + 1 = m) :
    Calls Tryz.prog 77 #[.pointer (some ⟨g, 0, none⟩), .int .i64 m, .int .u8 (ph : Int)] w fun e w' => e = .returned (.tuple #[]) ∧ Left B w w' g (newC c ph) s s.new := by
  subst hm
  have q1 := h.q1
  have f := h.fz
  have hk := h.put 1 (.int .i64 ((c.n : Int) + 1)) { c with n := c.n + 1 } rfl rfl rfl rfl
  have hE := fun (w1 : World) (h1 : StB B w1 g { c with n := c.n + 1 } s) => enter_any B w1 g _ s ph h1
  clear h
  go_enter Tryz.func77, Tryz.ntmps77
  go_wp2_with (go_at_call 78; (with_reducible refine (hE _ hk).mono ?_); rintro e w1 ⟨rfl, l1⟩)
  exact bodyPost_end (v := .tuple #[]) (by simp [results, Tryz.results77, go_sem]) rfl ⟨rfl, l1.st, ((Wr.refl g w).setCell (.inl rfl) _).trans l1.wr, fun k hk hn => l1.ns k (by simpa using hk) hn⟩

/-- An event by which the controller does not go off. -/
theorem goesOff_no (B : Nat) (w : World) (g : Nat) (c : Ct) (s : Sl) (k : Nat) (hk : k < 256) (h : StB B w g c s) (hm : moC (evC c.cf k) ≠ 2) :
    Calls Tryz.prog 75 #[.pointer (some ⟨g, 0, none⟩), .int .u8 (k : Int)] w fun e w' => e = .returned (.bool false) ∧ Left B w w' g { c with cf := evC c.cf k } s s := by
  have hC := count_st B w g c s k hk h
  have hM := fun (w1 : World) (h1 : StB B w1 g { c with cf := evC c.cf k } s) => mode_st B w1 g _ s h1
  dsimp only at hM
  have hq : ¬ (moC (evC c.cf k) : Int) = 2 := by omega
  generalize moC (evC c.cf k) = q at hM hq
  clear h hm
  go_enter Tryz.func75, Tryz.ntmps75
  go_wp2_with (first
    | (go_at_call 79; (with_reducible refine hC.mono ?_); rintro e w1 ⟨rfl, l1⟩)
    | (go_at_call 81; (with_reducible refine (hM _ l1.st).mono ?_); rintro e w2 ⟨rfl, g2⟩))
  go_ret
  exact ⟨rfl, l1.st.below g2, l1.wr.call g2, l1.ns⟩

/-- An event by which it goes off. -/
theorem goesOff_yes (B : Nat) (w : World) (g : Nat) (c : Ct) (s : Sl) (k : Nat) (hk : k < 256) (h : StB B w g c s) (hm : moC (evC c.cf k) = 2) :
    Calls Tryz.prog 75 #[.pointer (some ⟨g, 0, none⟩), .int .u8 (k : Int)] w fun e w' => e = .returned (.bool true) ∧ Left B w w' g { newC { c with cf := evC c.cf k } 9 with sender := false } s s.new := by
  have hC := count_st B w g c s k hk h
  have hM := fun (w1 : World) (h1 : StB B w1 g { c with cf := evC c.cf k } s) => mode_st B w1 g _ s h1
  have hE := fun (w1 : World) (h1 : StB B w1 g { c with cf := evC c.cf k } s) => enter_any B w1 g _ s 9 h1
  dsimp only at hM
  rw [hm] at hM
  have hg := h.lt
  clear h hm
  go_enter Tryz.func75, Tryz.ntmps75
  go_wp2_with (first
    | (go_at_call 79; (with_reducible refine hC.mono ?_); rintro e w1 ⟨rfl, l1⟩)
    | (go_at_call 81; (with_reducible refine (hM _ l1.st).mono ?_); rintro e w2 ⟨rfl, g2⟩; have h2 := l1.st.below g2)
    | (go_at_call 78; (refine (hE _ h2).mono ?_); rintro e w3 ⟨rfl, l3⟩; have f := l3.st.fz; have q14 := l3.st.q14))
  go_ret
  exact ⟨rfl, l3.st.put 14 _ _ rfl rfl rfl rfl, ((l1.wr.call g2).trans l3.wr).setCell (.inl rfl) _, fun k hk hn => l3.ns k (by have := l1.wr.size; have := g2.size; omega) (l1.ns k hk hn)⟩
end Go.Proofs.YtgpmhmdofefdcaaGreat

namespace Go.Proofs.YtgpmhmdofefdcaaGreat
open Go.RowKit Go.Sort
set_option linter.unusedVariables false

theorem flag_st (B : Nat) (w : World) (g : Nat) (c : Ct) (s : Sl) (mo wt : Nat) (h : StB B w g c s) (hmo : mo ≤ 1) :
    Calls Tryz.prog 85 #[.pointer (some ⟨g, 0, none⟩), .int .u8 (mo : Int), .int .u8 (wt : Int)] w (Told B w g s ({ newC c (if mo = 1 then 3 else 2) with err := true }, (wt, zeroFr))) := by
  have m0 := Mb.start h
  rcases (show mo = 0 ∨ mo = 1 by omega) with rfl | rfl
  · have hE := fun (w1 : World) (h1 : StB B w1 g c s) => enter_any B w1 g c s 2 h1
    clear h hmo
    go_enter Tryz.func85, Tryz.ntmps85
    go_wp2_with (go_at_call 78; (refine (hE _ m0.st).mono ?_); rintro e w1 ⟨rfl, l1⟩; have m1 := m0.left l1; have q24 := m1.st.q24; have f := m1.st.fz; obtain ⟨p0, p1, p2, p3, p4, p5⟩ := m1.hps; have fp := m1.hpf)
    exact bodyPost_ret (v := .agg (hapA (wt, zeroFr) none 0)) (by simp [results, Tryz.results85, go_sem, p0, p1, p2, p3, p4, p5]; rfl) rfl ⟨_, none, 0, rfl, (m1.put 24 (.bool true) { newC c 2 with err := true } rfl rfl rfl rfl).fin _ _ _ _ _ _, OL.nil _ _ _ _, fun k _ _ => NB.nil k⟩
  · have hE := fun (w1 : World) (h1 : StB B w1 g c s) => enter_any B w1 g c s 3 h1
    clear h hmo
    go_enter Tryz.func85, Tryz.ntmps85
    go_wp2_with (go_at_call 78; (refine (hE _ m0.st).mono ?_); rintro e w1 ⟨rfl, l1⟩; have m1 := m0.left l1; have q24 := m1.st.q24; have f := m1.st.fz; obtain ⟨p0, p1, p2, p3, p4, p5⟩ := m1.hps; have fp := m1.hpf)
    exact bodyPost_ret (v := .agg (hapA (wt, zeroFr) none 0)) (by simp [results, Tryz.results85, go_sem, p0, p1, p2, p3, p4, p5]; rfl) rfl ⟨_, none, 0, rfl, (m1.put 24 (.bool true) { newC c 3 with err := true } rfl rfl rfl rfl).fin _ _ _ _ _ _, OL.nil _ _ _ _, fun k _ _ => NB.nil k⟩

theorem overload_st (B : Nat) (w : World) (g : Nat) (c : Ct) (s : Sl) (h : StB B w g c s) :
    Calls Tryz.prog 80 #[.pointer (some ⟨g, 0, none⟩)] w (Told B w g s (overC c)) := by
  have m0 := Mb.start h
  have hE := fun (w1 : World) (h1 : StB B w1 g c s) => enter_any B w1 g c s 4 h1
  clear h
  go_enter Tryz.func80, Tryz.ntmps80
  go_wp2_with (go_at_call 78; (refine (hE _ m0.st).mono ?_); rintro e w1 ⟨rfl, l1⟩; have m1 := m0.left l1; have q24 := m1.st.q24; have f := m1.st.fz; obtain ⟨p0, p1, p2, p3, p4, p5⟩ := m1.hps; have fp := m1.hpf)
  exact bodyPost_ret (v := .agg (hapA (9, zeroFr) none 0)) (by simp [results, Tryz.results80, go_sem, p0, p1, p2, p3, p4, p5]; rfl) rfl ⟨_, none, 0, rfl, (m1.put 24 (.bool false) { newC c 4 with err := false } rfl rfl rfl rfl).fin _ _ _ _ _ _, OL.nil _ _ _ _, fun k _ _ => NB.nil k⟩

theorem fail_st (B : Nat) (w : World) (g : Nat) (c : Ct) (s : Sl) (wt : Nat) (r : Ct × Hp) (hr : r = failC c wt) (h : StB B w g c s) (hmo : moC c.cf ≤ 1) :
    Calls Tryz.prog 72 #[.pointer (some ⟨g, 0, none⟩), .int .u8 (wt : Int)] w (Told B w g s r) := by
  have m0 := Mb.start h
  have hM := mode_st B _ g c s m0.st
  obtain ⟨k, hk⟩ : ∃ k, k = if c.sender then 5 else 1 := ⟨_, rfl⟩
  have hI : ∀ w1, StB B w1 g c s → Calls Tryz.prog 76 #[.pointer (some ⟨g, 0, none⟩), .int .u8 5, .int .u8 1] w1 fun e w' => e = .returned (.int .u8 (k : Int)) ∧ Below w1.heap.size w1 w' := fun w1 h1 => by rw [hk]; exact either_any B w1 g c s 5 1 h1
  have hkb : k = 5 ∨ k = 1 := by rw [hk]; split <;> simp
  unfold failC at hr
  rw [← hk] at hr
  clear hk
  unfold flagC at hr
  have hc : cntC c k = { c with cf := evC c.cf k } := by unfold cntC; rw [if_neg (by omega)]
  rw [hc] at hr
  clear hc
  by_cases hm : moC (evC c.cf k) = 2
  · rw [if_pos hm] at hr
    have hG := fun (w1 : World) (h1 : StB B w1 g c s) => goesOff_yes B w1 g c s k (by omega) h1 hm
    have HR := hid hr
    have hr1 : ({ newC { c with cf := evC c.cf k } 9 with sender := false } : Ct) = r.1 := by rw [hr]; rfl
    simp only [hr1] at hG
    clear hkb hm h hr hr1
    generalize moC c.cf = mo at *
    go_enter Tryz.func72, Tryz.ntmps72
    go_wp2_with (first
      | (go_at_call 81; (with_reducible refine hM.mono ?_); rintro e w1 ⟨rfl, g1⟩; have m1 := m0.call g1)
      | (go_at_call 76; (with_reducible refine (hI _ m1.st).mono ?_); rintro e w2 ⟨rfl, g2⟩; have m2 := m1.call g2)
      | (go_at_call 75; (with_reducible refine (hG _ m2.st).mono ?_); rintro e w3 ⟨rfl, l3⟩; have m3 := m2.left l3; obtain ⟨p0, p1, p2, p3, p4, p5⟩ := m3.hps; have fp := m3.hpf))
    exact bodyPost_ret (v := .agg (hapA (10, zeroFr) none 0)) (by simp [results, Tryz.results72, go_sem, p0, p1, p2, p3, p4, p5]; rfl) rfl (m3.six 10 rfl (by rw [HR.out]; rfl) _ _ _ _ _ _)
  · rw [if_neg hm] at hr
    have hG := fun (w1 : World) (h1 : StB B w1 g c s) => goesOff_no B w1 g c s k (by omega) h1 hm
    have hF := fun (w1 : World) (h1 : StB B w1 g { c with cf := evC c.cf k } s) => flag_st B w1 g _ s (moC c.cf) wt h1 hmo
    have hr1 : (({ newC { c with cf := evC c.cf k } (if moC c.cf = 1 then 3 else 2) with err := true }, (wt, zeroFr)) : Ct × Hp) = r := by rw [hr]; rfl
    simp only [hr1] at hF
    clear hkb hm h hmo hr hr1
    generalize moC c.cf = mo at *
    go_enter Tryz.func72, Tryz.ntmps72
    go_wp2_with (first
      | (go_at_call 81; (with_reducible refine hM.mono ?_); rintro e w1 ⟨rfl, g1⟩; have m1 := m0.call g1)
      | (go_at_call 76; (with_reducible refine (hI _ m1.st).mono ?_); rintro e w2 ⟨rfl, g2⟩; have m2 := m1.call g2)
      | (go_at_call 75; (with_reducible refine (hG _ m2.st).mono ?_); rintro e w3 ⟨rfl, l3⟩; have m3 := m2.left l3)
      | (go_at_call 85; (with_reducible refine (hF _ m3.st).mono ?_); rintro e w4 ⟨s4, a4, n4, rfl, l4, o4, b4⟩; have m4 := m3.left l4; obtain ⟨p0, p1, p2, p3, p4, p5⟩ := m4.hps; have fp := m4.hpf))
    exact bodyPost_ret (v := .agg (hapA r.2 a4 n4)) (by simp [results, Tryz.results72, go_sem, p0, p1, p2, p3, p4, p5]; rfl) rfl (m3.told l4 o4 b4 _ _ _ _ _ _)
end Go.Proofs.YtgpmhmdofefdcaaGreat

namespace Go.Proofs.YtgpmhmdofefdcaaGreat
open Go.RowKit Go.Sort
set_option linter.unusedVariables false

theorem wire_fr (w : World) (F : Fr) (hg : Good F) (a : Option Addr) (c : Nat) (h : RL bv w a F.data.length c F.data) :
    Calls Tryz.prog 15 #[.agg #[.int .u32 (F.id : Int), .bool F.ext, .bool F.rem, .int .u8 (F.dlc : Int), .slice a F.data.length c]] w fun e w' => ∃ a' c', e = .returned (.tuple #[.slice a' (wiL F).length c', .int .i64 0]) ∧
      OL .bool 4 w.heap.size w' a' (wiL F).length c' (wiL F) ∧ Below w.heap.size w w' := by
  have h1 := hg.id
  have h2 := hg.dlc
  have := wire_any w F.id F.ext F.rem F.dlc a F.data.length c F.data (by split at h1 <;> omega) (by omega) h ((good_iff F _ rfl).2 hg)
  rw [wiL_length]
  exact this

/-- The state of reading behind a frame's first bit. -/
def tk1 : Tk := (nxT s0 false).1

theorem next_start (w : World) : Calls Tryz.prog 84 #[.agg #[.bool false, .int .u8 0, .slice none 0 0, .int .u8 0, .bool false], .bool false] w fun e w' => ∃ a' c',
    e = .returned (.tuple #[.agg #[.bool tk1.b, .int .u8 (tk1.m : Int), .slice a' tk1.l.length c', .int .u8 (tk1.p : Int), .bool tk1.fi], .int .u8 0]) ∧ OL .bool 4 w.heap.size w' a' tk1.l.length c' tk1.l ∧ Below w.heap.size w w' :=
  next7_any w s0 false none 0 0 rfl (RL.nil _ _ _ _) (by simp [s0]) ⟨by simp [s0], fun _ => rfl⟩ (by simp [s0])

set_option maxHeartbeats 1000000 in
theorem begin_not (B : Nat) (w : World) (g : Nat) (c : Ct) (s : Sl) (h : StB B w g c s) :
    Calls Tryz.prog 71 #[.pointer (some ⟨g, 0, none⟩), .bool false] w fun e w' => e = .returned (.tuple #[]) ∧ ∃ s', Left B w w' g (begC c false) s s' := by
  have hE := enter_any B w g c s 1 h
  have hN := next_start
  have hg := h.lt
  have hB := h.hB
  have ht : begC c false = { newC c 1 with tk := tk1, sends := false, sender := false } := rfl
  rw [ht]
  clear h ht
  generalize tk1 = t at *
  go_enter Tryz.func71, Tryz.ntmps71
  go_wp2_with (first
    | (go_at_call 78; (refine hE.mono ?_); rintro e w1 ⟨rfl, l1⟩)
    | (go_at_call 84; (with_reducible refine (hN _).mono ?_); rintro e w2 ⟨a2, c2, rfl, o2, g2⟩; have z1 := l1.wr.size; have z2 := g2.size; have h2 := l1.st.below g2; have h3 := ((h2.putTk t a2 c2 (o2.mono (by omega)) (ol_nb o2 (by omega))).put 13 (.bool false) { newC c 1 with tk := t, sends := false } rfl rfl rfl rfl).put 14 (.bool false) { newC c 1 with tk := t, sends := false, sender := false } rfl rfl rfl rfl; have q17 := h2.q17; have q18 := h2.q18; have q19 := h2.q19; have q20 := h2.q20; have q21 := h2.q21; have q13 := h2.q13; have q14 := h2.q14; have f := h2.fz))
  refine bodyPost_end (v := .tuple #[]) (by simp [results, Tryz.results71, go_sem]) rfl ⟨rfl, _, h3, ?_, fun k hk hn => ⟨(l1.ns k hk hn).d, (l1.ns k hk hn).w, ol_nb o2 (by omega)⟩⟩
  exact (((((((l1.wr.call g2).setCell (.inl rfl) _).setCell (.inl rfl) _).setCell (.inl rfl) _).setCell (.inl rfl) _).setCell (.inl rfl) _).setCell (.inl rfl) _).setCell (.inl rfl) _

set_option maxHeartbeats 2000000 in
theorem begin_snd (B : Nat) (w : World) (g : Nat) (c : Ct) (s : Sl) (h : StB B w g c s) (hgd : Good c.give) :
    Calls Tryz.prog 71 #[.pointer (some ⟨g, 0, none⟩), .bool true] w fun e w' => e = .returned (.tuple #[]) ∧ ∃ s', Left B w w' g (begC c true) s s' := by
  have hE := enter_any B w g c s 1 h
  have hN := next_start
  have hg := h.lt
  have hB := h.hB
  have ht : begC c true = { newC c 1 with tk := tk1, sends := true, sender := true, wire := wiL c.give, pos := 1 } := rfl
  have hW := fun (w1 : World) (a1 : Option Addr) (c1 : Nat) (h1 : RL bv w1 a1 c.give.data.length c1 c.give.data) => wire_fr w1 c.give hgd a1 c1 h1
  rw [ht]
  clear h ht hgd
  generalize tk1 = t at *
  generalize wiL c.give = W at *
  go_enter Tryz.func71, Tryz.ntmps71
  go_wp2_with (first
    | (go_at_call 78; (refine hE.mono ?_); rintro e w1 ⟨rfl, l1⟩)
    | (go_at_call 84; (with_reducible refine (hN _).mono ?_); rintro e w2 ⟨a2, c2, rfl, o2, g2⟩; have z1 := l1.wr.size; have z2 := g2.size; have h2 := l1.st.below g2; have h3 := ((h2.putTk t a2 c2 (o2.mono (by omega)) (ol_nb o2 (by omega))).put 13 (.bool true) { newC c 1 with tk := t, sends := true } rfl rfl rfl rfl).put 14 (.bool true) { newC c 1 with tk := t, sends := true, sender := true } rfl rfl rfl rfl; have q17 := h2.q17; have q18 := h2.q18; have q19 := h2.q19; have q20 := h2.q20; have q21 := h2.q21; have q13 := h2.q13; have q14 := h2.q14; have q8 := h2.q8; have q9 := h2.q9; have q10 := h2.q10; have q11 := h2.q11; have q12 := h2.q12; have f := h2.fz)
    | (go_at_call 15; (refine (hW _ _ _ h3.da.rl).mono ?_); rintro e w4 ⟨a4, c4, rfl, o4, g4⟩; have z4 := g4.size; have h4 := h3.below g4; have k4 := ((((((((l1.wr.call g2).setCell (.inl rfl) _).setCell (.inl rfl) _).setCell (.inl rfl) _).setCell (.inl rfl) _).setCell (.inl rfl) _).setCell (.inl rfl) _).setCell (.inl rfl) _).call g4; simp only [sz_set] at o4 z4; clear q17 q18 q19 q20 q21 q13 q14 q8 q9 q10 q11 q12 f; have h5 := (h4.putWi W a4 _ c4 rfl (o4.mono (by omega)) (ol_nb o4 (by omega))).put 16 (.int .i64 1) { newC c 1 with tk := t, sends := true, sender := true, wire := W, pos := 1 } rfl rfl rfl rfl; have q15 := h4.q15; have q16 := h4.q16; have f := h4.fz))
  refine bodyPost_end (v := .tuple #[]) (by simp [results, Tryz.results71, go_sem]) rfl ⟨rfl, _, h5, ?_, fun k hk hn => ⟨(l1.ns k hk hn).d, ol_nb o4 (by omega), ol_nb o2 (by omega)⟩⟩
  exact (k4.setCell (.inl rfl) _).setCell (.inl rfl) _
end Go.Proofs.YtgpmhmdofefdcaaGreat
