/-
  Contracts of the document's own making of a right list.
-/
import Derived.Test.YtoeeaohgihipgaaB5f
namespace Go.Proofs.Ytoeeaohgihipgaa
open Go.RowKit Go.Sort
set_option linter.unusedVariables false

theorem lit1F (w : World) (s : Int) (u : Nat) : RK fe 2 (w.alloc (.cells #[.int .i64 s, .int .u8 (u : Int)] 38)) (some ⟨w.heap.size, 0, none⟩) 1 1 [(s, u)] :=
  (ok_lit eF 38 0 w [(s, u)] _ 1 rfl rfl (by omega) (Nat.zero_le _)).rk eF

/-- A row of flips that grows, beside all that lay in w0. -/
structure RB (w0 wr : World) (a : Option Addr) (m c : Nat) (out : List Fl) : Prop where
  own : OK fe 2 38 w0.heap.size wr a m c out
  bel : Below w0.heap.size w0 wr

section
variable {w0 wr w2 : World} {a a2 : Option Addr} {m c m2 c2 : Nat} {out out2 : List Fl}
theorem RB.start (w0 : World) : RB w0 w0 none 0 0 [] := ⟨OK.nil _ _ _ _ _, Below.refl _ _⟩
theorem RB.call (h : RB w0 wr a m c out) (g : Below wr.heap.size wr w2) : RB w0 w2 a m c out := ⟨h.own.below g, bstep h.bel g⟩
theorem RB.drewN (h : RB w0 wr a m c out) (q : Nat) : RB w0 (wr.drewN q) a m c out := ⟨h.own.drewN q, below_drewN h.bel q⟩
theorem RB.alloc (h : RB w0 wr a m c out) (o : Obj) : RB w0 (wr.alloc o) a m c out := ⟨h.own.alloc o, bnew h.bel o⟩
theorem RB.app (h : RB w0 wr a m c out) (ho : OK fe 2 38 w0.heap.size w2 a2 m2 c2 out2) (g : Below w0.heap.size wr w2) : RB w0 w2 a2 m2 c2 out2 := ⟨ho, h.bel.trans g⟩
theorem RB.rk (h : RB w0 wr a m c out) : RK fe 2 wr a m c out := h.own.rk eF
theorem RB.sz (h : RB w0 wr a m c out) : w0.heap.size ≤ wr.heap.size := h.bel.size
end

set_option maxHeartbeats 2000000 in
theorem turned_any (w : World) (a : Option Addr) (n c : Nat) (l : List Fl) (s0 : Int) (u0 : Nat) (h : RK fe 2 w a n c l) (hn : n ≤ 100000) (hs : Sor l) :
    Calls Try.prog 28 #[.slice a n c, .agg #[.int .i64 s0, .int .u8 (u0 : Int)]] w fun e w' => ∃ a' m c', e = .returned (.slice a' m c') ∧ OK fe 2 38 w.heap.size w' a' m c' (turnL l (s0, u0)) ∧ Below w.heap.size w w' := by
  have HLN := hid h.len
  have HS := hid hs; clear hs
  have hw0 : ∃ w0, Hid (w.alloc (.cells #[.int .i64 s0, .int .u8 (u0 : Int)] 38) = w0) ∧ w0.heap[w.heap.size]? = some (.cells #[.int .i64 s0, .int .u8 (u0 : Int)] 38 (0, 0)) ∧ Below w.heap.size w w0 ∧ w0.heap.size = w.heap.size + 1 := ⟨_, rfl, heap_alloc_new w _, bnew0 w _, by simp⟩
  obtain ⟨w0, hw0, hbox, hb0, hsz0⟩ := hw0
  have h' := h.below hb0
  have hblt : w.heap.size < w0.heap.size := by omega
  go_enter Try.func28, Try.ntmps28
  go_wp2_with (first | (rw [hw0.out]))
  have HSZ := hid hsz0
  clear hsz0 hw0
  go_loopg [5, 6, 7] n (fun gn v p i wr => ∃ (k m : Nat) (a' : Option Addr) (c' : Nat) (out : List Fl) (put : Bool), k ≤ n ∧ gn = n - k ∧ i = .int .i64 (k : Int) ∧ p = .bool put ∧ v = .slice a' m c' ∧ m ≤ 2 * k ∧ RB w0 wr a' m c' out ∧
      out ++ (if put = true then l.drop k else turnL (l.drop k) (s0, u0)) = turnL l (s0, u0) ∧ (put = true → ∀ y ∈ l.drop k, y ≠ (s0, u0)))
  case atStart => exact ⟨0, 0, none, 0, [], false, by omega, by omega, rfl, rfl, rfl, by omega, RB.start w0, by simp, by simp⟩
  case round =>
    obtain ⟨k, m, a', c', out, put, hk, rfl, rfl, rfl, rfl, hm, hR, heq, hput⟩ := hrel
    have HEQ := hid heq; clear heq
    have HPUT := hid hput; clear hput
    have hbx := bx_below hbox hR.bel
    obtain ⟨p0, p1, p2, p3⟩ := bx hbx
    clear p2 p3
    have hgu := guF
    by_cases hlt : k < n
    · obtain ⟨b, off, s, u, rfl, hx, hbk, hc0, hc1⟩ := rf_at (h'.below hR.bel) hlt
      have HX := hid hx; clear hx
      have HD := hid (drop_one HX.out)
      by_cases hxx : (s, u) = (s0, u0)
      · obtain rfl : put = false := by
          cases put with
          | false => rfl
          | true => exact absurd hxx (HPUT.out rfl (s, u) (by rw [HD.out]; simp))
        have hq := fun w' => eqF s s0 u u0 w'
        rw [decide_eq_true hxx] at hq
        have HXX := hid hxx; clear hxx
        go_wp2
        go_quiet (fail)
        go_wp2
        go_roundg (n - (k + 1))
        case measure => omega
        case rel =>
          refine ⟨k + 1, m, a', c', out, true, by omega, rfl, by go_num, rfl, rfl, by omega, hR.drewN nq, ?_, fun _ y hy => ?_⟩
          · rw [← HEQ.out, HD.out, HXX.out]; simp [turnL]
          · have hs := sor_drop HS.out k
            rw [HD.out, sor_cons] at hs
            rw [← HXX.out]
            exact fun e => ltF_ne (hs.1 y hy) e.symm
      · have hq := fun w' => eqF s s0 u u0 w'
        rw [decide_eq_false hxx] at hq
        have HXX := hid hxx; clear hxx
        cases put
        · cases hlt2 : ltF (s0, u0) (s, u)
          · have HLT := hid hlt2; clear hlt2
            go_wp2
            go_quiet (fail)
            have hRd := hR.drewN nq
            clear hc0 hc1 p0 p1 hbx hR hbk
            generalize wr.drewN nq = wd at *
            have hbx := bx_below hbox hRd.bel
            obtain ⟨p0, p1, p2, p3⟩ := bx hbx
            obtain ⟨b', off', s', u', e', hx', hbk, hc0, hc1⟩ := rf_at (h'.below hRd.bel) hlt
            cases e'
            obtain ⟨rfl, rfl⟩ : s' = s ∧ u' = u := by have := HX.out; rw [hx'] at this; simpa using this
            have hd0 := cell_regrown hc0
            have hd1 := cell_regrown hc1
            have hd2 := cell_regrown p0
            have hd3 := cell_regrown p1
            have k2 : ∀ d os, Calls Try.prog 29 #[.agg #[.int .i64 s0, .int .u8 (u0 : Int)], .agg #[.int .i64 s', .int .u8 (u' : Int)]] (grow (redrawn wd d) os) fun e w'' => e = .returned (.bool false) ∧ ∃ p : Regrown, w'' = grow (redrawn wd p.d) p.os := fun d os => by
              have := less_any (grow (redrawn wd d) os) s0 s' u0 u'
              rw [HLT.out] at this
              exact Calls.regrown_of this
            clear hc0 hc1 p0 p1 p2 p3 hx' hbk hq
            go_wp2
            refine wp_region_quiet_below (by kernel_rfl) (by kernel_rfl) ?_
            repeat (go_big_quiet_step (first | (go_at_call 29; with_reducible exact k2 _ _)))
            refine wpQuiet_nil ?_
            intro w9 hw9
            have g9 : Below wd.heap.size wd w9 := by obtain ⟨p9, rfl⟩ := hw9; exact below_regrown _ _ _
            clear hw9 k2 hd0 hd1 hd2 hd3
            have hR9 := hRd.call g9
            clear hRd hbx
            obtain ⟨b', off', s2, u2, e', hx', hbk, hc0, hc1⟩ := rf_at (h'.below hR9.bel) hlt
            cases e'
            obtain ⟨rfl, rfl⟩ : s2 = s' ∧ u2 = u' := by have := HX.out; rw [hx'] at this; simpa using this
            clear hx'
            have hsz9 := hR9.sz
            go_wp2_with (at_builtin; refine wpList_appK (enc := fe) tF eF rfl _ _ rfl rfl (hR9.own.alloc _) rfl (lit1F w9 s2 u2) (by omega) (by omega) (by simp; omega) ?_; intro w10 a10 c10 hol10 hb10)
            go_roundg (n - (k + 1))
            case measure => omega
            case rel =>
              refine ⟨k + 1, m + 1, a10, c10, out ++ [(s2, u2)], false, by omega, rfl, by go_num, rfl, by go_num, by omega, (hR9.alloc _).app hol10 hb10, ?_, fun e => by cases e⟩
              rw [← HEQ.out, HD.out]
              have e1 : (s2, u2) ≠ (s0, u0) := HXX.out
              simp [turnL, HLT.out, e1]
          · have HLT := hid hlt2; clear hlt2
            go_wp2
            go_quiet (fail)
            have hRd := hR.drewN nq
            clear hc0 hc1 p0 p1 hbx hR hbk
            generalize wr.drewN nq = wd at *
            have hbx := bx_below hbox hRd.bel
            obtain ⟨p0, p1, p2, p3⟩ := bx hbx
            obtain ⟨b', off', s', u', e', hx', hbk, hc0, hc1⟩ := rf_at (h'.below hRd.bel) hlt
            cases e'
            obtain ⟨rfl, rfl⟩ : s' = s ∧ u' = u := by have := HX.out; rw [hx'] at this; simpa using this
            have hd0 := cell_regrown hc0
            have hd1 := cell_regrown hc1
            have hd2 := cell_regrown p0
            have hd3 := cell_regrown p1
            have k2 : ∀ d os, Calls Try.prog 29 #[.agg #[.int .i64 s0, .int .u8 (u0 : Int)], .agg #[.int .i64 s', .int .u8 (u' : Int)]] (grow (redrawn wd d) os) fun e w'' => e = .returned (.bool true) ∧ ∃ p : Regrown, w'' = grow (redrawn wd p.d) p.os := fun d os => by
              have := less_any (grow (redrawn wd d) os) s0 s' u0 u'
              rw [HLT.out] at this
              exact Calls.regrown_of this
            clear hc0 hc1 p0 p1 p2 p3 hx' hbk hq
            go_wp2
            refine wp_region_quiet_below (by kernel_rfl) (by kernel_rfl) ?_
            repeat (go_big_quiet_step (first | (go_at_call 29; with_reducible exact k2 _ _)))
            refine wpQuiet_nil ?_
            intro w9 hw9
            have g9 : Below wd.heap.size wd w9 := by obtain ⟨p9, rfl⟩ := hw9; exact below_regrown _ _ _
            clear hw9 k2 hd0 hd1 hd2 hd3
            have hR9 := hRd.call g9
            clear hRd hbx
            have hbx := bx_below hbox hR9.bel
            obtain ⟨p0, p1, p2, p3⟩ := bx hbx
            clear p2 p3
            have hsz9 := hR9.sz
            have HAT : Hid (∀ w10, Below w0.heap.size w0 w10 → ∃ (s2 : Int) (u2 : Nat), w10.cell? ⟨b, off + k * 2, none⟩ = some (.int .i64 s2) ∧ w10.cell? ⟨b, off + k * 2 + 1, none⟩ = some (.int .u8 (u2 : Int)) ∧ l[k]? = some (s2, u2)) := fun w10 g => by
              obtain ⟨b', off', s2, u2, e', hx', hbk, hc0, hc1⟩ := rf_at (h'.below g) hlt
              cases e'
              exact ⟨s2, u2, hc0, hc1, hx'⟩
            go_wp2_with (first | (at_builtin; refine wpList_appK (o := ⟨some 33, _, _, _, _, _⟩) (enc := fe) tF eF rfl _ _ rfl rfl (hR9.own.alloc _) rfl (lit1F w9 s0 u0) (by omega) (by omega) (by simp; omega) ?_; intro w10 a10 c10 hol10 hb10; have hR10 := (hR9.alloc _).app hol10 hb10; clear hR9 hbx p0 p1 hsz9 hol10 hb10; have hsz10 := hR10.sz; obtain ⟨s2, u2, hc0, hc1, hx'⟩ := HAT.out w10 hR10.bel; obtain ⟨rfl, rfl⟩ : s2 = s' ∧ u2 = u' := (by have := HX.out; rw [hx'] at this; simpa using this); clear hx') | (at_builtin; refine wpList_appK (o := ⟨some 40, _, _, _, _, _⟩) (enc := fe) tF eF rfl _ _ rfl rfl (hR10.own.alloc _) rfl (lit1F w10 s2 u2) (by omega) (by omega) (by simp; omega) ?_; intro w11 a11 c11 hol11 hb11; have hR11 := (hR10.alloc _).app hol11 hb11; clear hR10 hc0 hc1 hol11 hb11))
            go_roundg (n - (k + 1))
            case measure => omega
            case rel =>
              refine ⟨k + 1, m + 1 + 1, a11, c11, out ++ [(s0, u0)] ++ [(s2, u2)], true, by omega, rfl, by go_num, rfl, by go_num, by omega, hR11, ?_, fun _ y hy => ?_⟩
              · rw [← HEQ.out, HD.out]
                have e1 : (s2, u2) ≠ (s0, u0) := HXX.out
                simp [turnL, HLT.out, e1]
              · have hs := sor_drop HS.out k
                rw [HD.out, sor_cons] at hs
                exact fun e => ltF_ne (ltF_trans HLT.out (hs.1 y hy)) e.symm
        · go_wp2
          go_quiet (fail)
          have hRd := hR.drewN nq
          clear hc0 hc1 p0 p1 hbx hR hbk
          generalize wr.drewN nq = wd at *
          go_wp2
          go_quiet (fail)
          have hR9 := hRd.drewN nq
          clear hRd
          generalize wd.drewN nq = w9 at *
          obtain ⟨b', off', s2, u2, e', hx', hbk, hc0, hc1⟩ := rf_at (h'.below hR9.bel) hlt
          cases e'
          obtain ⟨rfl, rfl⟩ : s2 = s ∧ u2 = u := by have := HX.out; rw [hx'] at this; simpa using this
          clear hx'
          have hsz9 := hR9.sz
          go_wp2_with (at_builtin; refine wpList_appK (enc := fe) tF eF rfl _ _ rfl rfl (hR9.own.alloc _) rfl (lit1F w9 s2 u2) (by omega) (by omega) (by simp; omega) ?_; intro w10 a10 c10 hol10 hb10)
          go_roundg (n - (k + 1))
          case measure => omega
          case rel =>
            refine ⟨k + 1, m + 1, a10, c10, out ++ [(s2, u2)], true, by omega, rfl, by go_num, rfl, by go_num, by omega, (hR9.alloc _).app hol10 hb10, ?_, fun _ y hy => HPUT.out (by first | rfl | trivial) y (by rw [HD.out]; simp [hy])⟩
            rw [← HEQ.out, HD.out]
            simp
    · have HN := hid (show l.drop k = [] from List.drop_of_length_le (by rw [HLN.out]; omega))
      have hsz := hR.sz
      cases put
      · go_wp2_with (at_builtin; refine wpList_appK (enc := fe) tF eF rfl _ _ rfl rfl (hR.own.alloc _) rfl (lit1F wr s0 u0) (by omega) (by omega) (by simp; omega) ?_; intro w10 a10 c10 hol10 hb10)
        go_ret
        have hR10 := (hR.alloc _).app hol10 hb10
        refine ⟨a10, m + 1, c10, rfl, ?_, hb0.trans (hR10.bel.mono (by omega))⟩
        rw [← HEQ.out, HN.out]
        exact hR10.own.mono (by omega)
      · go_wp2
        go_ret
        refine ⟨a', m, c', rfl, ?_, hb0.trans (hR.bel.mono (by omega))⟩
        have := HEQ.out
        rw [HN.out] at this
        simp at this
        rw [← this]
        exact hR.own.mono (by omega)
end Go.Proofs.Ytoeeaohgihipgaa
