/-
  Contracts: what is there an odd number of times.
-/
import Derived.Test.YtoeeaohgihipgaaB5n
import Derived.WalkMore
namespace Go.Proofs.Ytoeeaohgihipgaa
open Go.RowKit Go.Sort
set_option linter.unusedVariables false

theorem one_box {w : World} {g : Nat} {E : TypeId} {v : Value} (h : w.heap[g]? = some (.cells #[v] E (0, 0))) : w.cell? ⟨g, 0, none⟩ = some v ∧ w.frozen? ⟨g, 0, none⟩ = false :=
  ⟨by rw [cell_of_row w g 0 _ _ _ h]; rfl, frozen_of_row w g 0 _ _ h⟩

/-- Behind the clone: the row of its own, and the two boxes. -/
structure OddS (w w2 : World) (a1 : Option Addr) (n c1 : Nat) (l : List Fl) : Prop where
  own : OK fe 2 38 (w.heap.size + 2) w2 a1 n c1 l
  bo : w2.heap[w.heap.size]? = some (.cells #[.func (.func 31) #[] #[]] 49 (0, 0))
  bl : w2.heap[w.heap.size + 1]? = some (.cells #[.slice a1 n c1] 22 (0, 0))
  bel : Below w.heap.size w w2

/-- Behind the sort. -/
structure OddT (w w2 : World) (a1 : Option Addr) (n c1 : Nat) (l : List Fl) : Prop where
  rk : RK fe 2 w2 a1 n c1 (srt l)
  bo : w2.heap[w.heap.size]? = some (.cells #[.func (.func 31) #[] #[]] 49 (0, 0))
  bl : w2.heap[w.heap.size + 1]? = some (.cells #[.slice a1 n c1] 22 (0, 0))
  bel : Below w.heap.size w w2

theorem odd_set {w w0 w1 : World} {a a1 : Option Addr} {n c c1 : Nat} {l : List Fl} (h0 : w0.heap.size = w.heap.size + 2) (hb0 : Below w.heap.size w w0) (h1 : OK fe 2 38 w0.heap.size w1 a1 n c1 l) (g1 : Below w0.heap.size w0 w1)
    (hbo : w1.heap[w.heap.size]? = some (.cells #[.func (.func 31) #[] #[]] 49 (0, 0))) (hbl : w1.heap[w.heap.size + 1]? = some (.cells #[.slice a n c] 22 (0, 0))) :
    OddS w (w1.setCell ⟨w.heap.size + 1, 0, none⟩ (.slice a1 n c1)) a1 n c1 l := by
  rw [h0] at h1 g1
  refine ⟨h1.kept fun g hg => ?_, ?_, ?_, ?_⟩
  · have := h1.ltB hg
    simp only at this
    exact heap_setCell_other _ _ _ _ (by simp only; omega)
  · rw [heap_setCell_other _ _ _ _ (by simp only; omega)]; exact hbo
  · have := heap_setCell_same w1 (w.heap.size + 1) 0 _ _ (.slice a1 n c1) hbl
    exact this
  · exact (hb0.trans (g1.mono (by omega))).setCell (by simp) _

theorem odd_sorted {w w2 w3 : World} {a1 : Option Addr} {n c1 : Nat} {l : List Fl} (h : OddS w w2 a1 n c1 l) (hr : RK fe 2 w3 a1 n c1 (srt l)) (hk : ∀ k, k < w2.heap.size → (∀ g, a1 = some ⟨g, 0, none⟩ → k ≠ g) → w3.heap[k]? = w2.heap[k]?) (hb : Below (w.heap.size + 2) w2 w3) : OddT w w3 a1 n c1 l := by
  have hne : ∀ k, k < w.heap.size + 2 → ∀ g, a1 = some ⟨g, 0, none⟩ → k ≠ g := fun k hk g hg => by
    have := h.own.ltB hg
    simp only at this
    omega
  have l0 := bx_lt h.bo
  have l1 := bx_lt h.bl
  exact ⟨hr, by rw [hk _ l0 (hne _ (by omega))]; exact h.bo, by rw [hk _ l1 (hne _ (by omega))]; exact h.bl, h.bel.trans (hb.mono (by omega))⟩

/-- The flip at i is there again behind it. -/
def twinB (s : List Fl) (i : Nat) : Bool := match s[i]?, s[i + 1]? with
  | some x, some y => decide (x = y)
  | _, _ => false

theorem twin_true {s : List Fl} {i : Nat} (h : twinB s i = true) : i + 1 < s.length ∧ oddR (s.drop i) = oddR (s.drop (i + 2)) := by
  unfold twinB at h
  cases hx : s[i]? with
  | none => rw [hx] at h; cases h
  | some x =>
    cases hy : s[i + 1]? with
    | none => rw [hx, hy] at h; cases h
    | some y =>
      rw [hx, hy] at h
      have e : x = y := by simpa using h
      subst e
      exact ⟨(List.getElem?_eq_some_iff.1 hy).1, oddR_twin hx hy⟩

theorem twin_false {s : List Fl} {i : Nat} {x : Fl} (hx : s[i]? = some x) (h : twinB s i = false) : oddR (s.drop i) = [x] ++ oddR (s.drop (i + 1)) := by
  unfold twinB at h
  cases hy : s[i + 1]? with
  | none => exact oddR_last hx (List.getElem?_eq_none_iff.1 hy)
  | some y =>
    rw [hx, hy] at h
    exact oddR_lone hx hy (by simpa using h)

theorem twin_any {w w2 wi : World} {a1 : Option Addr} {n c1 : Nat} {l : List Fl} (hT : OddT w w2 a1 n c1 l) (hb : Below w2.heap.size w2 wi) (i : Nat) (hi : i < n) (hn : n ≤ 1000000) {b : Bool} (hv : twinB (srt l) i = b) :
    Calls Try.prog 37 #[.int .i64 (i : Int), .pointer (some ⟨w.heap.size + 1, 0, none⟩), .pointer (some ⟨w.heap.size, 0, none⟩)] wi fun e w' => e = .returned (.bool b) ∧ Below wi.heap.size wi w' := by
  have cl := (one_box (bx_below hT.bl hb)).1
  have co := (one_box (bx_below hT.bo hb)).1
  by_cases h1 : i + 1 < n
  · have hr := hT.rk.below hb
    have hlen : (srt l).length = n := hr.len
    obtain ⟨x, hx⟩ : ∃ x, (srt l)[i]? = some x := ⟨_, List.getElem?_eq_getElem (by omega)⟩
    obtain ⟨y, hy⟩ : ∃ y, (srt l)[i + 1]? = some y := ⟨_, List.getElem?_eq_getElem (by omega)⟩
    have hb' : b = decide (x = y) := by rw [← hv]; unfold twinB; rw [hx, hy]
    rw [hb']
    exact twin_at wi _ _ a1 n c1 (srt l) i x y hn hr hx hy cl co
  · have hb' : b = false := by
      rw [← hv]
      unfold twinB
      rw [List.getElem?_eq_none (i := i + 1) (by rw [hT.rk.len]; omega)]
      cases (srt l)[i]? <;> rfl
    rw [hb']
    exact twin_no wi _ _ a1 n c1 i hn (by omega) (by omega) cl co

set_option maxHeartbeats 4000000 in
theorem odd_any (w : World) (a : Option Addr) (n c : Nat) (l : List Fl) (h : RK fe 2 w a n c l) (hn : n ≤ 1000000) :
    Calls Try.prog 26 #[.agg #[.func (.func 31) #[] #[]], .slice a n c] w fun e w' => ∃ a' m c', e = .returned (.slice a' m c') ∧ OK fe 2 38 w.heap.size w' a' m c' (mkL l) ∧ Below w.heap.size w w' := by
  have hw0 : ∃ w0, Hid ((w.alloc (.cells #[.func (.func 31) #[] #[]] 49)).alloc (.cells #[.slice a n c] 22) = w0) ∧ w0.heap[w.heap.size]? = some (.cells #[.func (.func 31) #[] #[]] 49 (0, 0)) ∧ w0.heap[w.heap.size + 1]? = some (.cells #[.slice a n c] 22 (0, 0)) ∧ Below w.heap.size w w0 ∧ Hid (w0.heap.size = w.heap.size + 2) := by
    have t := two_bx (Below.refl _ ((w.alloc (.cells #[.func (.func 31) #[] #[]] 49)).alloc (.cells #[.slice a n c] 22)))
    exact ⟨_, rfl, t.1, t.2.1, t.2.2, hid (by simp)⟩
  obtain ⟨w0, hw0, hbo, hbl, hb0, HSZ⟩ := hw0
  obtain ⟨co, fo⟩ := one_box hbo
  obtain ⟨cl, fl0⟩ := one_box hbl
  have h0 := h.below hb0
  go_enter Try.func26, Try.ntmps26
  go_wp2_with (first | (rw [hw0.out]))
  clear hw0
  go_step3
  go_wp2_with (first | (go_at_call 35; with_reducible refine (clone_any w0 a n c l h0 hn).mono ?_; rintro e w1 ⟨a1, c1, rfl, hol1, g1⟩; have hbo1 := bx_below hbo g1; have hbl1 := bx_below hbl g1; clear co fo cl fl0; obtain ⟨co, fo⟩ := one_box hbo1; obtain ⟨cl, fl0⟩ := one_box hbl1; have hS := odd_set HSZ.out hb0 hol1 g1 hbo1 hbl1) | (go_at_call 36; with_reducible refine (sort_any _ a1 n c1 _ l hS.own hn).mono ?_; rintro e w3 ⟨rfl, hr3, hk3, hb3⟩; have hT := odd_sorted hS hr3 hk3 hb3; clear hr3 hk3 hb3 hS co fo cl fl0 hbo1 hbl1 hol1 g1))
  clear hbo hbl hb0 h0 HSZ
  go_step3
  go_wp2
  have hlen : (srt l).length = n := hT.rk.len
  have HL := hid hlen; clear hlen
  go_loopg [6, 7] n (fun gn v vi wr => ∃ (k m : Nat) (a' : Option Addr) (c' : Nat) (out : List Fl), k ≤ n ∧ gn = n - k ∧ vi = .int .i64 (k : Int) ∧ v = .slice a' m c' ∧ m ≤ k ∧ RB w3 wr a' m c' out ∧ out ++ oddR ((srt l).drop k) = oddR (srt l))
  case atStart => exact ⟨0, 0, none, 0, [], by omega, by omega, rfl, rfl, by omega, RB.start w3, by simp⟩
  case round =>
    obtain ⟨k, m, a', c', out, hk, rfl, rfl, rfl, hm, hR, heq⟩ := hrel
    have HEQ := hid heq; clear heq
    have cl := (one_box (bx_below hT.bl hR.bel)).1
    by_cases hlt : k < n
    · go_wp2
      clear cl
      go_loopg [7] (n - k) (fun gn vi wi => ∃ q : Nat, k ≤ q ∧ q < n ∧ gn = n - q ∧ vi = .int .i64 (q : Int) ∧ RB w3 wi a' m c' out ∧ out ++ oddR ((srt l).drop q) = oddR (srt l))
      case atStart => exact ⟨k, Nat.le_refl _, hlt, rfl, rfl, hR, HEQ.out⟩
      case round =>
        obtain ⟨q, hkq, hqn, rfl, rfl, hR', heq⟩ := hrel
        have HQ := hid heq; clear heq
        clear hR
        cases hb1 : twinB (srt l) q
        · have k1 := twin_any hT hR'.bel q hqn hn hb1
          obtain ⟨b, off, s, u, rfl, hx, hbk, hc0, hc1⟩ := rf_at (hT.rk.below hR'.bel) hqn
          have HN := hid (show out ++ [(s, u)] ++ oddR ((srt l).drop (q + 1)) = oddR (srt l) by rw [List.append_assoc, ← twin_false hx hb1]; exact HQ.out)
          have HX := hid hx
          clear hb1 hx hc0 hc1 hbk
          go_wp2_with (first | (go_at_call 37; with_reducible refine k1.mono ?_; rintro e w5 ⟨rfl, g5⟩; have hR5 := hR'.call g5; have cl := (one_box (bx_below hT.bl hR5.bel)).1; obtain ⟨b', off', s2, u2, e', hx', hbk', hc0, hc1⟩ := rf_at (hT.rk.below hR5.bel) hqn; cases e'; obtain ⟨rfl, rfl⟩ : s2 = s ∧ u2 = u := (by have := HX.out; rw [hx'] at this; simpa using this); clear hx' hR'; have hsz5 := hR5.sz) | (at_builtin; refine wpList_appK (enc := fe) tF eF rfl _ _ rfl rfl (hR5.own.alloc _) rfl (lit1F w5 s2 u2) (by omega) (by omega) (by simp; omega) ?_; intro w10 a10 c10 hol10 hb10))
          go_roundg (n - (q + 1))
          case measure => omega
          case rel => exact ⟨q + 1, m + 1, a10, c10, out ++ [(s2, u2)], by omega, rfl, by go_num, by go_num, by omega, (hR5.alloc _).app hol10 hb10, HN.out⟩
        · obtain ⟨hq1, ho1⟩ := twin_true hb1
          rw [HL.out] at hq1
          have k1 := twin_any hT hR'.bel q hqn hn hb1
          have HN := hid (show out ++ oddR ((srt l).drop (q + 2)) = oddR (srt l) by rw [← ho1]; exact HQ.out)
          clear hb1 ho1
          cases hb2 : twinB (srt l) (q + 1)
          · have k2 : ∀ w5, RB w3 w5 a' m c' out → Calls Try.prog 37 #[.int .i64 ((q : Int) + 1), .pointer (some ⟨w.heap.size + 1, 0, none⟩), .pointer (some ⟨w.heap.size, 0, none⟩)] w5 fun e w' => e = .returned (.bool false) ∧ Below w5.heap.size w5 w' := fun w5 h5 => twin_any hT h5.bel (q + 1) hq1 hn hb2
            clear hb2
            go_wp2_with (first | (go_at_call 37; with_reducible refine k1.mono ?_; rintro e w5 ⟨rfl, g5⟩; have hR5 := hR'.call g5; clear k1) | (go_at_call 37; with_reducible refine (k2 w5 hR5).mono ?_; rintro e w6 ⟨rfl, g6⟩; have hR6 := hR5.call g6))
            go_roundg (n - (q + 2))
            case measure => omega
            case rel => exact ⟨q + 2, m, a', c', out, by omega, rfl, by go_num, rfl, by omega, hR6, HN.out⟩
          · obtain ⟨hq2, _⟩ := twin_true hb2
            rw [HL.out] at hq2
            have k2 : ∀ w5, RB w3 w5 a' m c' out → Calls Try.prog 37 #[.int .i64 ((q : Int) + 1), .pointer (some ⟨w.heap.size + 1, 0, none⟩), .pointer (some ⟨w.heap.size, 0, none⟩)] w5 fun e w' => e = .returned (.bool true) ∧ Below w5.heap.size w5 w' := fun w5 h5 => twin_any hT h5.bel (q + 1) hq1 hn hb2
            clear hb2
            go_wp2_with (first | (go_at_call 37; with_reducible refine k1.mono ?_; rintro e w5 ⟨rfl, g5⟩; have hR5 := hR'.call g5; clear k1) | (go_at_call 37; with_reducible refine (k2 w5 hR5).mono ?_; rintro e w6 ⟨rfl, g6⟩; have hR6 := hR5.call g6))
            go_roundg (n - (q + 2))
            case measure => omega
            case rel => exact ⟨q + 2, by omega, by omega, rfl, by go_num, hR6, HN.out⟩
    · have HE := hid (show out = mkL l by
        have := HEQ.out
        rw [List.drop_of_length_le (by rw [HL.out]; omega)] at this
        simp [oddR] at this
        rw [this, oddR_srt])
      go_wp2
      rw [Exit.noGoto_ret]
      go_ret
      refine ⟨a', m, c', rfl, ?_, hT.bel.trans (hR.bel.mono hT.bel.size)⟩
      rw [← HE.out]
      exact hR.own.mono hT.bel.size
end Go.Proofs.Ytoeeaohgihipgaa
