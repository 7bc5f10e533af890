/-
  Contracts: the library's binary search over flips.
-/
import Derived.Test.YtoeeaohgihipgaaB5i
namespace Go.Proofs.Ytoeeaohgihipgaa
open Go.RowKit Go.Sort
set_option linter.unusedVariables false

set_option maxHeartbeats 2000000 in
theorem bsf_any (w : World) (a : Option Addr) (n c : Nat) (l : List Fl) (t : Int) (v : Nat) (h : RK fe 2 w a n c l) (hn : n ≤ 1000000) (hs : Sor l) :
    Calls Try.prog 30 #[.slice a n c, .agg #[.int .i64 t, .int .u8 (v : Int)], .func (.func 31) #[] #[]] w fun e w' => ∃ (i : Nat) (b : Bool), e = .returned (.tuple #[.int .i64 (i : Int), .bool b]) ∧ i ≤ n ∧ (∀ k x, k < i → l[k]? = some x → ltF x (t, v) = true) ∧ (∀ k x, i ≤ k → l[k]? = some x → ltF x (t, v) = false) ∧ Below w.heap.size w w' := by
  have HLN := hid h.len
  have HS := hid hs; clear hs
  have hw0 : ∃ w0, Hid (w.alloc (.cells #[.int .i64 t, .int .u8 (v : Int)] 38) = w0) ∧ w0.heap[w.heap.size]? = some (.cells #[.int .i64 t, .int .u8 (v : Int)] 38 (0, 0)) ∧ Below w.heap.size w w0 := ⟨_, rfl, heap_alloc_new w _, bnew0 w _⟩
  obtain ⟨w0, hw0, hbox, hb0⟩ := hw0
  go_enter Try.func30, Try.ntmps30
  go_wp2_with (first | (rw [hw0.out]))
  clear hw0
  go_loopg [9, 10] n (fun gn vi vj wr => ∃ (i j : Nat), i ≤ j ∧ j ≤ n ∧ gn = j - i ∧ vi = .int .i64 (i : Int) ∧ vj = .int .i64 (j : Int) ∧ (∀ k x, k < i → l[k]? = some x → ltF x (t, v) = true) ∧ (∀ k x, j ≤ k → l[k]? = some x → ltF x (t, v) = false) ∧ wr.heap[w.heap.size]? = some (.cells #[.int .i64 t, .int .u8 (v : Int)] 38 (0, 0)) ∧ Below w.heap.size w wr)
  case atStart => exact ⟨0, n, by omega, by omega, by omega, rfl, rfl, fun k x hk => by omega, fun k x hk hx => by have := (List.getElem?_eq_some_iff.1 hx).1; rw [HLN.out] at this; omega, hbox, hb0⟩
  case round =>
    obtain ⟨i, j, hij, hjn, rfl, rfl, rfl, hlo, hhi, hbx, hb⟩ := hrel
    have HLO := hid hlo; clear hlo
    have HHI := hid hhi; clear hhi
    clear hbox hb0
    have hbxc := bx hbx
    obtain ⟨p0, p1, p2, p3⟩ := hbxc
    clear p2 p3
    have hp0 := cell_regrown p0
    have hp1 := cell_regrown p1
    clear p0 p1
    by_cases hlt : i < j
    · obtain ⟨H, hH⟩ : ∃ H, H = (i + j) / 2 := ⟨_, rfl⟩
      have hH1 : i ≤ H := by omega
      have hH2 : H < j := by omega
      have hmid : ((i : Int) + (j : Int)) / 2 = (H : Int) := by omega
      clear hH
      obtain ⟨b, off, s, u, rfl, hx, hbk, hc0, hc1⟩ := rf_at (h.below hb) (k := H) (by omega)
      have HX := hid hx; clear hx
      have hc0 := cell_regrown hc0
      have hc1 := cell_regrown hc1
      have i4 : (H : Int) < (n : Int) := by omega
      have hcl := cmpF_lt (s, u) (t, v)
      have k1 : ∀ d os, Calls Try.prog 31 #[.agg #[.int .i64 s, .int .u8 (u : Int)], .agg #[.int .i64 t, .int .u8 (v : Int)]] (grow (redrawn wr d) os) fun e w'' => e = .returned (.int .i64 (cmpF (s, u) (t, v))) ∧ ∃ p : Regrown, w'' = grow (redrawn wr p.d) p.os := fun d os =>
        Calls.regrown_of ((closure_any (s, u) (t, v) _).mono fun e w' he => ⟨he.1, grown_below he.2⟩)
      generalize hcv : cmpF (s, u) (t, v) = cv at *
      clear hcv
      cases hl : ltF (s, u) (t, v)
      · rw [hl] at hcl
        have HN : Hid (∀ k x, H ≤ k → l[k]? = some x → ltF x (t, v) = false) := fun k x hk hx => by
          by_cases e : k = H
          · subst e; rw [HX.out] at hx; simp at hx; rw [← hx]; exact hl
          · have h1 := sor_get HS.out (by omega) HX.out hx
            cases h2 : ltF x (t, v) with
            | false => rfl
            | true => rw [ltF_trans h1 h2] at hl; cases hl
        clear hl
        go_wp2
        refine wp_region_quiet_below (by kernel_rfl) (by kernel_rfl) ?_
        repeat (go_big_quiet_step (first | (go_at_call 31; with_reducible exact k1 _ _)))
        refine wpQuiet_nil ?_
        intro w9 hw9
        have g9 : Below wr.heap.size wr w9 := by obtain ⟨p9, rfl⟩ := hw9; exact below_regrown _ _ _
        clear hw9 k1 hc0 hc1 hp0 hp1
        go_wp2
        go_roundg (H - i)
        case measure => omega
        case rel => exact ⟨i, H, hH1, by omega, rfl, rfl, rfl, HLO.out, HN.out, bx_below hbx g9, bstep hb g9⟩
      · rw [hl] at hcl
        have HN : Hid (∀ k x, k < H + 1 → l[k]? = some x → ltF x (t, v) = true) := fun k x hk hx => by
          by_cases e : k = H
          · subst e; rw [HX.out] at hx; simp at hx; rw [← hx]; exact hl
          · exact ltF_trans (sor_get HS.out (by omega) hx HX.out) hl
        clear hl
        go_wp2
        refine wp_region_quiet_below (by kernel_rfl) (by kernel_rfl) ?_
        repeat (go_big_quiet_step (first | (go_at_call 31; with_reducible exact k1 _ _)))
        refine wpQuiet_nil ?_
        intro w9 hw9
        have g9 : Below wr.heap.size wr w9 := by obtain ⟨p9, rfl⟩ := hw9; exact below_regrown _ _ _
        clear hw9 k1 hc0 hc1 hp0 hp1
        go_wp2
        go_roundg (j - (H + 1))
        case measure => omega
        case rel => exact ⟨H + 1, j, by omega, hjn, rfl, by go_num, rfl, HN.out, HHI.out, bx_below hbx g9, bstep hb g9⟩
    · obtain rfl : j = i := by omega
      by_cases hjn' : j < n
      · obtain ⟨b, off, s, u, rfl, hx, hbk, hc0, hc1⟩ := rf_at (h.below hb) (k := j) (by omega)
        have hc0 := cell_regrown hc0
        have hc1 := cell_regrown hc1
        have k1 : ∀ d os, Calls Try.prog 31 #[.agg #[.int .i64 s, .int .u8 (u : Int)], .agg #[.int .i64 t, .int .u8 (v : Int)]] (grow (redrawn wr d) os) fun e w'' => e = .returned (.int .i64 (cmpF (s, u) (t, v))) ∧ ∃ p : Regrown, w'' = grow (redrawn wr p.d) p.os := fun d os =>
          Calls.regrown_of ((closure_any (s, u) (t, v) _).mono fun e w' he => ⟨he.1, grown_below he.2⟩)
        have i4 : (j : Int) < (n : Int) := by omega
        clear hx
        generalize cmpF (s, u) (t, v) = cv at *
        go_wp2
        refine wp_region_quiet_below (by kernel_rfl) (by kernel_rfl) ?_
        repeat (go_big_quiet_step (first | (go_at_call 31; with_reducible exact k1 _ _)))
        refine wpQuiet_nil ?_
        intro w9 hw9
        have g9 : Below wr.heap.size wr w9 := by obtain ⟨p9, rfl⟩ := hw9; exact below_regrown _ _ _
        clear hw9 k1 hc0 hc1 hp0 hp1
        go_wp2
        go_ret2
        exact ⟨j, _, rfl, hjn, HLO.out, HHI.out, bstep hb g9⟩
      · go_wp2
        refine wp_region_quiet_below (by kernel_rfl) (by kernel_rfl) ?_
        repeat (go_big_quiet_step (fail))
        refine wpQuiet_nil ?_
        intro w9 hw9
        have g9 : Below wr.heap.size wr w9 := by obtain ⟨p9, rfl⟩ := hw9; exact below_regrown _ _ _
        clear hw9 hp0 hp1
        go_wp2
        go_ret2
        exact ⟨j, _, rfl, hjn, HLO.out, HHI.out, bstep hb g9⟩
end Go.Proofs.Ytoeeaohgihipgaa
