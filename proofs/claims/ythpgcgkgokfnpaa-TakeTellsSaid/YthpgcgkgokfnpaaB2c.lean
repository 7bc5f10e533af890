/-
  Contracts of the document's own answers of layer 2.
-/
import Derived.Test.YthpgcgkgokfnpaaB2b
import Derived.WalkSmall
namespace Go.Proofs.Ythpgcgkgokfnpaa
open Go.RowKit
set_option linter.unusedVariables false

theorem rep_of {l : List Bool} {b : Bool} {n : Nat} (hn : n ≤ l.length) (h : ∀ j, j < n → l[l.length - 1 - j]? = some b) : l.drop (l.length - n) = List.replicate n b := by
  apply List.ext_getElem?
  intro i
  rw [List.getElem?_drop, List.getElem?_replicate]
  by_cases hi : i < n
  · rw [if_pos hi]
    have := h (n - 1 - i) (by omega)
    rw [← this]; congr 1; omega
  · rw [if_neg hi, List.getElem?_eq_none (by omega)]

/-- What looking back from the end finds: n bits alike, and then the begin, or five of them, or another one. -/
theorem rowL_at {l : List Bool} {b : Bool} {n : Nat} (hn : n ≤ l.length) (h1 : 1 ≤ n) (h5 : n ≤ 5) (h : ∀ j, j < n → l[l.length - 1 - j]? = some b) (hs : n = 5 ∨ n = l.length ∨ l[l.length - 1 - n]? = some (!b)) : rowL l = (b, n) := by
  have e : l = l.take (l.length - n) ++ List.replicate n b := by rw [← rep_of hn h, List.take_append_drop]
  rw [e]
  refine rowL_back _ b n h1 h5 ?_
  rcases hs with hs | hs | hs
  · exact .inl hs
  · exact .inr (.inl (by rw [hs]; simp))
  · refine .inr (.inr ⟨l.take (l.length - n - 1), ?_⟩)
    have hlt : l.length - 1 - n < l.length := (List.getElem?_eq_some_iff.1 hs).1
    by_cases hz : n = l.length
    · have h0 := h (n - 1) (by omega)
      rw [show l.length - 1 - (n - 1) = l.length - 1 - n from by omega, hs] at h0
      cases b <;> simp at h0
    · rw [show l.length - n = l.length - n - 1 + 1 from by omega]
      exact take_snoc (by rw [← hs]; congr 1; omega)

theorem row_any (w : World) (a : Option Addr) (n c : Nat) (l : List Bool) (h : RL .bool w a n c l) (hn : n ≤ 1000000) :
    Calls Try.prog 63 #[.slice a n c] w fun e w' => e = .returned (.agg #[.bool (rowL l).1, .int .u8 ((rowL l).2 : Int)]) ∧ Below w.heap.size w w' := by
  by_cases h0 : n = 0
  · subst h0
    obtain rfl : l = [] := List.eq_nil_of_length_eq_zero h.len
    go_enter Try.func63, Try.ntmps63
    go_wp2
    go_loopw [3, 4] (fun v i wr => v = .int .i64 0 ∧ i = .int .i64 (-1) ∧ wr.heap[w.heap.size]? = some (.cells #[.bool false, .int .u8 0] 27 (0, 0)) ∧ Below w.heap.size w wr) (fun _ i _ => (intOf i + 1).toNat)
    case atStart => exact ⟨rfl, rfl, heap_alloc_new _ _, bnew0 _ _⟩
    case round =>
      obtain ⟨rfl, rfl, hbx, hb⟩ := hrel
      obtain ⟨c0, c1, f0, f1⟩ := bx hbx
      go_wp2
      exact bodyPost_ret (v := .agg #[.bool false, .int .u8 0]) (by simp [results, Try.results63, go_sem, c0, c1]) rfl ⟨rfl, (hb.setCell (by simp) _).setCell (by simp) _⟩
  · obtain ⟨N, rfl⟩ : ∃ N, n = N + 1 := ⟨n - 1, by omega⟩
    obtain ⟨b, off, x, rfl, hx, hck⟩ := h.at (k := N) (by omega)
    have HX := hid hx; clear hx
    go_enter Try.func63, Try.ntmps63
    go_wp2
    go_loopw [3, 4] (fun v i wr => ∃ (k : Nat) (J : Int), v = .int .i64 (k : Int) ∧ i = .int .i64 J ∧ J = (N : Int) - (k : Int) ∧ k ≤ N + 1 ∧ k ≤ 5 ∧ (∀ j, j < k → l[N - j]? = some x) ∧ wr.heap[w.heap.size]? = some (.cells #[.bool false, .int .u8 0] 27 (0, 0)) ∧ Below w.heap.size w wr) (fun _ i _ => (intOf i + 1).toNat)
    case atStart => exact ⟨0, (N : Int), rfl, by simp, by simp, by omega, by omega, fun j hj => by omega, heap_alloc_new _ _, bnew0 _ _⟩
    case round =>
      obtain ⟨k, J, rfl, rfl, hJ, hkN, hk5, hall, hbx, hb⟩ := hrel
      have HA := hid hall; clear hall
      have hrr := h.below hb
      obtain ⟨_, _, x', e1, hx', hck'⟩ := hrr.at (k := N) (by omega)
      cases e1
      have e2 : x' = x := by rw [HX.out] at hx'; simpa using hx'.symm
      subst e2
      clear hx'
      obtain ⟨c0, c1, f0, f1⟩ := bx hbx
      by_cases hlt : k < N + 1 ∧ k < 5
      · obtain ⟨hl1, hl2⟩ := hlt
        obtain ⟨j, rfl⟩ := Int.eq_ofNat_of_zero_le (a := J) (by omega)
        obtain ⟨_, _, y, e1, hy, hyk⟩ := hrr.at (k := j) (by omega)
        cases e1
        have HY := hid hy; clear hy
        have HJ := hid hJ; clear hJ
        have b1 : (j : Int) < (N : Int) + 1 := by have := HJ.out; omega
        have b2 : (N : Int) < (N : Int) + 1 := by omega
        go_wp2
        go_quiet (fail)
        have hbx2 : (wr.drewN nq).heap[w.heap.size]? = some (.cells #[.bool false, .int .u8 0] 27 (0, 0)) := by simpa using hbx
        have hb2 : Below w.heap.size w (wr.drewN nq) := below_drewN hb nq
        by_cases hxy : y = x'
        · subst hxy
          have HXX := hid HX
          clear HX
          cases y
          all_goals
            go_wp2
            go_roundw
            case rel =>
              exact ⟨k + 1, (j : Int) - 1, by go_num, by go_num, by have := HJ.out; omega, by omega, by omega, fun i hi => by
                by_cases hik : i = k
                · subst hik; rw [← HY.out]; congr 1; have := HJ.out; omega
                · exact HA.out i (by omega), hbx2, hb2⟩
            case measure => first | (simp [intOf]; done) | (simp [intOf]; omega)
        · have hk1 : 1 ≤ k := by
            rcases Nat.eq_zero_or_pos k with e | e
            · subst e
              have e3 : j = N := by have := HJ.out; omega
              subst e3
              rw [HY.out] at HX
              exact absurd (by simpa using HX.out) hxy
            · exact e
          have hrow : Hid (rowL l = (x', k)) := by
            have hl := h.len
            refine rowL_at (by omega) hk1 hk5 (fun i hi => ?_) (.inr (.inr ?_))
            · rw [← HA.out i hi]; congr 1; omega
            · rw [show l.length - 1 - k = j from by have := HJ.out; omega, HY.out]
              cases y <;> cases x' <;> simp_all
          have hk0 : ((k : Int) == 0) = false := by simp; omega
          cases y <;> cases x'
          all_goals first | (exact absurd rfl hxy) | skip
          · go_wp2
            exact bodyPost_ret (v := .agg #[.bool true, .int .u8 (k : Int)]) (by simp [results, Try.results63, go_sem, c0, c1]) rfl ⟨by rw [hrow.out], (hb2.setCell (by simp) _).setCell (by simp) _⟩
          · go_wp2
            exact bodyPost_ret (v := .agg #[.bool false, .int .u8 (k : Int)]) (by simp [results, Try.results63, go_sem, c0, c1]) rfl ⟨by rw [hrow.out], (hb2.setCell (by simp) _).setCell (by simp) _⟩
      · have hk1 : 1 ≤ k := by omega
        have hrow : Hid (rowL l = (x', k)) := by
          have hl := h.len
          refine rowL_at (by omega) hk1 hk5 (fun i hi => ?_) ?_
          · rw [← HA.out i hi]; congr 1; omega
          · by_cases hk55 : k = 5
            · exact .inl hk55
            · exact .inr (.inl (by omega))
        have b2 : (N : Int) < (N : Int) + 1 := by omega
        have hk0 : ((k : Int) == 0) = false := by simp; omega
        have hjj : 0 ≤ J → ¬ ((k : Int) < 5) := by omega
        by_cases hJ0 : 0 ≤ J
        · have h5 := hjj hJ0
          clear hJ hjj hlt
          go_wp2
          exact bodyPost_ret (v := .agg #[.bool x', .int .u8 (k : Int)]) (by simp [results, Try.results63, go_sem, c0, c1]) rfl ⟨by rw [hrow.out], (hb.setCell (by simp) _).setCell (by simp) _⟩
        · clear hJ hjj hlt
          go_wp2
          exact bodyPost_ret (v := .agg #[.bool x', .int .u8 (k : Int)]) (by simp [results, Try.results63, go_sem, c0, c1]) rfl ⟨by rw [hrow.out], (hb.setCell (by simp) _).setCell (by simp) _⟩
end Go.Proofs.Ythpgcgkgokfnpaa
