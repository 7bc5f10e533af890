/-
  Contracts of the document's Head.
-/
import Derived.Test.YthpgcgkgokfnpaaB4n
namespace Go.Proofs.Ythpgcgkgokfnpaa
open Go.RowKit Go.Sort
set_option linter.unusedVariables false

theorem refRead_any (w : World) (a : Option Addr) (n c : Nat) (l : List Bool) (h : RL .bool w a n c l) (hn : n ≤ 100000) (hk : hdK l = true) :
    Calls Try.prog 53 #[.slice a n c] w fun e w' => e = .returned (.tuple #[.agg #[.int .u32 ((reF l).id : Int), .bool (reF l).ext, .bool (reF l).rem, .int .u8 ((reF l).dlc : Int), .slice none 0 0], .int .i64 (heM l : Int)]) ∧ Below w.heap.size w w' := by
  unfold hdK at hk
  simp only [Bool.and_eq_true, decide_eq_true_eq, Bool.or_eq_true, Bool.not_eq_true'] at hk
  obtain ⟨h19, hk⟩ := hk
  obtain ⟨x, hx⟩ : ∃ x, l[13]? = some x := ⟨l[13], by simp⟩
  unfold reF heM
  rw [hx] at hk ⊢
  cases x
  · exact refRead_base w a n c l h hn (by rw [← h.len]; exact h19) hx
  · simp at hk
    exact refRead_ext w a n c l h hn (by rw [← h.len]; exact hk) hx

theorem refHd_none (w : World) (a : Option Addr) (n c : Nat) (l : List Bool) (h : RL .bool w a n c l) (hn : n ≤ 100000) (hk : hdK l = false) :
    Calls Try.prog 38 #[.slice a n c] w fun e w' => e = .returned (.tuple #[.int .i64 0, .bool false]) ∧ Below w.heap.size w w' := by
  unfold hdK at hk
  rw [h.len] at hk
  by_cases h19 : n < 19
  · go_enter Try.func38, Try.ntmps38
    go_wp2
    go_ret2
    exact ⟨rfl, Below.refl _ _⟩
  · obtain ⟨b, off, x, rfl, hx, hck⟩ := h.at (k := 13) (by omega)
    rw [hx] at hk
    clear hx
    have i1 : 13 < n := by omega
    cases x
    · simp at hk; omega
    · simp at hk
      have i2 : n < 39 := by omega
      go_enter Try.func38, Try.ntmps38
      go_wp2
      go_ret2
      exact ⟨rfl, Below.refl _ _⟩

theorem refHd_any (w : World) (a : Option Addr) (n c : Nat) (l : List Bool) (h : RL .bool w a n c l) (hn : n ≤ 100000) (hk : hdK l = true) :
    Calls Try.prog 38 #[.slice a n c] w fun e w' => e = .returned (.tuple #[.int .i64 (hdN l : Int), .bool true]) ∧ Below w.heap.size w w' := by
  have hf := fun w0 h0 => refRead_any w0 a n c l h0 hn hk
  obtain ⟨q1, q2⟩ := reF_lt l
  obtain ⟨q, hq⟩ : ∃ q, q = lonF (reF l).rem (reF l).dlc := ⟨_, rfl⟩
  have hlo := fun w0 => refLong_any w0 (reF l).id (reF l).ext (reF l).rem (reF l).dlc none 0 0 (by omega)
  have hq8 := lonF_le (reF l).rem (reF l).dlc
  rw [← hq] at hlo hq8
  have HQ : Hid (hdN l = heM l + 8 * q + 15) := by show _ = _; rw [hq]; rfl
  rw [HQ.out]
  clear hq
  obtain ⟨fr, hfr⟩ : ∃ fr, fr = reF l := ⟨_, rfl⟩
  rw [← hfr] at hf hlo
  obtain ⟨id, ext, rem, dlc, dat⟩ := fr
  dsimp only at hf hlo
  obtain ⟨M, hM⟩ : ∃ M, M = heM l := ⟨_, rfl⟩
  rw [← hM] at hf ⊢
  have hM39 : M ≤ 39 := by rw [hM]; unfold heM; split <;> omega
  clear hfr q1 q2 HQ hM
  unfold hdK at hk
  rw [h.len] at hk
  have h19 : 19 ≤ n := by simp at hk; omega
  obtain ⟨b, off, x, rfl, hx, hck⟩ := h.at (k := 13) (by omega)
  rw [hx] at hk
  clear hx
  have hf' := hf w h
  clear hf
  have i1 : 13 < n := by omega
  cases x
  all_goals
    simp only [Option.getD_some, Bool.not_true, Bool.false_or, Bool.and_eq_true, decide_eq_true_eq] at hk
    (first | (have h39 := hk.2) | skip)
    clear hk
    go_enter Try.func38, Try.ntmps38
    go_wp2_with (first
      | (go_at_call 53; (with_reducible refine hf'.mono ?_); rintro e w2 ⟨rfl, g2⟩)
      | (go_at_call 62; refine (hlo _).mono ?_; rintro e w3 ⟨rfl, g3⟩))
    go_ret2
    exact ⟨by first | rfl | (congr 4; done) | (congr 4; push_cast; omega), bstep (bnew g2 _) g3⟩
end Go.Proofs.Ythpgcgkgokfnpaa
