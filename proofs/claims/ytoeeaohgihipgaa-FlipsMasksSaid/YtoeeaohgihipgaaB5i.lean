/-
  Contracts: the document's Mask.
-/
import Derived.Test.YtoeeaohgihipgaaB5h
import Derived.Test.YtoeeaohgihipgaaM5c
namespace Go.Proofs.Ytoeeaohgihipgaa
open Go.RowKit Go.Sort
set_option linter.unusedVariables false

theorem refMask_any (w : World) (a : Option Addr) (n c : Nat) (l : List Fl) (t : Int) (h : RK fe 2 w a n c l) (hn : n ≤ 1000000) (hs : Sor l) (hf : AllF l) :
    Calls Try.prog 17 #[.slice a n c, .int .i64 t] w fun e w' => e = .returned (.int .u32 (maskL l t : Int)) ∧ w = w' := by
  have HLN := hid h.len
  have HS := hid hs; clear hs
  have HF := hid hf; clear hf
  go_enter Try.func17, Try.ntmps17
  go_wp2
  go_loop [5, 6] (fun v i => ∃ (k m : Nat), k ≤ n ∧ i = .int .i64 (k : Int) ∧ v = .int .u32 (m : Int) ∧ m = maskL (l.take k) t) (fun _ i => n - (intOf i).toNat)
  case atStart => exact ⟨0, 0, by omega, rfl, rfl, by simp [maskL]⟩
  case round =>
    obtain ⟨k, m, hk, rfl, rfl, hm⟩ := hrel
    have HM := hid hm; clear hm
    by_cases hlt : k < n
    · obtain ⟨b, off, s, u, rfl, hx, hbk, hc0, hc1⟩ := rf_at h hlt
      have HX := hid hx; clear hx
      have hu : u ≤ 31 := by have := (isF_iff _).1 (HF.out _ (List.mem_of_getElem? HX.out)); exact this.2.2
      by_cases hst : s = t
      · subst hst
        have hadd := maskL_add HS.out HX.out
        have hb32 := maskL_u32 (l := l.take (k + 1)) (fun y hy => HF.out y (List.mem_of_mem_take hy)) s
        have HV : Hid (((m : Int) + 2 ^ u % 4294967296) % 4294967296 = ((maskL (l.take (k + 1)) s : Nat) : Int)) := by
          show _ = _
          simp only at hadd
          rw [← HM.out] at hadd
          rw [hadd] at hb32 ⊢
          have e : (2 : Int) ^ u = ((2 ^ u : Nat) : Int) := by simp
          rw [e]
          generalize 2 ^ u = q at *
          omega
        clear hadd hb32
        go_wp2
        go_round
        case rel => exact ⟨k + 1, maskL (l.take (k + 1)) s, by omega, by go_num, by rw [HV.out], rfl⟩
        case measure => simp [intOf]; omega
      · have hst' : (s == t) = false := by simpa using hst
        have HT := hid hst; clear hst
        go_wp2
        go_round
        case rel => exact ⟨k + 1, m, by omega, by go_num, rfl, by rw [maskL_more HX.out, if_neg HT.out, Nat.or_zero]; exact HM.out⟩
        case measure => simp [intOf]; omega
    · have HE := hid (show m = maskL l t by have := HM.out; rwa [List.take_of_length_le (by rw [HLN.out]; omega)] at this)
      go_wp2
      go_ret
      exact ⟨ret_int (by rw [HE.out]), rfl⟩
end Go.Proofs.Ytoeeaohgihipgaa
