/-
  Contracts: the program's Mask.
-/
import Derived.Test.YtoeeaohgihipgaaB5j
import Derived.Test.YtoeeaohgihipgaaM5d
namespace Go.Proofs.Ytoeeaohgihipgaa
open Go.RowKit Go.Sort
set_option linter.unusedVariables false

theorem fieldO (u : Value) (w : World) : (Instr.field 49 (.agg #[u]) 0).run Try.prog w = .ok u w := by kernel_rfl

theorem bsf_zero (w : World) (a : Option Addr) (n c : Nat) (l : List Fl) (t : Int) (h : RK fe 2 w a n c l) (hn : n ≤ 1000000) (hs : Sor l) :
    Calls Try.prog 30 #[.slice a n c, .agg #[.int .i64 t, .int .u8 0], .func (.func 31) #[] #[]] w fun e w' => ∃ (i : Nat) (b : Bool), e = .returned (.tuple #[.int .i64 (i : Int), .bool b]) ∧ i ≤ n ∧ (∀ k x, k < i → l[k]? = some x → ltF x (t, 0) = true) ∧ (∀ k x, i ≤ k → l[k]? = some x → ltF x (t, 0) = false) ∧ Below w.heap.size w w' :=
  bsf_any w a n c l t 0 h hn hs

set_option maxHeartbeats 1000000 in
theorem mask_any (w : World) (a : Option Addr) (n c : Nat) (l : List Fl) (t : Int) (h : RK fe 2 w a n c l) (hn : n ≤ 1000000) (hs : Sor l) (hf : AllF l) :
    Calls Try.prog 16 #[.slice a n c, .int .i64 t] w fun e w' => e = .returned (.int .u32 (maskL l t : Int)) ∧ Below w.heap.size w w' := by
  have HS := hid hs; clear hs
  have HF := hid hf; clear hf
  have hfo := fun u v => fieldO u v
  go_enter Try.func16, Try.ntmps16
  go_wp2_with (first | (go_at_call 25; with_reducible refine (bySteps_any _).mono ?_; rintro e w1 ⟨rfl, g1⟩) | (go_at_call 30; with_reducible refine (bsf_zero w1 a n c l t (h.below g1) hn HS.out).mono ?_; rintro e w2 ⟨i, bb, rfl, hin, hlo, hhi, g2⟩; have HLO := hid hlo; have HHI := hid hhi; clear hlo hhi; have hb2 := bstep g1 g2; have hr2 := h.below hb2) | (with_reducible refine wpList_cutFromK (enc := fe) tF rfl _ _ rfl _ _ i rfl rfl rfl hr2 hin (n - i) rfl ?_; intro a' c' hr'))
  have hr0 := hr'
  have HRL := hid hr'.len
  clear hr2
  go_loopg [5, 23] (n - i) (fun gn v ki wr => ∃ (k m : Nat), k ≤ n - i ∧ gn = n - i - k ∧ ki = .int .i64 (k : Int) ∧ v = .int .u32 (m : Int) ∧ m = maskL ((l.drop i).take k) t ∧ Below w2.heap.size w2 wr)
  case atStart => exact ⟨0, 0, by omega, by omega, rfl, rfl, by simp [maskL], Below.refl _ _⟩
  case round =>
    obtain ⟨k, m, hk, rfl, rfl, rfl, hm, hb⟩ := hrel
    have HM := hid hm; clear hm
    by_cases hlt : k < n - i
    · obtain ⟨b, off, s, u, rfl, hx, hbk, hc0, hc1⟩ := rf_at (hr'.below hb) hlt
      have HX := hid hx; clear hx
      have hu : u ≤ 31 := by have := (isF_iff _).1 (HF.out _ (List.mem_of_mem_drop (List.mem_of_getElem? HX.out))); exact this.2.2
      by_cases hst : s = t
      · subst hst
        have hm32 : m < 4294967296 := by
          rw [HM.out]
          exact maskL_u32 (fun y hy => HF.out y (List.mem_of_mem_drop (List.mem_of_mem_take hy))) s
        have HV : Hid (bits BinOp.or IntKind.u32 (m : Int) (2 ^ u % 4294967296) = ((maskL ((l.drop i).take (k + 1)) s : Nat) : Int)) := by
          show _ = _
          rw [maskL_more HX.out, if_pos rfl, ← HM.out]
          have hp : 2 ^ u < 4294967296 := Nat.lt_of_le_of_lt (Nat.pow_le_pow_right (n := 2) (by decide) hu) (by decide)
          have e : (2 : Int) ^ u = ((2 ^ u : Nat) : Int) := by simp
          rw [e]
          generalize 2 ^ u = q at hp ⊢
          rw [show (q : Int) % 4294967296 = (q : Int) by omega]
          exact (u32_bits m q hm32 hp).2
        go_wp2
        go_roundg (n - i - (k + 1))
        case measure => omega
        case rel => exact ⟨k + 1, maskL ((l.drop i).take (k + 1)) s, by omega, rfl, by go_num, by rw [HV.out], rfl, bnew hb _⟩
      · have hst' : (s != t) = true := by simpa using hst
        have HE := hid (show m = maskL l t by rw [HM.out, maskL_stop (sor_drop HS.out i) (ge_of_no HHI.out HX.out) HX.out hst, maskL_cut HLO.out])
        clear hst
        go_wp2
        go_ret
        exact ⟨ret_int (by rw [HE.out]), bnew (bstep hb2 hb) _⟩
    · have HE := hid (show m = maskL l t by have := HM.out; rw [List.take_of_length_le (by rw [HRL.out]; omega)] at this; rw [this, maskL_cut HLO.out])
      go_wp2
      go_ret
      exact ⟨ret_int (by rw [HE.out]), bstep hb2 hb⟩
end Go.Proofs.Ytoeeaohgihipgaa
