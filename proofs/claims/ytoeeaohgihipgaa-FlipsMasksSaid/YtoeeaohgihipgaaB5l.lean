/-
  Contracts: windows.
-/
import Derived.Test.YtoeeaohgihipgaaB5k
import Derived.Test.YtoeeaohgihipgaaM5e
namespace Go.Proofs.Ytoeeaohgihipgaa
open Go.RowKit Go.Sort
set_option linter.unusedVariables false

theorem vint {k : IntKind} {a b : Int} (h : a = b) : Value.int k a = .int k b := by rw [h]

set_option maxHeartbeats 1000000 in
theorem most_any (w : World) (a : Option Addr) (n c : Nat) (l : List Fl) (wd : Int) (h : RK fe 2 w a n c l) (hn : n ≤ 1000000) (hs : Sor l) (hf : AllF l) :
    Calls Try.prog 18 #[.slice a n c, .int .i64 wd] w fun e w' => ∃ m : Nat, e = .returned (.int .i64 (m : Int)) ∧ IsMost l wd m ∧ m ≤ n ∧ Below w.heap.size w w' := by
  have HS := hid hs; clear hs
  have HF := hid hf; clear hf
  have HLN := hid h.len
  by_cases hw1 : wd < 1
  · go_enter Try.func18, Try.ntmps18
    go_wp2
    go_ret
    exact ⟨0, rfl, isMost_zero HS.out (by omega), Nat.zero_le _, Below.refl _ _⟩
  · go_enter Try.func18, Try.ntmps18
    go_wp2
    go_loopg [5, 6, 12] n (fun gn vm vf vk wr => ∃ k f m : Nat, k ≤ n ∧ gn = n - k ∧ vk = .int .i64 (k : Int) ∧ vf = .int .i64 (f : Int) ∧ vm = .int .i64 (m : Int) ∧ MostAt l wd k f m ∧ Below w.heap.size w wr)
    case atStart => exact ⟨0, 0, 0, by omega, by omega, rfl, rfl, rfl, MostAt.start _ _, Below.refl _ _⟩
    case round =>
      obtain ⟨k, f, m, hk, rfl, rfl, rfl, rfl, hM, hb⟩ := hrel
      by_cases hlt : k < n
      · obtain ⟨b, off, s, u, rfl, hx, hbk, hc0, hc1⟩ := rf_at (h.below hb) hlt
        have HX := hid hx; clear hx
        have hsx := (isF_iff _).1 (HF.out _ (List.mem_of_getElem? HX.out))
        simp only at hsx
        obtain ⟨hs1, hs2, hs3⟩ := hsx
        clear hc0 hc1
        go_wp2
        go_loopg [6] (k + 1 - f) (fun gn vf wi => ∃ f' : Nat, f' ≤ k ∧ gn = k + 1 - f' ∧ vf = .int .i64 (f' : Int) ∧ MostAt l wd k f' m ∧ Below w.heap.size w wi)
        case atStart => exact ⟨f, hM.le, rfl, rfl, hM, hb⟩
        case round =>
          obtain ⟨f', hfk, rfl, rfl, hM', hb'⟩ := hrel
          have hfle := hM.le
          have hmk := hM.lm
          clear hM hb
          obtain ⟨b', off', s2, u2, e', hx2, hbk2, hc2, hc3⟩ := rf_at (h.below hb') (k := f') (by omega)
          cases e'
          obtain ⟨b', off', s3, u3, e', hx3, hbk3, hc0, hc1⟩ := rf_at (h.below hb') hlt
          cases e'
          obtain ⟨rfl, rfl⟩ : s3 = s ∧ u3 = u := by have := HX.out; rw [hx3] at this; simpa using this
          clear hx3
          have HX2 := hid hx2; clear hx2
          have hsx := (isF_iff _).1 (HF.out _ (List.mem_of_getElem? HX2.out))
          simp only at hsx
          obtain ⟨ht1, ht2, ht3⟩ := hsx
          have i1 : IntKind.i64.wrap (s3 - s2) = s3 - s2 := IntWalk.i64_in _ (by omega)
          have i4 : (f' : Int) < (n : Int) := by omega
          by_cases hge : wd ≤ s3 - s2
          · have HM := hid (hM'.first HS.out HX2.out HX.out (by omega) hge)
            have hge' : decide (wd ≤ s3 - s2) = true := by simpa using hge
            clear hge
            go_wp2
            go_quiet (fail)
            go_wp2
            go_roundg (k + 1 - (f' + 1))
            case measure => omega
            case rel => exact ⟨f' + 1, HM.out.le, rfl, by go_num, HM.out, below_drewN hb' _⟩
          · have HM := hid (hM'.last HX2.out HX.out (by show s3 - s2 < wd; omega))
            have hge' : decide (wd ≤ s3 - s2) = false := by simpa using hge
            clear hge
            go_wp2
            go_quiet (fail)
            go_wp2
            all_goals
              go_roundg (n - (k + 1))
              case measure => omega
              case rel => exact ⟨k + 1, f', max m (k - f' + 1), by omega, rfl, by go_num, rfl, vint (by omega), HM.out, below_drewN hb' _⟩
      · have HE := hid (hM.all (by rw [HLN.out]; omega))
        have hlm := hM.lm
        go_wp2
        go_ret
        exact ⟨m, rfl, HE.out, by omega, hb⟩

set_option maxHeartbeats 1000000 in
theorem refMost_any (w : World) (a : Option Addr) (n c : Nat) (l : List Fl) (wd : Int) (h : RK fe 2 w a n c l) (hn : n ≤ 1000000) (hs : Sor l) (hf : AllF l) :
    Calls Try.prog 19 #[.slice a n c, .int .i64 wd] w fun e w' => ∃ m : Nat, e = .returned (.int .i64 (m : Int)) ∧ IsMost l wd m ∧ Below w.heap.size w w' := by
  have HS := hid hs; clear hs
  have HF := hid hf; clear hf
  have HLN := hid h.len
  go_enter Try.func19, Try.ntmps19
  go_wp2
  go_loopg [5, 6] n (fun gn vm vk wr => ∃ k m : Nat, k ≤ n ∧ gn = n - k ∧ vk = .int .i64 (k : Int) ∧ vm = .int .i64 (m : Int) ∧ MostOf l wd k m ∧ m ≤ n ∧ Below w.heap.size w wr)
  case atStart => exact ⟨0, 0, by omega, by omega, rfl, rfl, MostOf.start _ _, by omega, Below.refl _ _⟩
  case round =>
    obtain ⟨k, m, hk, rfl, rfl, rfl, hM, hmn, hb⟩ := hrel
    by_cases hlt : k < n
    · obtain ⟨b, off, s, u, rfl, hx, hbk, hc0, hc1⟩ := rf_at (h.below hb) hlt
      have HX := hid hx; clear hx
      have hsx := (isF_iff _).1 (HF.out _ (List.mem_of_getElem? HX.out))
      simp only at hsx
      obtain ⟨hs1, hs2, hs3⟩ := hsx
      have HM := hid hM; clear hM
      clear hc0 hc1
      go_wp2
      go_loopg [7, 8] (n - k) (fun gn vc vj wi => ∃ q j : Nat, j = k + q ∧ j ≤ n ∧ gn = n - j ∧ vc = .int .i64 (q : Int) ∧ vj = .int .i64 (j : Int) ∧ (q = 0 ∨ ∃ y, l[k + q - 1]? = some y ∧ y.1 - s < wd) ∧ Below w.heap.size w wi)
      case atStart => exact ⟨0, k, rfl, by omega, rfl, rfl, rfl, .inl rfl, hb⟩
      case round =>
        obtain ⟨q, j, hjq, hq, rfl, rfl, rfl, hin, hb'⟩ := hrel
        have hqb : q ≤ 1000000 := by omega
        have HJ := hid hjq; clear hjq
        have HIN := hid hin; clear hin
        clear hb
        by_cases hqn : j < n
        · obtain ⟨b', off', s2, u2, e', hx2, hbk2, hc2, hc3⟩ := rf_at (h.below hb') hqn
          cases e'
          obtain ⟨b', off', s3, u3, e', hx3, hbk3, hc0, hc1⟩ := rf_at (h.below hb') hlt
          cases e'
          obtain ⟨rfl, rfl⟩ : s3 = s ∧ u3 = u := by have := HX.out; rw [hx3] at this; simpa using this
          clear hx3
          have HX2 := hid hx2; clear hx2
          have hsx := (isF_iff _).1 (HF.out _ (List.mem_of_getElem? HX2.out))
          simp only at hsx
          obtain ⟨ht1, ht2, ht3⟩ := hsx
          have i1 : IntKind.i64.wrap (s2 - s3) = s2 - s3 := IntWalk.i64_in _ (by omega)
          have i4 : (j : Int) < (n : Int) := by omega
          have i5 : (k : Int) < (n : Int) := by omega
          by_cases hge : s2 - s3 < wd
          · have hge' : decide (s2 - s3 < wd) = true := by simpa using hge
            have HG := hid hge; clear hge
            go_wp2
            go_quiet (fail)
            go_wp2
            go_roundg (n - (j + 1))
            case measure => omega
            case rel => exact ⟨q + 1, j + 1, by rw [HJ.out, Nat.add_assoc], by omega, rfl, by go_num, by go_num, .inr ⟨(s2, u2), by rw [← HX2.out, HJ.out]; congr 1, HG.out⟩, below_drewN hb' _⟩
          · have hge' : decide (s2 - s3 < wd) = false := by simpa using hge
            have HN := hid (HM.out.more HS.out HX.out HIN.out (fun y hy => by rw [← HJ.out, HX2.out] at hy; simp at hy; subst hy; show wd ≤ s2 - s3; omega))
            clear hge
            by_cases hmq : m < q
            · go_wp2
              go_quiet (fail)
              go_wp2
              go_roundg (n - (k + 1))
              case measure => omega
              case rel => exact ⟨k + 1, max m q, by omega, rfl, by go_num, vint (by omega), HN.out, by have := HJ.out; omega, below_drewN hb' _⟩
            · go_wp2
              go_quiet (fail)
              go_wp2
              go_roundg (n - (k + 1))
              case measure => omega
              case rel => exact ⟨k + 1, max m q, by omega, rfl, by go_num, vint (by omega), HN.out, by have := HJ.out; omega, below_drewN hb' _⟩
        · have HN := hid (HM.out.more HS.out HX.out HIN.out (fun y hy => by have := (List.getElem?_eq_some_iff.1 hy).1; rw [HLN.out, ← HJ.out] at this; omega))
          have i4 : ¬ (j : Int) < (n : Int) := by omega
          by_cases hmq : m < q
          · go_wp2
            go_quiet (fail)
            go_wp2
            go_roundg (n - (k + 1))
            case measure => omega
            case rel => exact ⟨k + 1, max m q, by omega, rfl, by go_num, vint (by omega), HN.out, by have := HJ.out; omega, below_drewN hb' _⟩
          · go_wp2
            go_quiet (fail)
            go_wp2
            go_roundg (n - (k + 1))
            case measure => omega
            case rel => exact ⟨k + 1, max m q, by omega, rfl, by go_num, vint (by omega), HN.out, by have := HJ.out; omega, below_drewN hb' _⟩
    · have HE := hid (hM.all (by rw [HLN.out]; omega))
      go_wp2
      go_ret
      exact ⟨m, rfl, HE.out, hb⟩
end Go.Proofs.Ytoeeaohgihipgaa
