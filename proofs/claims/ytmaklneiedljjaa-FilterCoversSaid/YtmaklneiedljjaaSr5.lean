/-
  The library's partial insertion sort, at numbers of 32 bits. (Written by gen_sort.py.)
-/
import Derived.Test.YtmaklneiedljjaaSr
import Derived.Sort.WalkA6
import Derived.Deep.Cut
import Derived.Deep.DeepCutAuto
namespace Go.Proofs.Ytmaklneiedljjaa
open Go.RowKit Go.Sort
set_option linter.unusedVariables false

set_option maxHeartbeats 8000000 in
set_option maxRecDepth 100000 in
theorem partial_any (off g c N a b : Nat) (w : World) (d : Array Nat) (h : Sr off g c N w w d) (hab : a < b) (hb : b ≤ N) (hN : N ≤ 1000000) :
    Calls Try.prog 42 #[.slice (some ⟨g, off, none⟩) N c, .int .i64 a, .int .i64 b] w fun e w' => e = .returned (.bool (partialInsertionSort ltN d a b).2) ∧ Sr off g c N w w' (partialInsertionSort ltN d a b).1 := by
  have H := hid h; clear h
  go_enter Try.func42, Try.ntmps42
  go_wp2
  go_loopg [7, 8] (5 - 0) (fun gn vi vj wr => ∃ (i t : Nat) (dk : Array Nat), a < i ∧ i ≤ b ∧ t ≤ 5 ∧ gn = 5 - t ∧ vi = .int .i64 (i : Int) ∧ vj = .int .i64 (t : Int) ∧ Hid (Sr off g c N w wr dk) ∧ Hid (partialIns ltN a b (5 - t) i dk = partialInsertionSort ltN d a b))
  case atStart => exact ⟨a + 1, 0, d, by omega, by omega, by omega, rfl, by first | rfl | (go_num; done), rfl, H, hid rfl⟩
  case round =>
    obtain ⟨i, t, dk, h1, h2, h3, rfl, rfl, rfl, HS, HO⟩ := hrel
    by_cases ht : t < 5
    · obtain ⟨G, HG, _, _⟩ := HS.out.fam
      go_wp2
      go_loopg [7] (b - i) (fun gn vi wr => ∃ k : Nat, i ≤ k ∧ k ≤ b ∧ gn = b - k ∧ vi = .int .i64 (k : Int) ∧ Hid (Sr off g c N w wr dk) ∧ Hid (scanSorted ltN dk b k = scanSorted ltN dk b i))
      case atStart => exact ⟨i, by omega, by omega, rfl, rfl, HS, hid rfl⟩
      case round =>
        obtain ⟨k, hik, hkb', rfl, rfl, HSk, HU⟩ := hrel
        obtain ⟨qk, hqk⟩ : ∃ qk, qk = ltN (G k) (G (k - 1)) := ⟨_, rfl⟩
        have hless := fun w => less_u32 (G k) (G (k - 1)) w
        rw [← hqk] at hless
        have HPk := hid (show qk = false → ltN dk[k]! dk[k - 1]! = false from fun h => by rw [← HG.out, ← HG.out, ← hqk]; exact h)
        have HNk := hid (show qk = true → ltN dk[k]! dk[k - 1]! = true from fun h => by rw [← HG.out, ← HG.out, ← hqk]; exact h)
        clear hqk
        obtain ⟨hcw, hfw⟩ := HSk.out.reads HG
        have e1 : (k : Int) - 1 = ((k - 1 : Nat) : Int) := by omega
        go_wp2
        go_cut [32] (fun s wx => s = .bool (decide (k < b) && !qk) ∧ Hid (Sr off g c N w wx dk))
        case first =>
          by_cases hgk : k < b
          · go_quiet (first | (go_at_call 43; refine Calls.quiet_of_same (hless _)))
            go_wp2_with fail
            go_meet
            exact ⟨congrArg Value.bool (by simp [hgk]), hid (HSk.out.drewN _)⟩
          · go_quiet (first | (go_at_call 43; refine Calls.quiet_of_same (hless _)))
            go_wp2_with fail
            go_meet
            exact ⟨congrArg Value.bool (by simp [hgk]), hid (HSk.out.drewN _)⟩
        case rest =>
          obtain ⟨rfl, HTk⟩ := hcut
          clear hcw hfw hless HSk
          cases htk : (decide (k < b) && !qk)
          case true =>
            obtain ⟨hgk, hrk⟩ := Bool.and_eq_true_iff.1 htk
            have hgk : k < b := of_decide_eq_true hgk
            have hpk := HPk.out (by simpa using hrk)
            clear htk hrk
            go_wp2
            go_roundg (b - (k + 1))
            case measure => omega
            case rel => exact ⟨k + 1, by omega, by omega, rfl, by first | (go_num; done) | (congr 1; omega), HTk, hid ((scanSorted_go ltN dk b k hgk hpk).symm.trans HU.out)⟩
          case false =>
            have HI : Hid (scanSorted ltN dk b i = k) := hid (HU.out.symm.trans (scanSorted_stop ltN dk b k (by
              rcases Bool.and_eq_false_iff.1 htk with h | h
              · exact .inl (of_decide_eq_false h)
              · exact .inr (HNk.out (by simpa using h)))))
            clear htk HU HPk HNk
            by_cases hkb : k = b
            · have HR := hid ((pi_true ltN a b t i dk ht (by rw [HI.out, hkb])).symm.trans HO.out)
              subst hkb
              go_wp2
              go_ret
              exact ⟨ret_bool (by rw [← HR.out]), by rw [← HR.out]; exact HTk.out⟩
            · by_cases h50 : b - a < 50
              · have HR := hid ((pi_short ltN a b t i dk ht (by rw [HI.out]; exact hkb) h50).symm.trans HO.out)
                go_wp2
                go_ret
                exact ⟨ret_bool (by rw [← HR.out]), by rw [← HR.out]; exact HTk.out⟩
              · skip
                have HGO := hid ((pi_go ltN a b t i k dk ht HI.out hkb h50).symm.trans HO.out)
                obtain ⟨hcw, hfw⟩ := HTk.out.reads HG
                have e2 : (k : Int) - 1 = ((k - 1 : Nat) : Int) := by omega
                obtain ⟨G3, _, hc3, _⟩ := ((HTk.out.set (k) (G (k - 1))).drewN 1).fam
                have hu : ((wc.setCell ⟨g, off + (k), none⟩ (.int .u32 (G (k - 1) : Int))).drew).cell? ⟨g, off + (k - 1), none⟩ = some (.int .u32 (G3 (k - 1) : Int)) := hc3 (k - 1) (by omega)
                clear hc3
                clear HI HO
                go_wp2
                go_region
                have HS1 := hid (HTk.out.swp 1 k (k - 1) (HG.out _) (HG.out _))
                clear hcw hfw hu HG HTk
                generalize swp dk k (k - 1) = d1 at *
                go_upto_if 61 with fail
                go_cut [7] (fun s7 wx => s7 = .int .i64 (k : Int) ∧ Hid (Sr off g c N w wx (fixDown ltN a k d1)))
                case first =>
                  by_cases hcond : k - a ≥ 2
                  · have HFX := hid (show fixDown ltN a k d1 = shiftDown ltN (k - 1) d1 by unfold fixDown; rw [if_pos hcond])
                    go_wp2
                    go_loopg [9] (0 + (k - 1)) (fun gn vi wr => ∃ (j : Nat) (ej : Array Nat), j ≤ k - 1 ∧ gn = 0 + j ∧ vi = .int .i64 (j : Int) ∧ Hid (Sr off g c N w wr ej) ∧ Hid (shiftDown ltN j ej = shiftDown ltN (k - 1) d1))
                    case atStart => exact ⟨(k - 1), d1, by omega, by omega, by first | rfl | (go_num; done) | (congr 1; omega), HS1, hid rfl⟩
                    case round =>
                      obtain ⟨j, ej, hbj, rfl, rfl, HSj, HFj⟩ := hrel
                      by_cases hgj : 1 ≤ j
                      · obtain ⟨Gj, HGj, hcw, hfw⟩ := HSj.out.fam
                        have e9 : (j : Int) - 1 = ((j - 1 : Nat) : Int) := by omega
                        have hless := fun w => less_u32 (Gj j) (Gj (j - 1)) w
                        cases hl : ltN (Gj j) (Gj (j - 1))
                        · rw [hl] at hless
                          have HE := hid ((shiftDown_stop ltN j ej (.inr (by rw [← HGj.out, ← HGj.out]; exact hl))).symm.trans HFj.out)
                          clear hl
                          go_wp2
                          go_quiet (first | (go_at_call 43; refine Calls.quiet_of_same (hless _)))
                          go_wp2_with fail
                          go_meet
                          exact ⟨rfl, hid (by rw [HFX.out, ← HE.out]; exact HSj.out.drewN _)⟩
                        · rw [hl] at hless
                          have HE := hid ((shiftDown_go ltN j ej hgj (by rw [← HGj.out, ← HGj.out]; exact hl)).symm.trans HFj.out)
                          clear hl
                          go_wp2
                          go_quiet (first | (go_at_call 43; refine Calls.quiet_of_same (hless _)))
                          have HSd := hid (HSj.out.drewN nq)
                          clear hcw hfw
                          obtain ⟨hcw, hfw⟩ := HSd.out.reads HGj
                          generalize hwd : wr.drewN nq = wd at *
                          clear hwd
                          obtain ⟨G9, _, hc9, _⟩ := ((HSd.out.set (j) (Gj (j - 1))).drewN 1).fam
                          have hu : ((wd.setCell ⟨g, off + (j), none⟩ (.int .u32 (Gj (j - 1) : Int))).drew).cell? ⟨g, off + (j - 1), none⟩ = some (.int .u32 (G9 (j - 1) : Int)) := hc9 (j - 1) (by omega)
                          clear hc9
                          go_wp2
                          go_region
                          all_goals go_wp2
                          go_roundg (0 + (j - 1))
                          case measure => omega
                          case rel => exact ⟨(j - 1), swp ej j (j - 1), by omega, rfl, by first | (go_num; done) | (congr 1; omega), hid (HSd.out.swp 1 j (j - 1) (HGj.out _) (HGj.out _)), HE⟩
                      · have HE := hid ((shiftDown_stop ltN j ej (.inl (by omega))).symm.trans HFj.out)
                        go_wp2_with fail
                        go_meet
                        exact ⟨rfl, hid (by rw [HFX.out, ← HE.out]; exact HSj.out)⟩
                  · have HFX := hid (show fixDown ltN a k d1 = d1 by unfold fixDown; rw [if_neg hcond])
                    go_wp2_with fail
                    go_meet
                    exact ⟨rfl, hid (by rw [HFX.out]; exact HS1.out)⟩
                case rest =>
                  obtain ⟨rfl, HS2⟩ := hcut
                  clear HS1
                  have HGO2 : partialIns ltN a b (5 - (t + 1)) k (fixUp ltN b k (fixDown ltN a k d1)) = partialInsertionSort ltN d a b := HGO.out
                  generalize fixDown ltN a k d1 = d2 at *
                  have HGO3 := hid HGO2
                  clear HGO2 HGO
                  by_cases hcond : b - k ≥ 2
                  · have HFX := hid (show fixUp ltN b k d2 = shiftUp ltN b (k + 1) d2 by unfold fixUp; rw [if_pos hcond])
                    go_wp2
                    go_loopg [10] (b - (k + 1)) (fun gn vi wr => ∃ (u : Nat) (eu : Array Nat), k + 1 ≤ u ∧ u ≤ b ∧ gn = b - u ∧ vi = .int .i64 (u : Int) ∧ Hid (Sr off g c N w wr eu) ∧ Hid (shiftUp ltN b u eu = shiftUp ltN b (k + 1) d2))
                    case atStart => exact ⟨(k + 1), d2, by omega, by omega, by omega, by first | rfl | (go_num; done) | (congr 1; omega), HS2, hid rfl⟩
                    case round =>
                      obtain ⟨u, eu, hbu, hcu, rfl, rfl, HSu, HFu⟩ := hrel
                      by_cases hgu : u < b
                      · obtain ⟨Gu, HGu, hcw, hfw⟩ := HSu.out.fam
                        have e9 : (u : Int) - 1 = ((u - 1 : Nat) : Int) := by omega
                        have hless := fun w => less_u32 (Gu u) (Gu (u - 1)) w
                        cases hl : ltN (Gu u) (Gu (u - 1))
                        · rw [hl] at hless
                          have HE := hid ((shiftUp_stop ltN b u eu (.inr (by rw [← HGu.out, ← HGu.out]; exact hl))).symm.trans HFu.out)
                          clear hl
                          go_wp2
                          go_quiet (first | (go_at_call 43; refine Calls.quiet_of_same (hless _)))
                          go_wp2
                          go_roundg (5 - (t + 1))
                          case measure => omega
                          case rel => exact ⟨k, t + 1, fixUp ltN b k d2, by omega, by omega, by omega, rfl, rfl, by first | (go_num; done) | (congr 1; omega), hid (by rw [HFX.out, ← HE.out]; exact HSu.out.drewN _), HGO3⟩
                        · rw [hl] at hless
                          have HE := hid ((shiftUp_go ltN b u eu hgu (by rw [← HGu.out, ← HGu.out]; exact hl)).symm.trans HFu.out)
                          clear hl
                          go_wp2
                          go_quiet (first | (go_at_call 43; refine Calls.quiet_of_same (hless _)))
                          have HSd := hid (HSu.out.drewN nq)
                          clear hcw hfw
                          obtain ⟨hcw, hfw⟩ := HSd.out.reads HGu
                          generalize hwd : wr.drewN nq = wd at *
                          clear hwd
                          obtain ⟨G9, _, hc9, _⟩ := ((HSd.out.set (u) (Gu (u - 1))).drewN 1).fam
                          have hu : ((wd.setCell ⟨g, off + (u), none⟩ (.int .u32 (Gu (u - 1) : Int))).drew).cell? ⟨g, off + (u - 1), none⟩ = some (.int .u32 (G9 (u - 1) : Int)) := hc9 (u - 1) (by omega)
                          clear hc9
                          go_wp2
                          go_region
                          all_goals go_wp2
                          go_roundg (b - (u + 1))
                          case measure => omega
                          case rel => exact ⟨(u + 1), swp eu u (u - 1), by omega, by omega, rfl, by first | (go_num; done) | (congr 1; omega), hid (HSd.out.swp 1 u (u - 1) (HGu.out _) (HGu.out _)), HE⟩
                      · have HE := hid ((shiftUp_stop ltN b u eu (.inl (by omega))).symm.trans HFu.out)
                        go_wp2
                        go_roundg (5 - (t + 1))
                        case measure => omega
                        case rel => exact ⟨k, t + 1, fixUp ltN b k d2, by omega, by omega, by omega, rfl, rfl, by first | (go_num; done) | (congr 1; omega), hid (by rw [HFX.out, ← HE.out]; exact HSu.out), HGO3⟩
                  · have HFX := hid (show fixUp ltN b k d2 = d2 by unfold fixUp; rw [if_neg hcond])
                    go_wp2
                    go_roundg (5 - (t + 1))
                    case measure => omega
                    case rel => exact ⟨k, t + 1, fixUp ltN b k d2, by omega, by omega, by omega, rfl, rfl, by first | (go_num; done) | (congr 1; omega), hid (by rw [HFX.out]; exact HS2.out), HGO3⟩
    · obtain rfl : t = 5 := by omega
      have HR := hid ((pi_end ltN a b i dk).symm.trans HO.out)
      go_wp2
      go_ret
      exact ⟨ret_bool (by rw [← HR.out]), by rw [← HR.out]; exact HS.out⟩
end Go.Proofs.Ytmaklneiedljjaa
