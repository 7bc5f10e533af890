/-
  The library's partition of what is equal, at numbers of 32 bits. (Written by gen_sort.py.)
-/
import Derived.Test.YtmaklneiedljjaaSr
import Derived.Sort.WalkC4
import Derived.Deep.Cut
import Derived.Deep.DeepCutAuto
namespace Go.Proofs.Ytmaklneiedljjaa
open Go.RowKit Go.Sort
set_option linter.unusedVariables false

set_option maxHeartbeats 8000000 in
set_option maxRecDepth 100000 in
theorem partEq_any (off g c N a b pivot : Nat) (w : World) (d : Array Nat) (h : Sr off g c N w w d) (hap : a ≤ pivot) (hpb : pivot < b) (hb : b ≤ N) (hN : N ≤ 1000000) :
    Calls Try.prog 44 #[.slice (some ⟨g, off, none⟩) N c, .int .i64 a, .int .i64 b, .int .i64 pivot] w fun e w' => e = .returned (.int .i64 ((partitionEqual ltN d a b pivot).1 : Int)) ∧ Sr off g c N w w' (partitionEqual ltN d a b pivot).2 := by
  obtain ⟨G0, HG0, hcw, hfw⟩ := h.fam
  obtain ⟨G1, _, hc1, _⟩ := ((h.set (a) (G0 (pivot))).drewN 1).fam
  have hu : ((w.setCell ⟨g, off + (a), none⟩ (.int .u32 (G0 (pivot) : Int))).drew).cell? ⟨g, off + (pivot), none⟩ = some (.int .u32 (G1 (pivot) : Int)) := hc1 (pivot) (by omega)
  clear hc1
  have H := hid h; clear h
  have eb : (b : Int) - 1 = ((b - 1 : Nat) : Int) := by omega
  go_enter Try.func44, Try.ntmps44
  go_wp2
  go_region
  have HS0 := hid (H.out.swp 1 a pivot (HG0.out _) (HG0.out _))
  clear hcw hfw hu
  obtain ⟨dk0, hdk⟩ : ∃ dk0, dk0 = swp d a pivot := ⟨_, rfl⟩
  rw [← hdk] at HS0
  have HDK := hid hdk; clear hdk
  go_wp2
  have HD : Hid (partEqLoop ltN a (a + 1) (b - 1) dk0 = partitionEqual ltN d a b pivot) := hid (by rw [HDK.out]; rfl)
  clear HDK
  go_loopg [9, 10] (b - 1 + 1 - (a + 1)) (fun gn vi vj wr => ∃ (i0 j0 : Nat) (dk : Array Nat), a < i0 ∧ i0 ≤ j0 + 1 ∧ j0 < b ∧ gn = j0 + 1 - i0 ∧ vi = .int .i64 (i0 : Int) ∧ vj = .int .i64 (j0 : Int) ∧ Hid (Sr off g c N w wr dk) ∧ Hid (partEqLoop ltN a i0 j0 dk = partitionEqual ltN d a b pivot))
  case atStart => exact ⟨a + 1, b - 1, dk0, by omega, by omega, by omega, rfl, by first | rfl | (go_num; done), by first | rfl | (congr 1; omega), HS0, HD⟩
  case round =>
    obtain ⟨i0, j0, dk, h1, h2, h3, rfl, rfl, rfl, HS, HO⟩ := hrel
    clear eb
    obtain ⟨G, HG, _, _⟩ := HS.out.fam
    go_wp2
    go_loopg [9] (j0 + 1 - (i0)) (fun gn vi wr => ∃ i : Nat, i0 ≤ i ∧ i ≤ j0 + 1 ∧ gn = j0 + 1 - i ∧ vi = .int .i64 (i : Int) ∧ Hid (Sr off g c N w wr dk) ∧ Hid (scanUp (fun x => !ltN dk[a]! x) dk j0 i = scanUp (fun x => !ltN dk[a]! x) dk j0 i0))
    case atStart => exact ⟨i0, by omega, by omega, by omega, by first | rfl | go_num | (congr 1; omega), HS, hid rfl⟩
    case round =>
      obtain ⟨i, hli, hhi, rfl, rfl, HSi, HUi⟩ := hrel
      obtain ⟨qi, hqi⟩ : ∃ qi, qi = ltN (G (a)) (G (i)) := ⟨_, rfl⟩
      have hless := fun w => less_u32 (G (a)) (G (i)) w
      rw [← hqi] at hless
      have hpi : (!qi) = true → (fun x => !ltN dk[a]! x) dk[i]! = true := fun h => by simp only [← HG.out]; rw [← hqi]; exact h
      have hni : (!qi) = false → (fun x => !ltN dk[a]! x) dk[i]! = false := fun h => by simp only [← HG.out]; rw [← hqi]; exact h
      have HPi := hid hpi
      have HNi := hid hni
      clear hqi hpi hni
      obtain ⟨hcw, hfw⟩ := HSi.out.reads HG
      
      go_wp2
      go_cut [43] (fun s wx => s = .bool (decide (i ≤ j0) && !qi) ∧ Hid (Sr off g c N w wx dk))
      case first =>
        by_cases hgi : i ≤ j0
        · go_quiet (first | (go_at_call 43; refine Calls.quiet_of_same (hless _)))
          go_wp2_with fail
          go_meet
          exact ⟨congrArg Value.bool (by simp [hgi]), hid (HSi.out.drewN _)⟩
        · go_quiet (first | (go_at_call 43; refine Calls.quiet_of_same (hless _)))
          go_wp2_with fail
          go_meet
          exact ⟨congrArg Value.bool (by simp [hgi]), hid (HSi.out.drewN _)⟩
      case rest =>
        obtain ⟨rfl, HTi⟩ := hcut
        clear hcw hfw hless HSi
        cases hti : (decide (i ≤ j0) && !qi)
        case true =>
          obtain ⟨hgi, hri⟩ := Bool.and_eq_true_iff.1 hti
          have hgi : i ≤ j0 := of_decide_eq_true hgi
          have hpi := HPi.out hri
          clear hti hri
          go_wp2
          go_roundg (j0 + 1 - (i + 1))
          case measure => omega
          case rel => exact ⟨i + 1, by omega, by omega, rfl, by first | (go_num; done) | (congr 1; omega), HTi, hid ((scanUp_go (fun x => !ltN dk[a]! x) dk j0 i hgi hpi).symm.trans HUi.out)⟩
        case false =>
          have HIi : Hid (i = scanUp (fun x => !ltN dk[a]! x) dk j0 i0) := hid (HUi.out.symm.trans (scanUp_end (fun x => !ltN dk[a]! x) dk j0 i (by
            rcases Bool.and_eq_false_iff.1 hti with h | h
            · exact .inl (of_decide_eq_false h)
            · exact .inr (HNi.out h)))).symm
          clear hti HUi HPi HNi
          go_wp2
          go_loopg [10] (0 + (j0)) (fun gn vi wr => ∃ j : Nat, j ≤ j0 ∧ i ≤ j + 1 ∧ gn = 0 + j ∧ vi = .int .i64 (j : Int) ∧ Hid (Sr off g c N w wr dk) ∧ Hid (scanDown (fun x => ltN dk[a]! x) dk i j = scanDown (fun x => ltN dk[a]! x) dk i j0))
          case atStart => exact ⟨j0, by omega, by omega, by omega, by first | rfl | go_num | (congr 1; omega), HTi, hid rfl⟩
          case round =>
            obtain ⟨j, hlj, hhj, rfl, rfl, HSj, HUj⟩ := hrel
            obtain ⟨qj, hqj⟩ : ∃ qj, qj = ltN (G (a)) (G (j)) := ⟨_, rfl⟩
            have hless := fun w => less_u32 (G (a)) (G (j)) w
            rw [← hqj] at hless
            have hpj : qj = true → (fun x => ltN dk[a]! x) dk[j]! = true := fun h => by simp only [← HG.out]; rw [← hqj]; exact h
            have hnj : qj = false → (fun x => ltN dk[a]! x) dk[j]! = false := fun h => by simp only [← HG.out]; rw [← hqj]; exact h
            have HPj := hid hpj
            have HNj := hid hnj
            clear hqj hpj hnj
            obtain ⟨hcw, hfw⟩ := HSj.out.reads HG
            have ej : 1 ≤ j → (j : Int) - 1 = ((j - 1 : Nat) : Int) := fun h => by omega
            go_wp2
            go_cut [59] (fun s wx => s = .bool (decide (i ≤ j) && qj) ∧ Hid (Sr off g c N w wx dk))
            case first =>
              by_cases hgj : i ≤ j
              · go_quiet (first | (go_at_call 43; refine Calls.quiet_of_same (hless _)))
                go_wp2_with fail
                go_meet
                exact ⟨congrArg Value.bool (by simp [hgj]), hid (HSj.out.drewN _)⟩
              · go_quiet (first | (go_at_call 43; refine Calls.quiet_of_same (hless _)))
                go_wp2_with fail
                go_meet
                exact ⟨congrArg Value.bool (by simp [hgj]), hid (HSj.out.drewN _)⟩
            case rest =>
              obtain ⟨rfl, HTj⟩ := hcut
              clear hcw hfw hless HSj
              cases htj : (decide (i ≤ j) && qj)
              case true =>
                obtain ⟨hgj, hrj⟩ := Bool.and_eq_true_iff.1 htj
                have hgj : i ≤ j := of_decide_eq_true hgj
                have hpj := HPj.out hrj
                clear htj hrj
                go_wp2
                go_roundg (0 + (j - 1))
                case measure => omega
                case rel => exact ⟨j - 1, by omega, by omega, rfl, by first | (go_num; done) | (congr 1; omega), HTj, hid ((scanDown_go (fun x => ltN dk[a]! x) dk i j hgj (by omega) hpj).symm.trans HUj.out)⟩
              case false =>
                have HIj : Hid (j = scanDown (fun x => ltN dk[a]! x) dk i j0) := hid (HUj.out.symm.trans (scanDown_end (fun x => ltN dk[a]! x) dk i j (by
                  rcases Bool.and_eq_false_iff.1 htj with h | h
                  · exact .inl (of_decide_eq_false h)
                  · exact .inr (HNj.out h)))).symm
                clear htj HUj HPj HNj
                have HLT := hid (fun hle => scans_lt ltN a i0 j0 dk (by omega) HIi.out HIj.out hle)
                by_cases hgt : j < i
                · have HB := hid (partEq_break ltN a i0 j0 dk HIi.out HIj.out hgt)
                  go_wp2
                  go_ret
                  exact ⟨ret_int (by rw [← HO.out, HB.out]), by rw [← HO.out, HB.out]; exact HTj.out⟩
                · have hlt := HLT.out (by omega)
                  have HB := hid ((partEq_go ltN a i0 j0 dk HIi.out HIj.out (by omega)).symm.trans HO.out)
                  obtain ⟨hcw, hfw⟩ := HTj.out.reads HG
                  have e2 : (j : Int) - 1 = ((j - 1 : Nat) : Int) := by omega
                  obtain ⟨G3, _, hc3, _⟩ := ((HTj.out.set (i) (G (j))).drewN 1).fam
                  have hu : ((wc.setCell ⟨g, off + (i), none⟩ (.int .u32 (G (j) : Int))).drew).cell? ⟨g, off + (j), none⟩ = some (.int .u32 (G3 (j) : Int)) := hc3 (j) (by omega)
                  clear hc3
                  clear HIi HIj HLT
                  go_wp2
                  go_region
                  all_goals go_wp2
                  go_roundg (j - 1 + 1 - (i + 1))
                  case measure => omega
                  case rel => exact ⟨i + 1, j - 1, swp dk i j, by omega, by omega, by omega, rfl, by first | (go_num; done) | (congr 1; omega), by first | (go_num; done) | (congr 1; omega), hid (HTj.out.swp 1 i j (HG.out _) (HG.out _)), HB⟩
end Go.Proofs.Ytmaklneiedljjaa
