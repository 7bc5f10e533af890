/-
  The library's partition, at numbers of 32 bits. (Written by gen_sort.py.)
-/
import Derived.Test.YtmaklneiedljjaaSr
import Derived.Sort.WalkC4
import Derived.Deep.Cut
import Derived.Deep.DeepCutAuto
namespace Go.Proofs.Ytmaklneiedljjaa
open Go.RowKit Go.Sort
set_option linter.unusedVariables false

set_option maxHeartbeats 8000000 in
set_option maxRecDepth 100000 in
theorem part_any (off g c N a b pivot : Nat) (w : World) (d : Array Nat) (h : Sr off g c N w w d) (hap : a ≤ pivot) (hpb : pivot < b) (hb : b ≤ N) (hN : N ≤ 1000000) :
    Calls Try.prog 45 #[.slice (some ⟨g, off, none⟩) N c, .int .i64 a, .int .i64 b, .int .i64 pivot] w fun e w' => e = .returned (.tuple #[.int .i64 ((partition ltN d a b pivot).1 : Int), .bool (partition ltN d a b pivot).2.1]) ∧ Sr off g c N w w' (partition ltN d a b pivot).2.2 := by
  obtain ⟨G0, HG0, hcw, hfw⟩ := h.fam
  obtain ⟨G1, _, hc1, _⟩ := ((h.set (a) (G0 (pivot))).drewN 1).fam
  have hu : ((w.setCell ⟨g, off + (a), none⟩ (.int .u32 (G0 (pivot) : Int))).drew).cell? ⟨g, off + (pivot), none⟩ = some (.int .u32 (G1 (pivot) : Int)) := hc1 (pivot) (by omega)
  clear hc1
  have H := hid h; clear h
  have eb : (b : Int) - 1 = ((b - 1 : Nat) : Int) := by omega
  go_enter Try.func45, Try.ntmps45
  go_wp2
  go_region
  have HS := hid (H.out.swp 1 a pivot (HG0.out _) (HG0.out _))
  clear hcw hfw hu
  obtain ⟨dk1, hdk⟩ : ∃ dk1, dk1 = swp d a pivot := ⟨_, rfl⟩
  rw [← hdk] at HS
  have HDK := hid hdk; clear hdk
  go_wp2
  obtain ⟨G, HG, _, _⟩ := HS.out.fam
  go_wp2
  go_loopg [10] ((b - 1) + 1 - ((a + 1))) (fun gn vi wr => ∃ x : Nat, (a + 1) ≤ x ∧ x ≤ (b - 1) + 1 ∧ gn = (b - 1) + 1 - x ∧ vi = .int .i64 (x : Int) ∧ Hid (Sr off g c N w wr dk1) ∧ Hid (scanUp (fun x => ltN x dk1[a]!) dk1 (b - 1) x = scanUp (fun x => ltN x dk1[a]!) dk1 (b - 1) (a + 1)))
  case atStart => exact ⟨(a + 1), by omega, by omega, by omega, by first | rfl | go_num | (congr 1; omega), HS, hid rfl⟩
  case round =>
    obtain ⟨x, hlx, hhx, rfl, rfl, HSx, HUx⟩ := hrel
    obtain ⟨qx, hqx⟩ : ∃ qx, qx = ltN (G (x)) (G (a)) := ⟨_, rfl⟩
    have hless := fun w => less_u32 (G (x)) (G (a)) w
    rw [← hqx] at hless
    have hpx : qx = true → (fun x => ltN x dk1[a]!) dk1[x]! = true := fun h => by simp only [← HG.out]; rw [← hqx]; exact h
    have hnx : qx = false → (fun x => ltN x dk1[a]!) dk1[x]! = false := fun h => by simp only [← HG.out]; rw [← hqx]; exact h
    have HPx := hid hpx
    have HNx := hid hnx
    clear hqx hpx hnx
    obtain ⟨hcw, hfw⟩ := HSx.out.reads HG
    
    go_wp2
    go_cut [43] (fun s wx => s = .bool (decide (x ≤ (b - 1)) && qx) ∧ Hid (Sr off g c N w wx dk1))
    case first =>
      by_cases hgx : x ≤ (b - 1)
      · go_quiet (first | (go_at_call 43; refine Calls.quiet_of_same (hless _)))
        go_wp2_with fail
        go_meet
        exact ⟨congrArg Value.bool (by simp [hgx]), hid (HSx.out.drewN _)⟩
      · go_quiet (first | (go_at_call 43; refine Calls.quiet_of_same (hless _)))
        go_wp2_with fail
        go_meet
        exact ⟨congrArg Value.bool (by simp [hgx]), hid (HSx.out.drewN _)⟩
    case rest =>
      obtain ⟨rfl, HTx⟩ := hcut
      clear hcw hfw hless HSx
      cases htx : (decide (x ≤ (b - 1)) && qx)
      case true =>
        obtain ⟨hgx, hrx⟩ := Bool.and_eq_true_iff.1 htx
        have hgx : x ≤ (b - 1) := of_decide_eq_true hgx
        have hpx := HPx.out hrx
        clear htx hrx
        go_wp2
        go_roundg ((b - 1) + 1 - (x + 1))
        case measure => omega
        case rel => exact ⟨x + 1, by omega, by omega, rfl, by first | (go_num; done) | (congr 1; omega), HTx, hid ((scanUp_go (fun x => ltN x dk1[a]!) dk1 (b - 1) x hgx hpx).symm.trans HUx.out)⟩
      case false =>
        have HIx : Hid (x = scanUp (fun x => ltN x dk1[a]!) dk1 (b - 1) (a + 1)) := hid (HUx.out.symm.trans (scanUp_end (fun x => ltN x dk1[a]!) dk1 (b - 1) x (by
          rcases Bool.and_eq_false_iff.1 htx with h | h
          · exact .inl (of_decide_eq_false h)
          · exact .inr (HNx.out h)))).symm
        clear htx HUx HPx HNx
        go_wp2
        go_loopg [11] (0 + ((b - 1))) (fun gn vi wr => ∃ y : Nat, y ≤ (b - 1) ∧ x ≤ y + 1 ∧ gn = 0 + y ∧ vi = .int .i64 (y : Int) ∧ Hid (Sr off g c N w wr dk1) ∧ Hid (scanDown (fun x => !ltN x dk1[a]!) dk1 x y = scanDown (fun x => !ltN x dk1[a]!) dk1 x (b - 1)))
        case atStart => exact ⟨(b - 1), by omega, by omega, by omega, by first | rfl | go_num | (congr 1; omega), HTx, hid rfl⟩
        case round =>
          obtain ⟨y, hly, hhy, rfl, rfl, HSy, HUy⟩ := hrel
          obtain ⟨qy, hqy⟩ : ∃ qy, qy = ltN (G (y)) (G (a)) := ⟨_, rfl⟩
          have hless := fun w => less_u32 (G (y)) (G (a)) w
          rw [← hqy] at hless
          have hpy : (!qy) = true → (fun x => !ltN x dk1[a]!) dk1[y]! = true := fun h => by simp only [← HG.out]; rw [← hqy]; exact h
          have hny : (!qy) = false → (fun x => !ltN x dk1[a]!) dk1[y]! = false := fun h => by simp only [← HG.out]; rw [← hqy]; exact h
          have HPy := hid hpy
          have HNy := hid hny
          clear hqy hpy hny
          obtain ⟨hcw, hfw⟩ := HSy.out.reads HG
          have ey : 1 ≤ y → (y : Int) - 1 = ((y - 1 : Nat) : Int) := fun h => by omega
          go_wp2
          go_cut [60] (fun s wx => s = .bool (decide (x ≤ y) && !qy) ∧ Hid (Sr off g c N w wx dk1))
          case first =>
            by_cases hgy : x ≤ y
            · go_quiet (first | (go_at_call 43; refine Calls.quiet_of_same (hless _)))
              go_wp2_with fail
              go_meet
              exact ⟨congrArg Value.bool (by simp [hgy]), hid (HSy.out.drewN _)⟩
            · go_quiet (first | (go_at_call 43; refine Calls.quiet_of_same (hless _)))
              go_wp2_with fail
              go_meet
              exact ⟨congrArg Value.bool (by simp [hgy]), hid (HSy.out.drewN _)⟩
          case rest =>
            obtain ⟨rfl, HTy⟩ := hcut
            clear hcw hfw hless HSy
            cases hty : (decide (x ≤ y) && !qy)
            case true =>
              obtain ⟨hgy, hry⟩ := Bool.and_eq_true_iff.1 hty
              have hgy : x ≤ y := of_decide_eq_true hgy
              have hpy := HPy.out hry
              clear hty hry
              go_wp2
              go_roundg (0 + (y - 1))
              case measure => omega
              case rel => exact ⟨y - 1, by omega, by omega, rfl, by first | (go_num; done) | (congr 1; omega), HTy, hid ((scanDown_go (fun x => !ltN x dk1[a]!) dk1 x y hgy (by omega) hpy).symm.trans HUy.out)⟩
            case false =>
              have HIy : Hid (y = scanDown (fun x => !ltN x dk1[a]!) dk1 x (b - 1)) := hid (HUy.out.symm.trans (scanDown_end (fun x => !ltN x dk1[a]!) dk1 x y (by
                rcases Bool.and_eq_false_iff.1 hty with h | h
                · exact .inl (of_decide_eq_false h)
                · exact .inr (HNy.out h)))).symm
              clear hty HUy HPy HNy
              have HLT := hid (fun hle => part_scans_lt ltN a (a + 1) (b - 1) dk1 (by omega) HIx.out HIy.out hle)
              by_cases hgt : y < x
              · have HB := hid (part_first_break ltN d a b pivot rfl rfl HDK.out HIx.out HIy.out hgt)
                obtain ⟨hcw, hfw⟩ := HTy.out.reads HG
                obtain ⟨G2, _, hc2, _⟩ := ((HTy.out.set (y) (G (a))).drewN 1).fam
                have hu : ((wc.setCell ⟨g, off + (y), none⟩ (.int .u32 (G (a) : Int))).drew).cell? ⟨g, off + (a), none⟩ = some (.int .u32 (G2 (a) : Int)) := hc2 (a) (by omega)
                clear hc2
                clear HIx HIy HLT HDK
                go_wp2
                go_region
                all_goals
                  go_wp2
                  go_ret2
                  refine ⟨?_, ?_⟩
                  · rw [HB.out] <;> rfl
                  · rw [HB.out]; exact HTy.out.swp 1 y a (HG.out _) (HG.out _)
              · have hlt := HLT.out (by omega)
                have HP := hid (part_first_go ltN d a b pivot rfl rfl HDK.out HIx.out HIy.out (by omega))
                obtain ⟨hcw, hfw⟩ := HTy.out.reads HG
                have e2 : (y : Int) - 1 = ((y - 1 : Nat) : Int) := by omega
                obtain ⟨G2, _, hc2, _⟩ := ((HTy.out.set (x) (G (y))).drewN 1).fam
                have hu : ((wc.setCell ⟨g, off + (x), none⟩ (.int .u32 (G (y) : Int))).drew).cell? ⟨g, off + (y), none⟩ = some (.int .u32 (G2 (y) : Int)) := hc2 (y) (by omega)
                clear hc2
                clear HIx HIy HLT HDK
                go_wp2
                go_region
                have HS1 := hid (HTy.out.swp 1 x y (HG.out _) (HG.out _))
                clear hcw hfw hu
                obtain ⟨R, hR⟩ : ∃ R, R = partLoop ltN a (x + 1) (y - 1) (swp dk1 x y) := ⟨_, rfl⟩
                rw [← hR] at HP
                have HR := hid hR.symm; clear hR
                clear HG
                generalize swp dk1 x y = dk2 at *
                go_wp2
                go_loopg [10, 11] (y - 1 + 1 - (x + 1)) (fun gn vi vj wr => ∃ (i0 j0 : Nat) (dk : Array Nat), a < i0 ∧ i0 ≤ j0 + 1 ∧ j0 < b ∧ gn = j0 + 1 - i0 ∧ vi = .int .i64 (i0 : Int) ∧ vj = .int .i64 (j0 : Int) ∧ Hid (Sr off g c N w wr dk) ∧ Hid (partLoop ltN a i0 j0 dk = R))
                case atStart => exact ⟨x + 1, y - 1, dk2, by omega, by omega, by omega, rfl, by first | rfl | (go_num; done) | (congr 1; omega), by first | rfl | (go_num; done) | (congr 1; omega), HS1, HR⟩
                case round =>
                  obtain ⟨i0, j0, dk, h1, h2, h3, rfl, rfl, rfl, HS, HO⟩ := hrel
                  clear e2
                  obtain ⟨G, HG, _, _⟩ := HS.out.fam
                  go_wp2
                  go_loopg [10] (j0 + 1 - (i0)) (fun gn vi wr => ∃ i : Nat, i0 ≤ i ∧ i ≤ j0 + 1 ∧ gn = j0 + 1 - i ∧ vi = .int .i64 (i : Int) ∧ Hid (Sr off g c N w wr dk) ∧ Hid (scanUp (fun x => ltN x dk[a]!) dk j0 i = scanUp (fun x => ltN x dk[a]!) dk j0 i0))
                  case atStart => exact ⟨i0, by omega, by omega, by omega, by first | rfl | go_num | (congr 1; omega), HS, hid rfl⟩
                  case round =>
                    obtain ⟨i, hli, hhi, rfl, rfl, HSi, HUi⟩ := hrel
                    obtain ⟨qi, hqi⟩ : ∃ qi, qi = ltN (G (i)) (G (a)) := ⟨_, rfl⟩
                    have hless := fun w => less_u32 (G (i)) (G (a)) w
                    rw [← hqi] at hless
                    have hpi : qi = true → (fun x => ltN x dk[a]!) dk[i]! = true := fun h => by simp only [← HG.out]; rw [← hqi]; exact h
                    have hni : qi = false → (fun x => ltN x dk[a]!) dk[i]! = false := fun h => by simp only [← HG.out]; rw [← hqi]; exact h
                    have HPi := hid hpi
                    have HNi := hid hni
                    clear hqi hpi hni
                    obtain ⟨hcw, hfw⟩ := HSi.out.reads HG
                    
                    go_wp2
                    go_cut [112] (fun s wx => s = .bool (decide (i ≤ j0) && qi) ∧ Hid (Sr off g c N w wx dk))
                    case first =>
                      by_cases hgi : i ≤ j0
                      · go_quiet (first | (go_at_call 43; refine Calls.quiet_of_same (hless _)))
                        go_wp2_with fail
                        go_meet
                        exact ⟨congrArg Value.bool (by simp [hgi]), hid (HSi.out.drewN _)⟩
                      · go_quiet (first | (go_at_call 43; refine Calls.quiet_of_same (hless _)))
                        go_wp2_with fail
                        go_meet
                        exact ⟨congrArg Value.bool (by simp [hgi]), hid (HSi.out.drewN _)⟩
                    case rest =>
                      obtain ⟨rfl, HTi⟩ := hcut
                      clear hcw hfw hless HSi
                      cases hti : (decide (i ≤ j0) && qi)
                      case true =>
                        obtain ⟨hgi, hri⟩ := Bool.and_eq_true_iff.1 hti
                        have hgi : i ≤ j0 := of_decide_eq_true hgi
                        have hpi := HPi.out hri
                        clear hti hri
                        go_wp2
                        go_roundg (j0 + 1 - (i + 1))
                        case measure => omega
                        case rel => exact ⟨i + 1, by omega, by omega, rfl, by first | (go_num; done) | (congr 1; omega), HTi, hid ((scanUp_go (fun x => ltN x dk[a]!) dk j0 i hgi hpi).symm.trans HUi.out)⟩
                      case false =>
                        have HIi : Hid (i = scanUp (fun x => ltN x dk[a]!) dk j0 i0) := hid (HUi.out.symm.trans (scanUp_end (fun x => ltN x dk[a]!) dk j0 i (by
                          rcases Bool.and_eq_false_iff.1 hti with h | h
                          · exact .inl (of_decide_eq_false h)
                          · exact .inr (HNi.out h)))).symm
                        clear hti HUi HPi HNi
                        go_wp2
                        go_loopg [11] (0 + (j0)) (fun gn vi wr => ∃ j : Nat, j ≤ j0 ∧ i ≤ j + 1 ∧ gn = 0 + j ∧ vi = .int .i64 (j : Int) ∧ Hid (Sr off g c N w wr dk) ∧ Hid (scanDown (fun x => !ltN x dk[a]!) dk i j = scanDown (fun x => !ltN x dk[a]!) dk i j0))
                        case atStart => exact ⟨j0, by omega, by omega, by omega, by first | rfl | go_num | (congr 1; omega), HTi, hid rfl⟩
                        case round =>
                          obtain ⟨j, hlj, hhj, rfl, rfl, HSj, HUj⟩ := hrel
                          obtain ⟨qj, hqj⟩ : ∃ qj, qj = ltN (G (j)) (G (a)) := ⟨_, rfl⟩
                          have hless := fun w => less_u32 (G (j)) (G (a)) w
                          rw [← hqj] at hless
                          have hpj : (!qj) = true → (fun x => !ltN x dk[a]!) dk[j]! = true := fun h => by simp only [← HG.out]; rw [← hqj]; exact h
                          have hnj : (!qj) = false → (fun x => !ltN x dk[a]!) dk[j]! = false := fun h => by simp only [← HG.out]; rw [← hqj]; exact h
                          have HPj := hid hpj
                          have HNj := hid hnj
                          clear hqj hpj hnj
                          obtain ⟨hcw, hfw⟩ := HSj.out.reads HG
                          have ej : 1 ≤ j → (j : Int) - 1 = ((j - 1 : Nat) : Int) := fun h => by omega
                          go_wp2
                          go_cut [129] (fun s wx => s = .bool (decide (i ≤ j) && !qj) ∧ Hid (Sr off g c N w wx dk))
                          case first =>
                            by_cases hgj : i ≤ j
                            · go_quiet (first | (go_at_call 43; refine Calls.quiet_of_same (hless _)))
                              go_wp2_with fail
                              go_meet
                              exact ⟨congrArg Value.bool (by simp [hgj]), hid (HSj.out.drewN _)⟩
                            · go_quiet (first | (go_at_call 43; refine Calls.quiet_of_same (hless _)))
                              go_wp2_with fail
                              go_meet
                              exact ⟨congrArg Value.bool (by simp [hgj]), hid (HSj.out.drewN _)⟩
                          case rest =>
                            obtain ⟨rfl, HTj⟩ := hcut
                            clear hcw hfw hless HSj
                            cases htj : (decide (i ≤ j) && !qj)
                            case true =>
                              obtain ⟨hgj, hrj⟩ := Bool.and_eq_true_iff.1 htj
                              have hgj : i ≤ j := of_decide_eq_true hgj
                              have hpj := HPj.out hrj
                              clear htj hrj
                              go_wp2
                              go_roundg (0 + (j - 1))
                              case measure => omega
                              case rel => exact ⟨j - 1, by omega, by omega, rfl, by first | (go_num; done) | (congr 1; omega), HTj, hid ((scanDown_go (fun x => !ltN x dk[a]!) dk i j hgj (by omega) hpj).symm.trans HUj.out)⟩
                            case false =>
                              have HIj : Hid (j = scanDown (fun x => !ltN x dk[a]!) dk i j0) := hid (HUj.out.symm.trans (scanDown_end (fun x => !ltN x dk[a]!) dk i j (by
                                rcases Bool.and_eq_false_iff.1 htj with h | h
                                · exact .inl (of_decide_eq_false h)
                                · exact .inr (HNj.out h)))).symm
                              clear htj HUj HPj HNj
                              have HLT := hid (fun hle => part_scans_lt ltN a i0 j0 dk (by omega) HIi.out HIj.out hle)
                              by_cases hgt : j < i
                              · have HB := hid ((part_break ltN a i0 j0 dk HIi.out HIj.out hgt).symm.trans HO.out)
                                obtain ⟨hcw, hfw⟩ := HTj.out.reads HG
                                obtain ⟨G3, _, hc3, _⟩ := ((HTj.out.set (j) (G (a))).drewN 1).fam
                                have hu : ((wc.setCell ⟨g, off + (j), none⟩ (.int .u32 (G (a) : Int))).drew).cell? ⟨g, off + (a), none⟩ = some (.int .u32 (G3 (a) : Int)) := hc3 (a) (by omega)
                                clear hc3
                                clear HIi HIj HLT HO
                                go_wp2
                                go_region
                                all_goals
                                  go_wp2
                                  go_ret2
                                  refine ⟨?_, ?_⟩
                                  · rw [HP.out, ← HB.out] <;> rfl
                                  · rw [HP.out, ← HB.out]; exact HTj.out.swp 1 j a (HG.out _) (HG.out _)
                              · have hlt := HLT.out (by omega)
                                have HB := hid ((part_go ltN a i0 j0 dk HIi.out HIj.out (by omega)).symm.trans HO.out)
                                obtain ⟨hcw, hfw⟩ := HTj.out.reads HG
                                have e2 : (j : Int) - 1 = ((j - 1 : Nat) : Int) := by omega
                                obtain ⟨G3, _, hc3, _⟩ := ((HTj.out.set (i) (G (j))).drewN 1).fam
                                have hu : ((wc.setCell ⟨g, off + (i), none⟩ (.int .u32 (G (j) : Int))).drew).cell? ⟨g, off + (j), none⟩ = some (.int .u32 (G3 (j) : Int)) := hc3 (j) (by omega)
                                clear hc3
                                clear HIi HIj HLT
                                go_wp2
                                go_region
                                all_goals go_wp2
                                go_roundg (j - 1 + 1 - (i + 1))
                                case measure => omega
                                case rel => exact ⟨i + 1, j - 1, swp dk i j, by omega, by omega, by omega, rfl, by first | (go_num; done) | (congr 1; omega), by first | (go_num; done) | (congr 1; omega), hid (HTj.out.swp 1 i j (HG.out _) (HG.out _)), HB⟩
end Go.Proofs.Ytmaklneiedljjaa
