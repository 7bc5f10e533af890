/-
  The library's pattern-defeating quicksort at numbers of 32 bits: what is in the range is sorted behind it, and is the same.
-/
import Derived.Test.YtmaklneiedljjaaSr2
import Derived.Test.YtmaklneiedljjaaSr3b
import Derived.Test.YtmaklneiedljjaaSr4
import Derived.Test.YtmaklneiedljjaaSr4b
import Derived.Test.YtmaklneiedljjaaSr5
import Derived.Test.YtmaklneiedljjaaSr6b
import Derived.Test.YtmaklneiedljjaaSr7b
import Derived.Sort.LotA
import Derived.Sort.LotB
import Derived.Sort.LotC
namespace Go.Proofs.Ytmaklneiedljjaa
open Go.RowKit Go.Sort
set_option linter.unusedVariables false

set_option maxHeartbeats 16000000 in
set_option maxRecDepth 100000 in
theorem pdq_any (off g c N : Nat) (hN : N ≤ 1000000) : ∀ (n a b lim : Nat) (w : World) (d : Array Nat), b ≤ a + n → a ≤ b → b ≤ N → lim ≤ 1000 → Sr off g c N w w d → Sort.Below ltN a b d →
    Calls Try.prog 35 #[.slice (some ⟨g, off, none⟩) N c, .int .i64 a, .int .i64 b, .int .i64 lim] w fun e w' => ∃ d', e = .returned (.tuple #[]) ∧ PermIn a b d d' ∧ SortedIn ltN a b d' ∧ Sr off g c N w w' d' := by
  intro n
  induction n using Nat.strongRecOn with
  | ind n ih =>
  intro a b lim w d hn hab hb hlim h hB
  have IH := hid ih; clear ih
  have H := hid h; clear h
  have HB := hid hB; clear hB
  go_enter Try.func35, Try.ntmps35
  go_wp2
  go_loopg [1, 2, 3, 8, 9] (b - a) (fun gn v1 v2 v3 v8 v9 wr => ∃ (x y m : Nat) (wb wp : Bool) (dk : Array Nat), a ≤ x ∧ x ≤ y ∧ y ≤ b ∧ gn = y - x ∧ v1 = .int .i64 (x : Int) ∧ v2 = .int .i64 (y : Int) ∧ v3 = .int .i64 (m : Int) ∧ m ≤ 1000 ∧ v8 = .bool wb ∧ v9 = .bool wp ∧
    Hid (Sr off g c N w wr dk) ∧ Hid (Sort.Below ltN x y dk) ∧ Hid (∀ R, PermIn x y dk R → SortedIn ltN x y R → PermIn a b d R ∧ SortedIn ltN a b R))
  case atStart => exact ⟨a, b, lim, true, true, d, by omega, by omega, by omega, rfl, rfl, rfl, rfl, hlim, rfl, rfl, H, HB, hid (fun R h1 h2 => ⟨h1, h2⟩)⟩
  case round =>
    obtain ⟨x, y, m, wb, wp, dk, hx, hxy, hy, rfl, rfl, rfl, rfl, hm, rfl, rfl, HS, HB2, HR⟩ := hrel
    clear HB
    obtain ⟨l, hl1, hl2⟩ : ∃ l, y ≤ x + l ∧ x + l ≤ y := ⟨y - x, by omega, by omega⟩
    have el : (y : Int) - (x : Int) = (l : Int) := by omega
    have HZ := hid (show y ≤ dk.size by rw [HS.out.size]; omega)
    by_cases h12 : l ≤ 12
    · have d12 : decide ((l : Int) ≤ 12) = true := by simp; omega
      have k := hid (insertion_any off g c N x y wr dk HS.out.start hxy (by omega) hN)
      go_wp2_with (go_at_call 37; (with_reducible refine k.out.mono ?_); rintro e w1 ⟨rfl, s1⟩; have S1 := hid (HS.out.call s1))
      (try simp only [Exit.inBlock, Exit.then])
      refine bodyPost_ret (results_none rfl _ _ _) rfl ?_
      obtain ⟨p1, p2⟩ := insertionSort_holds swoN dk x y hxy HZ.out
      exact ⟨_, rfl, (HR.out _ p1 p2).1, (HR.out _ p1 p2).2, S1.out⟩
    · have d12 : decide ((l : Int) ≤ 12) = false := by simp; omega
      by_cases hm0 : m = 0
      · subst hm0
        have k := hid (heapSort_any off g c N x y wr dk HS.out.start (by omega) (by omega) hN)
        go_wp2_with (go_at_call 38; (with_reducible refine k.out.mono ?_); rintro e w1 ⟨rfl, s1⟩; have S1 := hid (HS.out.call s1))
        (try simp only [Exit.inBlock, Exit.then])
        refine bodyPost_ret (results_none rfl _ _ _) rfl ?_
        obtain ⟨p1, p2⟩ := heapSort_holds swoN dk x y hxy HZ.out
        exact ⟨_, rfl, (HR.out _ p1 p2).1, (HR.out _ p1 p2).2, S1.out⟩
      · have dm0 : ((m : Int) == 0) = false := by simp; omega
        have em : (m : Int) - 1 = ((m - 1 : Nat) : Int) := by omega
        have kB := hid (break_any off g c N x y l wr dk HS.out.start hl1 hl2 (by omega) (by omega) hN)
        go_upto_if 35 with fail
        go_cut [3] (fun s3 wx => ∃ (m2 : Nat) (d1 : Array Nat), s3 = .int .i64 (m2 : Int) ∧ m2 ≤ 1000 ∧ Hid (PermIn x y dk d1) ∧ Hid (Sr off g c N w wx d1))
        case first =>
          cases wb
          · go_wp2_with (go_at_call 39; (with_reducible refine kB.out.mono ?_); rintro e w1 ⟨d1, rfl, p1, s1⟩; have P1 := hid p1; have S1 := hid (HS.out.call s1); clear p1 s1)
            go_meet
            exact ⟨m - 1, d1, rfl, by omega, P1, S1⟩
          · go_wp2_with fail
            go_meet
            exact ⟨m, dk, rfl, hm, hid (permIn_refl dk x y), HS⟩
        case rest =>
        obtain ⟨m2, d1, rfl, hm2, P1, S1⟩ := hcut
        clear kB em dm0 hm0 hm HS
        have kC := hid (pivot_any off g c N x y l wc d1 S1.out.start hl1 hl2 (by omega) (by omega) hN)
        go_upto_if 50 with (go_at_call 40; (with_reducible refine kC.out.mono ?_); rintro e w2 ⟨p, t, hp1, hp2, ht, rfl, g2⟩; have S2 := hid (S1.out.below g2); clear g2)
        clear kC S1
        go_cut [11, 12] (fun s11 s12 wx => ∃ (p2 t2 : Nat) (d2 : Array Nat), s11 = .int .i64 (p2 : Int) ∧ s12 = .int .i64 (t2 : Int) ∧ x ≤ p2 ∧ p2 < y ∧ t2 ≤ 2 ∧ Hid (PermIn x y dk d2) ∧ Hid (Sr off g c N w wx d2))
        case first =>
          have kV := hid (reverse_any off g c N x y w2 d1 S2.out.start (by omega) (by omega) hN)
          by_cases ht2 : t = 2
          · subst ht2
            have e1 : (y : Int) - 1 - ((p : Int) - (x : Int)) = ((y - 1 - (p - x) : Nat) : Int) := by omega
            go_wp2_with (go_at_call 41; (with_reducible refine kV.out.mono ?_); rintro e w3 ⟨rfl, s3⟩; have S3 := hid (S2.out.call s3); clear s3)
            go_meet
            exact ⟨y - 1 - (p - x), 1, reverseRange d1 x y, rfl, rfl, by omega, by omega, by omega, hid (permIn_trans _ _ _ x y P1.out (reverseRange_holds d1 x y hxy (by rw [P1.out.1]; exact HZ.out))), S3⟩
          · have dt : ((t : Int) == 2) = false := by simp; omega
            go_wp2_with fail
            go_meet
            exact ⟨p, t, d1, rfl, rfl, hp1, hp2, ht, P1, S2⟩
        case rest =>
        clear hp1 hp2 ht S2 P1
        obtain ⟨p2, t2, d2, rfl, rfl, hp1, hp2, ht2, P2, S2⟩ := hcut
        have B2 := hid (Sort.Below.perm (HB2.out) HZ.out P2.out)
        go_upto_region 15 with fail
        go_cut [68] (fun s68 wx => ∃ z : Bool, s68 = .bool z ∧ Hid (Sr off g c N w wx d2))
        case first =>
          cases wb
          · go_wp2_with fail
            go_meet
            exact ⟨_, rfl, S2⟩
          · cases wp
            · go_wp2_with fail
              go_meet
              exact ⟨_, rfl, S2⟩
            · go_wp2_with fail
              go_meet
              exact ⟨_, rfl, S2⟩
        case rest =>
        clear S2
        obtain ⟨z, rfl, S2⟩ := hcut
        have kI := hid (partial_any off g c N x y wc d2 S2.out.start (by omega) (by omega) hN)
        have QI := hid (partialInsertionSort_holds swoN d2 x y (show x < y by omega) (by rw [P2.out.1]; exact HZ.out) B2.out)
        generalize partialInsertionSort ltN d2 x y = pr at *
        obtain ⟨d3, fin⟩ := pr
        simp only at kI QI
        go_upto_if 68 with fail
        go_cut [11] (fun s11 wx => s11 = .int .i64 (p2 : Int) ∧ ∃ (d4 : Array Nat), Hid (PermIn x y dk d4) ∧ Hid (Sr off g c N w wx d4))
        case first =>
          cases z
          · go_wp2_with fail
            go_meet
            exact ⟨rfl, d2, P2, S2⟩
          · cases fin
            · go_wp2_with (go_at_call 42; (with_reducible refine kI.out.mono ?_); rintro e w3 ⟨rfl, s3⟩; have S3 := hid (S2.out.call s3); clear s3)
              go_meet
              exact ⟨rfl, d3, hid (permIn_trans _ _ _ x y P2.out QI.out.1), S3⟩
            · go_wp2_with (go_at_call 42; (with_reducible refine kI.out.mono ?_); rintro e w3 ⟨rfl, s3⟩; have S3 := hid (S2.out.call s3); clear s3)
              (try simp only [Exit.inBlock, Exit.then])
              refine bodyPost_ret (results_none rfl _ _ _) rfl ?_
              have q1 := permIn_trans _ _ _ x y P2.out QI.out.1
              exact ⟨d3, rfl, (HR.out _ q1 (QI.out.2 (by trivial))).1, (HR.out _ q1 (QI.out.2 (by trivial))).2, S3.out⟩
        case rest =>
        clear S2 P2 B2 kI QI z fin
        obtain ⟨rfl, d4, P4, S4⟩ := hcut
        have B4 := hid (Sort.Below.perm (HB2.out) HZ.out P4.out)
        have HZ4 := hid (show y ≤ d4.size by rw [P4.out.1]; exact HZ.out)
        clear HB2 HZ
        obtain ⟨G, HG, hcw, hfw⟩ := S4.out.fam
        obtain ⟨q, hq⟩ : ∃ q, q = ltN (G (x - 1)) (G p2) := ⟨_, rfl⟩
        have hless := fun w => less_u32 (G (x - 1)) (G p2) w
        rw [← hq] at hless
        have HQ := hid (show q = false → ltN d4[x - 1]! d4[p2]! = false from fun h => by rw [← HG.out, ← HG.out, ← hq]; exact h)
        clear hq
        go_wp2
        go_cut [87] (fun s wx => s = .bool (decide (0 < x) && !q) ∧ Hid (Sr off g c N w wx d4))
        case first =>
          by_cases hx0 : 0 < x
          · have e1 : (x : Int) - 1 = ((x - 1 : Nat) : Int) := by omega
            go_quiet (first | (go_at_call 43; refine Calls.quiet_of_same (hless _)))
            go_wp2_with fail
            go_meet
            exact ⟨congrArg Value.bool (by simp [hx0]), hid (S4.out.drewN _)⟩
          · go_quiet (first | (go_at_call 43; refine Calls.quiet_of_same (hless _)))
            go_wp2_with fail
            go_meet
            exact ⟨congrArg Value.bool (by simp [hx0]), hid (S4.out.drewN _)⟩
        case rest =>
        clear hcw hfw hless S4 HG
        obtain ⟨rfl, S4⟩ := hcut
        cases hb87 : (decide (0 < x) && !q)
        case true =>
          obtain ⟨hx0, hqf⟩ := Bool.and_eq_true_iff.1 hb87
          have hx0 : 0 < x := of_decide_eq_true hx0
          have hnl := HQ.out (by simpa using hqf)
          clear hb87 hqf HQ q
          have kE := partEq_any off g c N x y p2 wc d4 S4.out.start hp1 hp2 (by omega) hN
          obtain ⟨⟨mid, d5⟩, hpe⟩ : ∃ r, partitionEqual ltN d4 x y p2 = r := ⟨_, rfl⟩
          rw [hpe] at kE
          obtain ⟨r1, r2, r3, r4, r5⟩ := round_eq swoN (partitionEqual_holds ltN) hx0 hp1 hp2 HZ4.out B4.out hnl hpe
          have KE := hid kE
          have R4 := hid r4
          have R5 := hid r5
          clear kE r4 r5 hnl hpe r3
          go_wp2_with (go_at_call 44; (with_reducible refine KE.out.mono ?_); rintro e w5 ⟨rfl, s5⟩; have S5 := hid (S4.out.call s5); clear s5)
          go_roundg (y - mid)
          case measure => omega
          case rel => exact ⟨mid, y, m2, wb, wp, d5, by omega, by omega, by omega, rfl, rfl, rfl, rfl, hm2, rfl, rfl, S5, R4, hid (fun R h1 h2 => HR.out R (permIn_trans _ _ _ x y P4.out (R5.out R h1 h2).1) (R5.out R h1 h2).2)⟩
        case false =>
          clear hb87 HQ q
          have kE := part_any off g c N x y p2 wc d4 S4.out.start hp1 hp2 (by omega) hN
          obtain ⟨⟨mid, ap, d5⟩, hpe⟩ : ∃ r, partition ltN d4 x y p2 = r := ⟨_, rfl⟩
          rw [hpe] at kE
          obtain ⟨r1, r2, r3, r4, r5, r6, r7⟩ := round_part swoN (partition_holds ltN) hp1 hp2 HZ4.out B4.out hpe
          have KE := hid kE
          have R4 := hid r4
          have R5 := hid r5
          have R6 := hid r6
          have R7 := hid r7
          clear kE r4 r5 r6 r7 hpe r3
          by_cases hlr : mid - x < y - mid
          · have dlr : decide ((mid : Int) - (x : Int) < (y : Int) - (mid : Int)) = true := by simp; omega
            go_wp2_with (first
              | (go_at_call 45; (with_reducible refine KE.out.mono ?_); rintro e w5 ⟨rfl, s5⟩; have S5 := hid (S4.out.call s5); clear s5; have kQ := hid (IH.out (mid - x) (by omega) x mid m2 w5 d5 (by omega) (by omega) (by omega) hm2 S5.out.start R4.out))
              | (go_at_call 35; (with_reducible refine kQ.out.mono ?_); rintro e w6 ⟨d6, rfl, p6, o6, s6⟩; have S6 := hid (S5.out.call s6); have P6 := hid p6; have O6 := hid o6; clear s6 p6 o6))
            go_roundg (y - (mid + 1))
            case measure => omega
            case rel => exact ⟨mid + 1, y, m2, _, ap, d6, by omega, by omega, by omega, rfl, by first | rfl | (go_num; done), rfl, rfl, hm2, rfl, rfl, S6, hid ((R6.out d6 P6.out O6.out).1), hid (fun R h1 h2 => HR.out R (permIn_trans _ _ _ x y P4.out ((R6.out d6 P6.out O6.out).2 R h1 h2).1) ((R6.out d6 P6.out O6.out).2 R h1 h2).2)⟩
          · have dlr : decide ((mid : Int) - (x : Int) < (y : Int) - (mid : Int)) = false := by simp; omega
            have e1 : ((mid + 1 : Nat) : Int) = (mid : Int) + 1 := by omega
            go_wp2_with (first
              | (go_at_call 45; (with_reducible refine KE.out.mono ?_); rintro e w5 ⟨rfl, s5⟩; have S5 := hid (S4.out.call s5); clear s5; have kQ := IH.out (y - (mid + 1)) (by omega) (mid + 1) y m2 w5 d5 (by omega) (by omega) (by omega) hm2 S5.out.start R5.out; rw [e1] at kQ; clear e1; have KQ := hid kQ; clear kQ)
              | (go_at_call 35; (with_reducible refine KQ.out.mono ?_); rintro e w6 ⟨d6, rfl, p6, o6, s6⟩; have S6 := hid (S5.out.call s6); have P6 := hid p6; have O6 := hid o6; clear s6 p6 o6))
            go_roundg (mid - x)
            case measure => omega
            case rel => exact ⟨x, mid, m2, _, ap, d6, by omega, by omega, by omega, rfl, rfl, rfl, rfl, hm2, rfl, rfl, S6, hid ((R7.out d6 P6.out O6.out).1), hid (fun R h1 h2 => HR.out R (permIn_trans _ _ _ x y P4.out ((R7.out d6 P6.out O6.out).2 R h1 h2).1) ((R7.out d6 P6.out O6.out).2 R h1 h2).2)⟩
end Go.Proofs.Ytmaklneiedljjaa
