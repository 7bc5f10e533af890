/-
  Contract of the document's Before.
-/
import Derived.Test.YtcgpdldccfpjgaaB4g
namespace Go.Proofs.Ytcgpdldccfpjgaa
open Go.RowKit Go.Sort
set_option linter.unusedVariables false

theorem heL_con {id : Nat} {ext rem : Bool} {dlc k : Nat} {x : Bool} (hk : k < (conL id ext rem).length) (h : (heL id ext rem dlc)[k]? = some x) : (conL id ext rem)[k]? = some x := by
  unfold heL at h
  rw [List.append_assoc, List.append_assoc, List.getElem?_append_left hk] at h
  exact h

set_option maxHeartbeats 2000000 in
theorem refBefore_any (w : World) (id : Nat) (ext rem : Bool) (dlc : Nat) (a : Option Addr) (n c : Nat) (id2 : Nat) (ext2 rem2 : Bool) (dlc2 : Nat) (a2 : Option Addr) (n2 c2 : Nat) (hi : id < 4294967296) (hd : dlc < 256) (hi2 : id2 < 4294967296) (hd2 : dlc2 < 256) :
    Calls Try.prog 18 #[.agg #[.int .u32 (id : Int), .bool ext, .bool rem, .int .u8 (dlc : Int), .slice a n c], .agg #[.int .u32 (id2 : Int), .bool ext2, .bool rem2, .int .u8 (dlc2 : Int), .slice a2 n2 c2]] w
      fun e w' => e = .returned (.bool (riF id ext rem dlc n && riF id2 ext2 rem2 dlc2 n2 && bfL (conL id ext rem) (conL id2 ext2 rem2))) ∧ Below w.heap.size w w' := by
  obtain ⟨w0, hw0, hbx, hby, gg0⟩ := boxed2 w 25 #[.int .u32 (id : Int), .bool ext, .bool rem, .int .u8 (dlc : Int), .slice a n c] #[.int .u32 (id2 : Int), .bool ext2, .bool rem2, .int .u8 (dlc2 : Int), .slice a2 n2 c2]
  have hr1 := fun w0 => refRight_any w0 id ext rem dlc a n c hi hd
  have hr2 := fun w0 => refRight_any w0 id2 ext2 rem2 dlc2 a2 n2 c2 hi2 hd2
  cases hA : riF id ext rem dlc n
  · rw [hA] at hr1
    go_enter Try.func18, Try.ntmps18
    go_wp2_with (first
      | (go_at_call 14; rw [hw0.out]; (with_reducible refine (hr1 w0).mono ?_); rintro e w1 ⟨rfl, g1⟩))
    go_ret
    exact ⟨rfl, bstep gg0 g1⟩
  rw [hA] at hr1
  cases hB : riF id2 ext2 rem2 dlc2 n2
  · rw [hB] at hr2
    go_enter Try.func18, Try.ntmps18
    go_wp2_with (first
      | (go_at_call 14; rw [hw0.out]; (with_reducible refine (hr1 w0).mono ?_); rintro e w1 ⟨rfl, g1⟩; obtain ⟨q0, q1, q2, q3, q4⟩ := bx5 (bx_below hby g1))
      | (go_at_call 14; (with_reducible refine (hr2 w1).mono ?_); rintro e w2 ⟨rfl, g2⟩))
    go_ret
    exact ⟨rfl, bstep (bstep gg0 g1) g2⟩
  rw [hB] at hr2
  have hc1 := fun w0 => refHead_any w0 id ext rem dlc a n c hi hd
  have hc2 := fun w0 => refHead_any w0 id2 ext2 rem2 dlc2 a2 n2 c2 hi2 hd2
  have hlen1 := conL_length id ext rem
  have hlen2 := conL_length id2 ext2 rem2
  obtain ⟨l1, hl1⟩ : ∃ l1, l1 = conL id ext rem := ⟨_, rfl⟩
  obtain ⟨l2, hl2⟩ : ∃ l2, l2 = conL id2 ext2 rem2 := ⟨_, rfl⟩
  have hX : ∀ k x, k < l1.length → (heL id ext rem dlc)[k]? = some x → l1[k]? = some x := fun k x h1 h2 => by rw [hl1] at h1 ⊢; exact heL_con h1 h2
  have hY : ∀ k x, k < l2.length → (heL id2 ext2 rem2 dlc2)[k]? = some x → l2[k]? = some x := fun k x h1 h2 => by rw [hl2] at h1 ⊢; exact heL_con h1 h2
  rw [← hl1] at hlen1
  rw [← hl2] at hlen2
  rw [← hl1, ← hl2]
  clear hl1 hl2 hA hB
  obtain ⟨h1, hh1⟩ : ∃ h1, h1 = heL id ext rem dlc := ⟨_, rfl⟩
  obtain ⟨h2, hh2⟩ : ∃ h2, h2 = heL id2 ext2 rem2 dlc2 := ⟨_, rfl⟩
  simp only [← hh1] at hc1 hX
  simp only [← hh2] at hc2 hY
  clear hh1 hh2
  have HX' := hid hX; clear hX
  have HY' := hid hY; clear hY
  obtain ⟨bt, hbt⟩ : ∃ bt, bt = bfL l1 l2 := ⟨_, rfl⟩
  rw [← hbt]
  simp only [Bool.true_and]
  have HB := hid hbt; clear hbt
  have hM1 : conN ext ≤ heN ext := by unfold conN heN; split <;> omega
  have hM2 : conN ext2 ≤ heN ext2 := by unfold conN heN; split <;> omega
  obtain ⟨M1, hM1'⟩ : ∃ M1, M1 = heN ext := ⟨_, rfl⟩
  obtain ⟨M2, hM2'⟩ : ∃ M2, M2 = heN ext2 := ⟨_, rfl⟩
  simp only [← hM1'] at hc1 hM1
  simp only [← hM2'] at hc2 hM2
  rw [← hlen1] at hM1
  rw [← hlen2] at hM2
  clear hM1' hM2'
  go_enter Try.func18, Try.ntmps18
  go_wp2_with (first
    | (go_at_call 14; rw [hw0.out]; (with_reducible refine (hr1 w0).mono ?_); rintro e w1 ⟨rfl, g1⟩; obtain ⟨q0, q1, q2, q3, q4⟩ := bx5 (bx_below hby g1))
    | (go_at_call 14; (with_reducible refine (hr2 w1).mono ?_); rintro e w2 ⟨rfl, g2⟩; have hbx2 := bx_below (bx_below hbx g1) g2; have hby2 := bx_below (bx_below hby g1) g2; have gg2 := bstep (bstep gg0 g1) g2))
  clear q0 q1 q2 q3 q4
  have hd1 : Below w2.heap.size w2 w2.drew := (Below.refl _ _).drew
  go_region_held3 (fun w' => w'.cell? ⟨w.heap.size, 0, none⟩ = some (.int .u32 (id : Int)) ∧ w'.cell? ⟨w.heap.size, 1, none⟩ = some (.bool ext) ∧ w'.cell? ⟨w.heap.size, 2, none⟩ = some (.bool rem) ∧ w'.cell? ⟨w.heap.size, 3, none⟩ = some (.int .u8 (dlc : Int)) ∧ w'.cell? ⟨w.heap.size, 4, none⟩ = some (.slice a n c) ∧
      w'.cell? ⟨w.heap.size + 1, 0, none⟩ = some (.int .u32 (id2 : Int)) ∧ w'.cell? ⟨w.heap.size + 1, 1, none⟩ = some (.bool ext2) ∧ w'.cell? ⟨w.heap.size + 1, 2, none⟩ = some (.bool rem2) ∧ w'.cell? ⟨w.heap.size + 1, 3, none⟩ = some (.int .u8 (dlc2 : Int)) ∧ w'.cell? ⟨w.heap.size + 1, 4, none⟩ = some (.slice a2 n2 c2) ∧ Below w2.heap.size w2 w')
    (first
      | exact held10 hbx2 hby2 hd1
      | exact held10 hbx2 hby2 g15
      | exact held10 hbx2 hby2 g16)
    (first
      | (go_simp; go_at_call 33; (with_reducible refine Calls.mono (hc1 w2.drew) ?_); rintro e w5 ⟨a5, c5, rfl, hol5, g5⟩; have g15 : Below w2.heap.size w2 w5 := hd1.trans g5)
      | (go_simp; go_at_call 33; (with_reducible refine Calls.mono (hc2 w5) ?_); rintro e w6 ⟨a6, c6, rfl, hol6, g6⟩; have hol56 := (hol5.below g6).rl; have hr6 := hol6.rl; have g16 := bstep g15 g6))
  all_goals
    have gg6 := bstep gg2 g16
    obtain ⟨_, r1, _, _, _⟩ := bx5 (bx_below hbx2 g16)
    obtain ⟨_, r2, _, _, _⟩ := bx5 (bx_below hby2 g16)
    clear hbx2 hby2 hc1 hc2 hr1 hr2 hbx hby hol5 hol6 g15 g16 hd1 gg2 gg0 g1 g2 g5 g6
    cases ext <;> cases ext2
  all_goals
    simp only [conN, Bool.false_eq_true, if_false, if_true] at hlen1 hlen2
    go_wp2_with fail
    clear r1 r2
    go_loopw [9] (fun i wr => ∃ k : Nat, i = .int .i64 (k : Int) ∧ bfL (l1.drop k) (l2.drop k) = bt ∧ Below w6.heap.size w6 wr) (fun i _ => 40 - (intOf i).toNat)
    case atStart => exact ⟨0, rfl, HB.out.symm, Below.refl _ _⟩
    case round =>
      obtain ⟨k, rfl, hbf, hb⟩ := hrel
      have HF := hid hbf; clear hbf
      have HE : Hid (l1.length ≤ k ∨ l2.length ≤ k → bt = false) := fun h => HF.out.symm.trans (bfL_end h)
      by_cases hlt1 : k < l1.length
      · by_cases hlt2 : k < l2.length
        · obtain ⟨b1, off1, x, rfl, hx, hck⟩ := (hol56.below hb).at (k := k) (by omega)
          obtain ⟨b2, off2, y, rfl, hy, hck2⟩ := (hr6.below hb).at (k := k) (by omega)
          have HX := hid (HX'.out k x hlt1 hx); clear hx
          have HY := hid (HY'.out k y hlt2 hy); clear hy
          rw [hlen1] at hlt1 hM1
          rw [hlen2] at hlt2 hM2
          have HST : Hid (x = y → bfL (l1.drop (k + 1)) (l2.drop (k + 1)) = bt) := fun e => (bfL_step HX.out (by rw [← e] at HY; exact HY.out)).trans HF.out
          have HSN : Hid (x ≠ y → y = bt) := fun e => (bfL_stop HX.out HY.out e).symm.trans HF.out
          have i1 : (k : Int) < (M1 : Int) := by omega
          have i2 : (k : Int) < (M2 : Int) := by omega
          clear HX HY HE
          cases x <;> cases y
          · have HS2 := hid (HST.out rfl)
            clear HST HSN
            go_wp2
            go_roundw
            case rel => exact ⟨k + 1, by go_num, HS2.out, hb⟩
            case measure => simp [intOf]; omega
          · have HS2 := hid (HSN.out (by decide))
            clear HST HSN
            go_wp2
            go_ret
            exact ⟨ret_bool HS2.out, bstep gg6 hb⟩
          · have HS2 := hid (HSN.out (by decide))
            clear HST HSN
            go_wp2
            go_ret
            exact ⟨ret_bool HS2.out, bstep gg6 hb⟩
          · have HS2 := hid (HST.out rfl)
            clear HST HSN
            go_wp2
            go_roundw
            case rel => exact ⟨k + 1, by go_num, HS2.out, hb⟩
            case measure => simp [intOf]; omega
        · have HS2 := hid (HE.out (.inr (by omega)))
          rw [hlen2] at hlt2
          rw [hlen1] at hlt1
          clear HE hM1 hM2
          first
            | (exfalso; omega)
            | (go_wp2; go_ret; exact ⟨ret_bool HS2.out.symm, bstep gg6 hb⟩)
      · have HS2 := hid (HE.out (.inl (by omega)))
        rw [hlen1] at hlt1
        clear HE hM1 hM2
        go_wp2
        go_ret
        exact ⟨ret_bool HS2.out.symm, bstep gg6 hb⟩
end Go.Proofs.Ytcgpdldccfpjgaa
