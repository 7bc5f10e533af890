/-
  The contract of the document's own Sum of layer 3: a division of polynomials, done in place. It returns the check sum of the bits.
-/
import Derived.Test.YthpgcgkgokfnpaaB3c
import Derived.BigGuard
import Derived.Deep.Light
namespace Go.Proofs.Ythpgcgkgokfnpaa
open Go.RowKit
set_option linter.unusedVariables false

/-- What stands at place j when i steps of the division are done. -/
def refF (l : List Bool) (i j : Nat) : Bool := (suV (l.take i)).getMsbD (j - i) != (l[j]?.getD false)

/-- The polynomial, its highest bit first. -/
def pol (k : Nat) : Bool := k == 0 || (0x4599#15).getMsbD (k - 1)

theorem refF_zero (l : List Bool) (j : Nat) : refF l 0 j = l[j]?.getD false := by
  have h : suV (l.take 0) = 0#15 := by rw [List.take_zero]; rfl
  unfold refF
  rw [h, BitVec.getMsbD_zero]; simp

theorem refF_at {l : List Bool} {i : Nat} {x : Bool} (h : l[i]? = some x) : refF l i i = ((suV (l.take i)).msb != x) := by
  unfold refF
  rw [h, Nat.sub_self, Option.getD_some, BitVec.msb_eq_getMsbD_zero]

theorem refF_step {l : List Bool} {i j : Nat} {x : Bool} (h : l[i]? = some x) (hj : i + 1 ≤ j) : refF l (i + 1) j = (refF l i j != (refF l i i && pol (j - i))) := by
  have h1 : ∀ s : BitVec 15, (s <<< 1).getMsbD (j - (i + 1)) = s.getMsbD (j - i) := fun s => by
    rw [BitVec.getMsbD_shiftLeft]; congr 1; omega
  have h2 : pol (j - i) = (0x4599#15).getMsbD (j - (i + 1)) := by
    unfold pol
    rw [show (j - i == 0) = false from by simp; omega, Bool.false_or, show j - i - 1 = j - (i + 1) from by omega]
  rw [refF_at h, h2]
  unfold refF
  rw [take_snoc h, suV_snoc]
  unfold nxV
  rw [BitVec.getMsbD_xor, h1]
  cases (suV (l.take i)).msb != x
  · simp
  · simp only [if_true, Bool.true_and]
    cases (suV (l.take i)).getMsbD (j - i) <;> cases (0x4599#15).getMsbD (j - (i + 1)) <;> cases l[j]?.getD false <;> rfl

theorem refF_end {l : List Bool} {j : Nat} (h : l.length ≤ j) : refF l l.length j = (suV l).getMsbD (j - l.length) := by
  unfold refF
  rw [List.take_length, List.getElem?_eq_none h]; simp

theorem biV_get (s : BitVec 15) {t : Nat} (h : t < 15) : (biV s)[t]? = some (s.getMsbD t) := by
  unfold biV
  rw [ofL_get _ _ _ h, BitVec.testBit_toNat]
  unfold BitVec.getMsbD
  simp [h]

theorem numL_biV (s : BitVec 15) : numL (biV s) = s.toNat := by
  unfold biV
  rw [numL_ofL, Nat.mod_eq_of_lt s.isLt]

/-- The polynomial as the cells of an array. -/
def polA : Array Value := #[.bool true, .bool true, .bool false, .bool false, .bool false, .bool true, .bool false, .bool true, .bool true, .bool false, .bool false, .bool true, .bool true, .bool false, .bool false, .bool true]

theorem polA_get : ∀ k, k < 16 → polA[k]? = some (.bool (pol k)) := by
  intro k hk
  match k, hk with
  | 0, _ => rfl
  | 1, _ => rfl
  | 2, _ => rfl
  | 3, _ => rfl
  | 4, _ => rfl
  | 5, _ => rfl
  | 6, _ => rfl
  | 7, _ => rfl
  | 8, _ => rfl
  | 9, _ => rfl
  | 10, _ => rfl
  | 11, _ => rfl
  | 12, _ => rfl
  | 13, _ => rfl
  | 14, _ => rfl
  | 15, _ => rfl
  | k + 16, h => exact absurd h (by omega)

/-- The world while the division goes on: the row in block g tells F from place lo on; the polynomial's block lies where it lay. -/
structure RefSt (w wr : World) (g c N : Nat) (F : Nat → Bool) (lo : Nat) : Prop where
  row : ∃ cur, wr.heap[g]? = some (.cells cur 4 (0, 0)) ∧ cur.size = c ∧ ∀ j, lo ≤ j → j < N → cur[j]? = some (.bool (F j))
  pol : wr.heap[w.heap.size]? = some (.cells polA 95 (0, 0))
  bel : Below w.heap.size w wr

section
variable {w wr : World} {g c N : Nat} {F F' : Nat → Bool} {lo lo' : Nat}
theorem RefSt.cell (h : RefSt w wr g c N F lo) {j : Nat} (h1 : lo ≤ j) (h2 : j < N) : wr.cell? ⟨g, j, none⟩ = some (.bool (F j)) := by
  obtain ⟨cur, hg, _, hc⟩ := h.row
  rw [cell_of_row wr g j cur _ _ hg]; exact hc j h1 h2

theorem RefSt.thaw (h : RefSt w wr g c N F lo) (j : Nat) : wr.frozen? ⟨g, j, none⟩ = false := by
  obtain ⟨cur, hg, _, _⟩ := h.row
  exact frozen_of_row wr g j cur _ hg

theorem RefSt.poly (h : RefSt w wr g c N F lo) {k : Nat} (hk : k < 16) : wr.cell? ⟨w.heap.size, k, none⟩ = some (.bool (Proofs.Ythpgcgkgokfnpaa.pol k)) := by
  rw [cell_of_row wr _ k _ _ _ h.pol]; exact polA_get k hk

theorem RefSt.congr (h : RefSt w wr g c N F lo) (hl : lo ≤ lo') (hF : ∀ j, lo' ≤ j → j < N → F' j = F j) : RefSt w wr g c N F' lo' := by
  obtain ⟨cur, hg, hs, hc⟩ := h.row
  exact ⟨⟨cur, hg, hs, fun j h1 h2 => by rw [hF j h1 h2]; exact hc j (by omega) h2⟩, h.pol, h.bel⟩

theorem RefSt.drew (h : RefSt w wr g c N F lo) : RefSt w wr.drew g c N F lo := ⟨h.row, h.pol, h.bel.drew⟩

theorem RefSt.set (h : RefSt w wr g c N F lo) (hg0 : w.heap.size < g) (hN : N ≤ c) {i : Nat} (hi : i < N) {v : Bool} (hv : F' i = v) (hF : ∀ j, lo ≤ j → j < N → j ≠ i → F' j = F j) : RefSt w (wr.setCell ⟨g, i, none⟩ (.bool v)) g c N F' lo := by
  obtain ⟨cur, hg, hs, hc⟩ := h.row
  refine ⟨⟨_, heap_setCell_same wr g i cur _ (.bool v) hg, by simpa using hs, fun j h1 h2 => ?_⟩, ?_, h.bel.setCell (Nat.le_of_lt hg0) _⟩
  · rw [Array.getElem?_setIfInBounds]
    split
    · rename_i e; subst e; rw [if_pos (by omega), hv]
    · rename_i e; rw [hF j h1 h2 (fun e2 => e e2.symm)]; exact hc j h1 h2
  · rw [heap_setCell_other _ _ _ _ (show w.heap.size ≠ g by omega)]; exact h.pol
end

theorem pol_far {t : Nat} (h : 16 ≤ t) : pol t = false := by
  unfold pol BitVec.getMsbD
  rw [show (t == 0) = false from by simp; omega, decide_eq_false (by omega)]; rfl

theorem half_lt {s : BitVec 15} {t : Nat} (h : t < 15) : numL ((biV s).take t) < 16384 := by
  have h1 := numL_lt ((biV s).take t)
  rw [List.length_take] at h1
  exact Nat.lt_of_lt_of_le h1 (Nat.pow_le_pow_right (n := 2) (j := 14) (by decide) (by omega))

theorem biV_length (s : BitVec 15) : (biV s).length = 15 := by simp [biV]

set_option maxHeartbeats 2000000 in
theorem refSum_any (w : World) (a : Option Addr) (n c : Nat) (l : List Bool) (h : RL .bool w a n c l) (hn : n ≤ 100000) :
    Calls Try.prog 52 #[.slice a n c] w fun e w' => e = .returned (.int .u16 ((suV l).toNat : Int)) ∧ Below w.heap.size w w' := by
  have hln := h.len
  go_enter Try.func52, Try.ntmps52
  go_wp2_with (at_builtin; refine wpList_app (f := Value.bool) (B := w.heap.size + 1) (l := []) (m := l) tB rfl _ _ rfl rfl (OL.nil _ _ _ _) rfl (h.below (bnew0 w _)) (fun _ => rfl) (by omega) (by omega) (by simp) ?_; intro w1 a1 c1 hol1 hb1; simp only [Nat.zero_add, List.nil_append] at hol1)
  have hp1 : w1.heap[w.heap.size]? = some (.cells polA 95 (0, 0)) := by
    rw [hb1.block _ (by simp)]; exact heap_alloc_new w _
  have hb01 : Below w.heap.size w w1 := (bnew0 w _).trans (hb1.mono (by omega))
  have hs1 : w.heap.size + 1 ≤ w1.heap.size := by have := hb1.size; simpa using this
  clear hb1
  go_loopw [4, 5] (fun v i wr => ∃ (k : Nat) (a' : Option Addr) (c' : Nat), k ≤ 15 ∧ i = .int .i64 k ∧ v = .slice a' (n + k) c' ∧ OL .bool 4 (w.heap.size + 1) wr a' (n + k) c' (l ++ List.replicate k false) ∧ Below w.heap.size w wr ∧
      w.heap.size + 1 ≤ wr.heap.size ∧ wr.heap[w.heap.size]? = some (.cells polA 95 (0, 0))) (fun _ i _ => 15 - (intOf i).toNat)
  case atStart => exact ⟨0, a1, c1, Nat.zero_le _, rfl, rfl, by simpa using hol1, hb01, hs1, hp1⟩
  case round =>
    clear hp1 hb01 hs1 hol1
    obtain ⟨k, a', c', hk, rfl, rfl, hol, hb, hs, hp⟩ := hrel
    by_cases hlt : k < 15
    · have HP := hid hp; clear hp
      go_wp2_with (at_builtin; refine wpList_app (f := Value.bool) tB rfl _ _ rfl rfl (hol.alloc _) rfl (ol_lit Value.bool _ w.heap.size wr [false] _ 1 rfl rfl (by omega) hb.size).rl (fun _ => rfl) (by omega) (by omega) (by simp; omega) ?_; intro w2 a2 c2 hol2 hb2)
      go_roundw
      case rel => exact ⟨k + 1, a2, c2, by omega, by go_num, by simp; omega, by rw [List.replicate_succ', ← List.append_assoc]; exact hol2, (hb.alloc hb.size _).trans (hb2.mono (by omega)), by have := hb2.size; simp at this; omega, by rw [hb2.block _ (by omega), Below.heap_alloc _ _ _ (by omega)]; exact HP.out⟩
      case measure => simp [intOf]; omega
    · obtain rfl : k = 15 := by omega
      rcases hol.ex with ⟨_, h0, _⟩ | ⟨g, cur, rfl, hg0, hgh, hgs⟩
      · omega
      have hcap := hol.cap
      have hR0 : RefSt w wr g c' (n + 15) (refF l 0) 0 := by
        refine ⟨⟨cur, hgh, hgs, fun j _ hj => ?_⟩, hp, hb⟩
        have hget : (l ++ List.replicate 15 false)[j]? = some (l[j]?.getD false) := by
          by_cases hjn : j < n
          · rw [List.getElem?_append_left (by omega), List.getElem?_eq_getElem (by omega)]; rfl
          · rw [List.getElem?_append_right (by omega), List.getElem?_replicate, if_pos (by omega), List.getElem?_eq_none (by omega)]; rfl
        have hrl := hol.rl
        obtain ⟨b2, off2, e2, _, hcell⟩ := hrl.cell (by omega)
        cases e2
        have := hcell j _ hget
        rw [cell_of_row wr g _ cur _ _ hgh] at this
        rw [refF_zero, show j = 0 + j from by omega]
        simpa using this
      clear hol hp hb hgh hgs
      go_wp2
      go_loopg [6] n (fun gn i wi => ∃ k : Nat, k ≤ n ∧ gn = n - k ∧ i = .int .i64 k ∧ RefSt w wi g c' (n + 15) (refF l k) k)
      case atStart => exact ⟨0, Nat.zero_le _, rfl, rfl, hR0⟩
      case round =>
        clear hR0
        obtain ⟨k, hk, rfl, rfl, hR⟩ := hrel
        by_cases hlt : k < n
        · obtain ⟨x, hx⟩ : ∃ x, l[k]? = some x := ⟨l[k]'(by omega), by simp⟩
          have HX := hid hx; clear hx
          have hck := hR.cell (Nat.le_refl k) (by omega)
          have HST := hid (fun j (hj : k + 1 ≤ j) => refF_step HX.out hj)
          cases hd : refF l k k
          · rw [hd] at hck
            have HD := hid hd; clear hd
            go_wp2
            go_roundg (n - (k + 1))
            case measure => omega
            case rel => exact ⟨k + 1, by omega, rfl, by go_num, hR.congr (by omega) (fun j h1 _ => by rw [HST.out j h1, HD.out]; simp)⟩
          · rw [hd] at hck
            have HD := hid hd; clear hd
            go_wp2
            go_loopg [7] 16 (fun gm i wi => ∃ m : Nat, m ≤ 16 ∧ gm = 16 - m ∧ i = .int .i64 m ∧ RefSt w wi g c' (n + 15) (fun j => refF l k j != (decide (j < k + m) && pol (j - k))) k)
            case atStart => exact ⟨0, by omega, rfl, rfl, hR.congr (Nat.le_refl _) (fun j h1 _ => by rw [decide_eq_false (by omega)]; simp)⟩
            case round =>
              clear hR hck
              obtain ⟨m, hm, rfl, rfl, hR⟩ := hrel
              by_cases hmt : m < 16
              · have hck := hR.cell (j := k + m) (by omega) (by omega)
                have hfz := hR.thaw (k + m)
                have hpk := hR.poly hmt
                have hkm : Hid ((refF l k (k + m) != (decide (k + m < k + m) && pol (k + m - k))) = refF l k (k + m)) := by
                  show _ = _
                  rw [decide_eq_false (by omega)]; simp
                rw [hkm.out] at hck
                obtain ⟨u, hu⟩ : ∃ u, u = refF l k (k + m) := ⟨_, rfl⟩
                obtain ⟨v, hv⟩ : ∃ v, v = pol m := ⟨_, rfl⟩
                rw [← hu] at hck
                rw [← hv] at hpk
                have HU := hid hu; have HV := hid hv
                clear hu hv
                go_wp2_with fail
                go_big_region
                go_wp2
                go_roundg (16 - (m + 1))
                case measure => go_light; omega
                case rel =>
                  go_light
                  refine ⟨m + 1, by omega, rfl, by go_num, (hR.set (by omega) hcap (by omega) ?_ (fun j h1 h2 h3 => ?_)).drew⟩
                  · show (refF l k (k + m) != (decide (k + m < k + (m + 1)) && pol (k + m - k))) = _
                    rw [decide_eq_true (by omega), show k + m - k = m from by omega, ← HU.out, ← HV.out, Bool.true_and]; rfl
                  · show (refF l k j != (decide (j < k + (m + 1)) && pol (j - k))) = (refF l k j != (decide (j < k + m) && pol (j - k)))
                    rw [show decide (j < k + (m + 1)) = decide (j < k + m) from by rw [Bool.eq_iff_iff]; simp; omega]
              · obtain rfl : m = 16 := by omega
                go_wp2
                go_roundg (n - (k + 1))
                case measure => go_light; omega
                case rel =>
                  go_light
                  exact ⟨k + 1, by omega, rfl, by go_num, hR.congr (by omega) (fun j h1 h2 => by
                    rw [HST.out j h1, HD.out, Bool.true_and]
                    by_cases h16 : j < k + 16
                    · rw [decide_eq_true h16, Bool.true_and]
                    · rw [decide_eq_false h16, pol_far (by omega), Bool.false_and])⟩
        · obtain rfl : k = n := by omega
          have hRS := hid (fun t (ht : t < 15) => hR.cell (j := k + t) (by omega) (by omega))
          have hB := hR.bel
          have hFE : Hid (∀ t, refF l k (k + t) = (suV l).getMsbD t) := fun t => by
            have e := refF_end (l := l) (j := k + t) (by omega)
            rwa [hln, show k + t - k = t from by omega] at e
          obtain ⟨s, hs0⟩ : ∃ s, s = suV l := ⟨_, rfl⟩
          rw [← hs0] at hFE
          have HS := hid hs0
          clear hs0 hR
          go_wp2
          go_loop [8, 9] (fun v i => ∃ t m : Nat, t ≤ 15 ∧ i = .int .i64 ((k : Int) + (t : Int)) ∧ v = .int .u16 (m : Int) ∧ m = numL ((biV s).take t)) (fun _ i => k + 15 - (intOf i).toNat)
          case atStart => exact ⟨0, 0, by omega, by go_num, rfl, rfl⟩
          case round =>
            obtain ⟨t, m, ht, rfl, rfl, hm⟩ := hrel
            by_cases ht15 : t < 15
            · have hlt := half_lt (s := s) ht15
              rw [← hm] at hlt
              have hck := hRS.out t ht15
              rw [hFE.out t] at hck
              have HM : Hid (numL ((biV s).take (t + 1)) = 2 * m + (s.getMsbD t).toNat) := by
                show _ = _
                rw [take_snoc (biV_get s ht15), numL_snoc, hm]
              clear hm
              have i1 : (k : Int) + (t : Int) < (k : Int) + 15 := by omega
              cases hb : s.getMsbD t
              all_goals
                rw [hb] at hck HM
                clear hb
                go_wp2
                go_round
                case rel => exact ⟨t + 1, _, by omega, by go_num, by first | rfl | (congr 1; norm_cast) | go_num, by rw [HM.out]; simp <;> omega⟩
                case measure => simp [intOf]; omega
            · obtain rfl : t = 15 := by omega
              have HE : Hid (m = (suV l).toNat) := by
                show _ = _
                rw [hm, List.take_of_length_le (by rw [biV_length]; omega), numL_biV, HS.out]
              clear hm
              go_wp2
              go_ret
              exact ⟨ret_int (congrArg (fun q : Nat => (q : Int)) HE.out), hB⟩
end Go.Proofs.Ythpgcgkgokfnpaa
