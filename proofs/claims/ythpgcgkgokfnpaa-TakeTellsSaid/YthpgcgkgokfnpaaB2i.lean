/-
  Contract of the document's Next (layer 2).
  Contract of the document's Take (layer 2).
-/
import Derived.Test.YthpgcgkgokfnpaaB2d
import Derived.Test.YthpgcgkgokfnpaaB2e
namespace Go.Proofs.Ythpgcgkgokfnpaa
open Go.RowKit
set_option linter.unusedVariables false

theorem rowL_rep {b : Bool} {m : Nat} (h : rightA b m) : rowL (List.replicate m b) = (b, m) := by
  obtain ⟨h1, h2⟩ := h
  by_cases h0 : m = 0
  · subst h0; rw [h2 rfl]; rfl
  · have := rowL_back [] b m (by omega) h1 (.inr (.inl rfl))
    simpa using this

end Go.Proofs.Ythpgcgkgokfnpaa

namespace Go.Proofs.Ythpgcgkgokfnpaa
open Go.RowKit
set_option linter.unusedVariables false

theorem refTake_any (w : World) (a : Option Addr) (n c : Nat) (l : List Bool) (h : RL .bool w a n c l) (hn : n ≤ 100000) :
    Calls Try.prog 23 #[.slice a n c] w fun e w' => ∃ a' c', e = .returned (.tuple #[.slice a' (tkL l).1.length c', .int .i64 (tkL l).2]) ∧ OL .bool 4 w.heap.size w' a' (tkL l).1.length c' (tkL l).1 ∧ Below w.heap.size w w' := by
  go_enter Try.func23, Try.ntmps23
  go_wp2
  go_loopw [4, 5, 6] (fun v f i wr => ∃ (k m fr : Nat) (b : Bool) (out : List Bool) (a' : Option Addr) (c' : Nat), k ≤ n ∧ i = .int .i64 k ∧ f = .int .i64 fr ∧ v = .slice a' out.length c' ∧ OL .bool 4 w.heap.size wr a' out.length c' out ∧
      Below w.heap.size w wr ∧ fr ≤ k ∧ out.length ≤ k ∧ rowL ((l.take k).drop fr) = (b, m) ∧ tkF b m k out (l.drop k) = tkL l) (fun _ _ i _ => n - (intOf i).toNat)
  case atStart => exact ⟨0, 0, 0, false, [], none, 0, Nat.zero_le _, rfl, rfl, rfl, OL.nil _ _ _ _, Below.refl _ _, by omega, by simp, rfl, by rw [List.drop_zero]; rfl⟩
  case round =>
    obtain ⟨k, m, fr, b, out, a', c', hk, rfl, rfl, rfl, hol, hb, hfr, hlo, hrow, hspec⟩ := hrel
    have HS := hid hspec; clear hspec
    have HW := hid hrow; clear hrow
    by_cases hlt : k < n
    · have hrr := h.below hb
      obtain ⟨b0, off, x, rfl, hx, hck⟩ := hrr.at hlt
      have HX := hid hx; clear hx
      have hs := hb.size
      have hm5 : m ≤ 5 := by have := (rowL_right ((l.take k).drop fr)).1; rw [HW.out] at this; exact this
      have HT := HS.out
      rw [drop_at HX.out, tkF] at HT
      have hsn : (l.take (k + 1)).drop fr = (l.take k).drop fr ++ [x] := by
        rw [take_snoc HX.out, List.drop_append_of_le_length (by rw [List.length_take, h.len]; omega)]
      by_cases h5 : m = 5
      · subst h5
        have hlen0 : ((l.take k).drop fr).length = k - fr := by rw [List.length_drop, List.length_take, h.len]; omega
        have hlast := rowL_last HW.out (by decide)
        rw [hlen0, List.getElem?_drop] at hlast
        have hk1 : fr < k := by
          rcases Nat.lt_or_ge fr k with e | e
          · exact e
          · exfalso
            have e2 : (l.take k).drop fr = [] := List.eq_nil_of_length_eq_zero (by rw [hlen0]; omega)
            have := HW.out
            rw [e2] at this
            simp [rowL] at this
        obtain ⟨j, rfl⟩ : ∃ j, k = j + 1 := ⟨k - 1, by omega⟩
        have hlast2 : l[j]? = some b := by
          rw [List.getElem?_take, if_pos (by omega)] at hlast
          rw [← hlast]; congr 1; omega
        have HL := hid hlast2
        have HT := hid HT
        have i1 : (j : Int) + 1 < (n : Int) := by omega
        have i2 : (j : Int) < (n : Int) := by omega
        clear hlast hlast2 hsn hlen0
        by_cases hxb : x = b
        · subst hxb
          have HT2 : Hid ((out, ((j + 1 : Nat) : Int)) = tkL l) := by
            have e := HT.out
            rw [show nxt x 5 x = ((x, 5), 2) from by cases x <;> rfl, if_pos rfl] at e
            exact e
          go_wp2_with (first
            | (with_reducible refine wpList_cut (f := Value.bool) tB rfl _ _ _ rfl _ _ _ _ fr (j + 1) rfl rfl rfl rfl (by omega) hrr (by omega) (by omega) (j + 1 - fr) (by omega) ?_; intro a3 c3 hr3)
            | (go_at_call 40; refine (five_any wr _ _ _ _ hr3 (by omega)).mono ?_; rw [HW.out]; rintro e w4 ⟨rfl, g4⟩; have hol4 := hol.below g4; have hb04 := hb.trans (g4.mono hs); obtain ⟨_, _, x2, ex, hx2, hck2⟩ := (h.below hb04).at hlt; cases ex; obtain rfl : x2 = x := by { have e1 := HX.out; rw [hx2] at e1; simpa using e1 }; clear hx2; obtain ⟨_, _, x3, ex, hx3, hck3⟩ := (h.below hb04).at (k := j) (by omega); cases ex; obtain rfl : x3 = x2 := by { have e1 := HL.out; rw [hx3] at e1; simpa using e1 }; clear hx3; have hs4 := hb04.size))
          cases x3
          all_goals
            go_quiet (fail)
            go_wp2
            go_ret2
            rw [← HT2.out]
            exact ⟨a', c', rfl, hol4.drewN _, below_drewN hb04 _⟩
        · have hbx' : x = !b := by cases x <;> cases b <;> simp_all
          have HT2 : Hid (tkF x 1 (j + 1 + 1) out (l.drop (j + 1 + 1)) = tkL l) := by
            have e := HT.out
            rw [hbx', nxt_owed, if_neg (show ¬ ((1 : Nat) = 2) by decide), if_pos rfl] at e
            rw [hbx']; exact e
          have HROW : Hid (rowL ((l.take (j + 1 + 1)).drop (j + 1)) = (x, 1)) := by
            show _ = _
            rw [take_snoc HX.out, show (l.take (j + 1) ++ [x]).drop (j + 1) = [x] from by
              rw [List.drop_append_of_le_length (by rw [List.length_take, h.len]; omega), List.drop_eq_nil_of_le (by rw [List.length_take]; omega)]; rfl, rowL_one]
          go_wp2_with (first
            | (with_reducible refine wpList_cut (f := Value.bool) tB rfl _ _ _ rfl _ _ _ _ fr (j + 1) rfl rfl rfl rfl (by omega) hrr (by omega) (by omega) (j + 1 - fr) (by omega) ?_; intro a3 c3 hr3)
            | (go_at_call 40; refine (five_any wr _ _ _ _ hr3 (by omega)).mono ?_; rw [HW.out]; rintro e w4 ⟨rfl, g4⟩; have hol4 := hol.below g4; have hb04 := hb.trans (g4.mono hs); obtain ⟨_, _, x2, ex, hx2, hck2⟩ := (h.below hb04).at hlt; cases ex; obtain rfl : x2 = x := by { have e1 := HX.out; rw [hx2] at e1; simpa using e1 }; clear hx2; obtain ⟨_, _, x3, ex, hx3, hck3⟩ := (h.below hb04).at (k := j) (by omega); cases ex; obtain rfl : x3 = b := by { have e1 := HL.out; rw [hx3] at e1; simpa using e1 }; clear hx3; have hs4 := hb04.size))
          subst hbx'
          cases x3
          all_goals
            go_quiet (fail)
            go_wp2
            go_roundw
            case rel => exact ⟨j + 1 + 1, 1, j + 1, _, out, a', c', by omega, by go_num, by go_num, by simp, hol4.drewN _, below_drewN hb04 _, by omega, by omega, HROW.out, HT2.out⟩
            case measure => simp [intOf]; omega
      · have hd : decide (m = 5) = false := by simp [h5]
        rw [nxt_plain h5, if_neg (by decide), if_neg (by decide)] at HT
        have hrow2 : rowL ((l.take (k + 1)).drop fr) = (nxt b m x).1 := by rw [hsn, rowL_snoc, HW.out, rst_nxt x (by omega)]
        have HT := hid HT
        have HR2 := hid hrow2
        have HSN := hid hsn
        clear hrow2 hsn
        go_wp2_with (first
          | (with_reducible refine wpList_cut (f := Value.bool) tB rfl _ _ _ rfl _ _ _ _ fr k rfl rfl rfl rfl rfl hrr (by omega) (by omega) (k - fr) (by omega) ?_; intro a3 c3 hr3)
          | (go_at_call 40; refine (five_any wr _ _ _ _ hr3 (by omega)).mono ?_; rw [HW.out, hd]; rintro e w4 ⟨rfl, g4⟩; have hol4 := hol.below g4; have hb04 := hb.trans (g4.mono hs); obtain ⟨_, _, x2, ex, hx2, hck2⟩ := (h.below hb04).at hlt; cases ex; obtain rfl : x2 = x := by { have e1 := HX.out; rw [hx2] at e1; simpa using e1 }; clear hx2; have hs4 := hb04.size)
          | (at_builtin; refine wpList_app (f := Value.bool) tB rfl _ _ rfl rfl (hol4.alloc _) rfl (ol_lit Value.bool _ w.heap.size w4 [x2] _ 1 rfl rfl (by omega) hs4).rl (fun _ => rfl) (by omega) (by omega) (by simp; omega) ?_; intro w5 a5 c5 hol5 hb5; have hb05 := (hb04.alloc hs4 (.cells #[.bool x2] 4)).trans hb5))
        go_roundw
        case rel => exact ⟨k + 1, _, fr, _, out ++ [x2], a5, c5, by omega, by go_num, rfl, by simp, by simpa using hol5, hb05, by omega, by simp; omega, HR2.out, HT.out⟩
        case measure => simp [intOf]; omega
    · obtain rfl : k = n := by omega
      have hout : Hid ((out, -1) = tkL l) := by
        have e := HS.out
        rw [List.drop_eq_nil_of_le (by rw [h.len]; omega)] at e
        exact e
      go_wp2
      go_ret2
      have e := hout.out
      rw [← e]
      exact ⟨a', c', rfl, hol, hb⟩
end Go.Proofs.Ythpgcgkgokfnpaa
