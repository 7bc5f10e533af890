/-
  Contracts of the document's own answers of layer 2: Put and Take.
-/
import Derived.Test.YthpgcgkgokfnpaaB2d
namespace Go.Proofs.Ythpgcgkgokfnpaa
open Go.RowKit
set_option linter.unusedVariables false

theorem rowL_snoc_drop {out : List Bool} {fr : Nat} {b : Bool} {m : Nat} (x : Bool) (hf : fr ≤ out.length) (h : rowL (out.drop fr) = (b, m)) (hm : m ≤ 4) : rowL ((out ++ [x]).drop fr) = (nxt b m x).1 := by
  rw [List.drop_append_of_le_length hf, rowL_snoc, h, rst_nxt x hm]

theorem rowL_one (x : Bool) : rowL [x] = (x, 1) := by cases x <;> rfl

theorem rowL_last {t : List Bool} {b : Bool} {m : Nat} (h : rowL t = (b, m)) (hm : m ≠ 0) : t[t.length - 1]? = some b := by
  have hne : t ≠ [] := by rintro rfl; simp [rowL] at h; omega
  have e : t = t.dropLast ++ [t.getLast hne] := (List.dropLast_concat_getLast hne).symm
  have h2 : (rowL t).1 = t.getLast hne := by
    have := rowL_snoc t.dropLast (t.getLast hne)
    rw [← e] at this
    rw [this]
    unfold rst
    split
    · rfl
    · rfl
  rw [h] at h2
  rw [← List.getLast?_eq_getElem?, List.getLast?_eq_some_getLast hne, ← h2]

theorem refPut_any (w : World) (a : Option Addr) (n c : Nat) (l : List Bool) (h : RL .bool w a n c l) (hn : n ≤ 100000) :
    Calls Try.prog 39 #[.slice a n c] w fun e w' => ∃ a' c', e = .returned (.slice a' (putL l).length c') ∧ OL .bool 4 w.heap.size w' a' (putL l).length c' (putL l) ∧ Below w.heap.size w w' := by
  have hlen := hid (putL_len l)
  go_enter Try.func39, Try.ntmps39
  go_wp2
  go_loopw [3, 4, 5] (fun v f i wr => ∃ (k m fr : Nat) (b : Bool) (out : List Bool) (a' : Option Addr) (c' : Nat), k ≤ n ∧ i = .int .i64 k ∧ f = .int .i64 fr ∧ v = .slice a' out.length c' ∧ OL .bool 4 w.heap.size wr a' out.length c' out ∧
      Below w.heap.size w wr ∧ fr ≤ out.length ∧ rowL (out.drop fr) = (b, m) ∧ m ≤ 4 ∧ out ++ putF b m (l.drop k) = putL l) (fun _ _ i _ => n - (intOf i).toNat)
  case atStart => exact ⟨0, 0, 0, false, [], none, 0, Nat.zero_le _, rfl, rfl, rfl, OL.nil _ _ _ _, Below.refl _ _, by simp, rfl, by omega, by rw [List.drop_zero]; rfl⟩
  case round =>
    obtain ⟨k, m, fr, b, out, a', c', hk, rfl, rfl, rfl, hol, hb, hfr, hrow, hm4, hspec⟩ := hrel
    have HS := hid hspec; clear hspec
    have HW := hid hrow; clear hrow
    have hlo : out.length ≤ 200000 := by
      have h1 := hlen.out
      have h2 : out.length ≤ (putL l).length := by rw [← HS.out, List.length_append]; omega
      rw [h.len] at h1
      omega
    by_cases hlt : k < n
    · have hrr := h.below hb
      obtain ⟨b0, off, x, rfl, hx, hck⟩ := hrr.at hlt
      have HX := hid hx; clear hx hrr
      have hs := hb.size
      have hrow2 := hid (rowL_snoc_drop x hfr HW.out hm4)
      by_cases h5 : (nxt b m x).1.2 = 5
      · obtain ⟨hn5, _⟩ := nxt_five hm4 h5
        have HN := hid hn5
        clear h5 hn5
        go_wp2_with (first
          | (at_builtin; refine wpList_app (f := Value.bool) tB rfl _ _ rfl rfl (hol.alloc _) rfl (ol_lit Value.bool _ w.heap.size wr [x] _ 1 rfl rfl (by omega) hs).rl (fun _ => rfl) (by omega) (by omega) (by simp; omega) ?_; intro w2 a2 c2 hol2 hb2; have hb02 := (hb.alloc hs (.cells #[.bool x] 4)).trans hb2)
          | (with_reducible refine wpList_cutFrom (f := Value.bool) tB rfl _ _ rfl _ _ fr rfl rfl (by omega) hol2.rl (by omega) (out.length + 1 - fr) (by omega) ?_; intro a3 c3 hr3)
          | (go_at_call 40; refine (five_any w2 _ _ _ _ hr3 (by omega)).mono ?_; rw [hrow2.out, HN.out]; rintro e w4 ⟨rfl, g4⟩; have hol4 := hol2.below g4; have hb04 := hb02.trans (g4.mono hb02.size); obtain ⟨_, _, x2, ex, hx2, hck2⟩ := (h.below hb04).at hlt; cases ex; obtain rfl : x2 = x := by { have e1 := HX.out; rw [hx2] at e1; simpa using e1 }; clear hx2; have hs4 := hb04.size)
          | (at_builtin; refine wpList_app (f := Value.bool) tB rfl _ _ rfl rfl (hol4.alloc _) rfl (ol_lit Value.bool _ w.heap.size w4 [!x2] _ 1 rfl rfl (by omega) hs4).rl (fun _ => rfl) (by omega) (by omega) (by simp; omega) ?_; intro w5 a5 c5 hol5 hb5; have hb05 := (hb04.alloc hs4 (.cells #[.bool (!x2)] 4)).trans hb5))
        go_roundw
        case rel =>
          refine ⟨k + 1, 1, out.length + 1, !x2, out ++ [x2] ++ [!x2], a5, c5, by omega, by go_num, by go_num, by simp, by simpa using hol5, hb05, by simp, ?_, by omega, ?_⟩
          · rw [show out.length + 1 = (out ++ [x2]).length from by simp, List.drop_left, rowL_one]
          · rw [← HS.out, drop_at HX.out, putF, if_pos (by rw [HN.out])]; simp
        case measure => simp [intOf]; omega
      · obtain ⟨b1, hb1⟩ : ∃ b1, b1 = (nxt b m x).1.1 := ⟨_, rfl⟩
        obtain ⟨m1, hm1⟩ : ∃ m1, m1 = (nxt b m x).1.2 := ⟨_, rfl⟩
        have hm14 := (nxt_le hm4 h5).1
        rw [← hm1] at h5 hm14
        have hd : decide (m1 = 5) = false := by simp [h5]
        have HB1 := hid hb1; have HM1 := hid hm1
        clear hb1 hm1
        go_wp2_with (first
          | (at_builtin; refine wpList_app (f := Value.bool) tB rfl _ _ rfl rfl (hol.alloc _) rfl (ol_lit Value.bool _ w.heap.size wr [x] _ 1 rfl rfl (by omega) hs).rl (fun _ => rfl) (by omega) (by omega) (by simp; omega) ?_; intro w2 a2 c2 hol2 hb2; have hb02 := (hb.alloc hs (.cells #[.bool x] 4)).trans hb2)
          | (with_reducible refine wpList_cutFrom (f := Value.bool) tB rfl _ _ rfl _ _ fr rfl rfl (by omega) hol2.rl (by omega) (out.length + 1 - fr) (by omega) ?_; intro a3 c3 hr3)
          | (go_at_call 40; refine (five_any w2 _ _ _ _ hr3 (by omega)).mono ?_; rw [hrow2.out, ← HM1.out, hd]; rintro e w4 ⟨rfl, g4⟩; have hol4 := hol2.below g4; have hb04 := hb02.trans (g4.mono hb02.size)))
        go_roundw
        case rel =>
          refine ⟨k + 1, m1, fr, b1, out ++ [x], a2, c2, by omega, by go_num, rfl, by simp, by simpa using hol4, hb04, by simp; omega, ?_, hm14, ?_⟩
          · rw [hrow2.out, HB1.out, HM1.out]
          · rw [← HS.out, drop_at HX.out, putF, if_neg (by rw [← HM1.out]; exact h5), ← HB1.out, ← HM1.out]; simp
        case measure => simp [intOf]; omega
    · obtain rfl : k = n := by omega
      have hout : Hid (out = putL l) := by
        have e := HS.out
        rw [List.drop_eq_nil_of_le (by rw [h.len]; omega)] at e
        show out = putL l
        simpa [putF] using e
      go_wp2
      go_ret
      have e := hout.out
      subst e
      exact ⟨a', c', rfl, hol, hb⟩

end Go.Proofs.Ythpgcgkgokfnpaa
