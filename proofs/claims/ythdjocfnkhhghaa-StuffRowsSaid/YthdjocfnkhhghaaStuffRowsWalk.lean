/-
  The walk of the statement StuffRows: it returns true for every input, and nothing that was there has changed.
-/
import Derived.Test.YthdjocfnkhhghaaB2f
namespace Go.Proofs.Ythdjocfnkhhghaa
open Go.RowKit
set_option linter.unusedVariables false

set_option maxHeartbeats 1000000 in
theorem stuffRows_walk (w : World) (a : Option Addr) (n c : Nat) (l : List Bool) (h : RL .bool w a n c l) (m1 : n ≤ 9223372036854775807) :
    Calls Try.prog 6 #[.slice a n c] w fun e w' => e = .returned (.bool true) ∧ Below w.heap.size w w' := by
  by_cases h1 : 400 < n
  · go_enter Try.func6, Try.ntmps6
    go_wp2_with (go_at_call 7; refine (awake2_any _).mono ?_; rintro e w1 ⟨rfl, hb1⟩)
    go_ret
    exact ⟨rfl, hb1⟩
  obtain ⟨T1, hT1⟩ : ∃ T1, T1 = (tkL l).1 := ⟨_, rfl⟩
  obtain ⟨T2, hT2⟩ : ∃ T2, T2 = (tkL l).2 := ⟨_, rfl⟩
  have hTKn : T1.length ≤ 1000000 := by rw [hT1]; have := tkL_len l; have := h.len; omega
  have HT1 := hid hT1; have HT2 := hid hT2
  have HTT : Hid (tkL l = (T1, T2)) := by rw [hT1, hT2]; exact rfl
  clear hT1 hT2
  go_enter Try.func6, Try.ntmps6
  go_wp2
  go_loopw [4, 5, 20] (fun v r i wr => ∃ (k m : Nat) (b : Bool) (out : List Bool) (a' : Option Addr) (c' : Nat), k ≤ n ∧ i = .int .i64 k ∧ r = .int .i64 (-1) ∧ v = .slice a' out.length c' ∧ OL .bool 4 (w.heap.size + 1) wr a' out.length c' out ∧
      wr.heap[w.heap.size]? = some (.cells #[.bool b, .int .u8 (m : Int)] 23 (0, 0)) ∧ Below w.heap.size w wr ∧ w.heap.size + 1 ≤ wr.heap.size ∧ rightA b m ∧ out.length ≤ k ∧ tkF b m k out (l.drop k) = tkL l) (fun _ _ i _ => n - (intOf i).toNat)
  case atStart => exact ⟨0, 0, false, [], none, 0, Nat.zero_le _, rfl, rfl, rfl, OL.nil _ _ _ _, heap_alloc_new _ _, bnew0 _ _, by simp, ⟨by omega, fun _ => rfl⟩, by simp, by rw [List.drop_zero]; rfl⟩
  case round =>
    obtain ⟨k, m, b, out, a', c', hk, rfl, rfl, rfl, hol, hbx, hb, hs, hr, hlo, hspec⟩ := hrel
    have HS := hid hspec; clear hspec
    have hm5 := hr.1
    have HR := hid hr; clear hr
    obtain ⟨c0, c1, f0, f1⟩ := bx hbx
    by_cases hlt : k < n
    · have hrr := h.below hb
      obtain ⟨b0, off, x, rfl, hx, hck⟩ := hrr.at hlt
      have HX := hid hx; clear hx hrr
      have HT := HS.out
      rw [drop_at HX.out, tkF] at HT
      by_cases h5 : m = 5
      · subst h5
        by_cases hxb : x = b
        · subst hxb
          have hnx : Hid (nxt x 5 x = ((x, 5), 2)) := by cases x <;> exact rfl
          rw [hnx.out, if_pos rfl, HTT.out, Prod.mk.injEq] at HT
          obtain ⟨e1, e2⟩ := HT
          have E1 := hid e1.symm; have E2 := hid e2.symm
          clear e1 e2
          cases x
          all_goals
            go_wp2_with (first
              | (go_at_call 9; refine (owed_five wr _).mono ?_; rintro e w2 ⟨rfl, g2⟩; have hbx2 := bx_below hbx g2; obtain ⟨c2, c3, _, _⟩ := bx hbx2; have g02 := bstep hb g2)
              | (go_at_call 8; refine (next_any w2 _ 5 _ HR.out).mono ?_; rw [hnx.out]; rintro e w3 ⟨rfl, g3⟩; have g03 := fun o => bnew (bstep g02 g3) o; have hol3 := ((hol.below g2).below g3))
              | (go_at_call 12; refine (take_any _ _ _ _ l (h.below (g03 _)) (by omega)).mono ?_; rw [← HT1.out, ← HT2.out]; rintro e w4 ⟨a4, c4, rfl, hol4, g4⟩; have g04 := bstep (g03 _) g4; have hou4 := (hol3.alloc _).rl.below g4)
              | (go_at_call 14; refine (same_any w4 _ _ _ _ _ _ _ _ hol4.rl hou4 hTKn).mono ?_; rw [E1.out]; rintro e w5 ⟨rfl, rfl⟩)
              | (go_at_call 7; refine (awake2_any w4).mono ?_; rintro e w6 ⟨rfl, g6⟩))
            go_ret
            exact ⟨rfl, bstep g04 g6⟩
        · have hxn : x = !b := by cases x <;> cases b <;> simp_all
          subst hxn
          rw [nxt_owed, if_neg (show ¬ ((1 : Nat) = 2) by decide), if_pos rfl] at HT
          have HT := hid HT
          have hnx := hid (nxt_owed b)
          clear hxb
          cases b
          all_goals
            go_wp2_with (first
              | (go_at_call 9; refine (owed_five wr _).mono ?_; rintro e w2 ⟨rfl, g2⟩; have hbx2 := bx_below hbx g2; obtain ⟨c2, c3, _, _⟩ := bx hbx2; have g02 := bstep hb g2)
              | (go_at_call 8; refine (next_five w2 _).mono ?_; rintro e w3 ⟨rfl, g3⟩; have g03 := fun o => bnew (bstep g02 g3) o; have hs3 : w.heap.size + 1 ≤ w3.heap.size := by { have h7 := g2.size; have h8 := g3.size; omega }; have hol3 := ((hol.below g2).below g3); have hbx3 := fun o => bx_alloc o (bx_below hbx2 g3); have hbb := fun o => bx (hbx3 o)))
            go_roundw
            case rel => exact ⟨k + 1, 1, _, out, a', c', by omega, by go_num, rfl, rfl, (hol3.alloc _).kept (fun g hg => set_other _ _ (by have := (hol.ltB hg).2; simp at this; omega)), bx_set _ _ (hbx3 _), ((g03 _).setCell (by simp) _).setCell (by simp) _, by simp; omega, ⟨by omega, by omega⟩, by omega, HT.out⟩
            case measure => simp [intOf]; omega
      · obtain ⟨q, hq⟩ : ∃ q, q = (nxt b m x).1.2 := ⟨_, rfl⟩
        have hkd := nxt_plain (b := b) (x := x) h5
        have hfst : (nxt b m x).1.1 = x := nxt_fst (by rw [hkd]; decide)
        have hq15 : rightA x q ∧ 1 ≤ q := by have h9 := nxt_right (x := x) HR.out; rw [hfst, ← hq] at h9; exact h9
        have hnx : Hid (nxt b m x = ((x, q), 0)) := Prod.ext (Prod.ext hfst hq.symm) hkd
        rw [hkd, if_neg (by decide), if_neg (by decide), hfst, ← hq] at HT
        have HT := hid HT
        clear hkd hfst hq
        have hq1 : ¬ (q : Int) < 1 := by omega
        have hq5 : ¬ (5 : Int) < (q : Int) := by have := hq15.1.1; omega
        go_wp2_with (first
          | (go_at_call 9; refine (owed_none wr _ m (by omega) h5).mono ?_; rintro e w2 ⟨rfl, g2⟩; have hbx2 := bx_below hbx g2; obtain ⟨c2, c3, _, _⟩ := bx hbx2; have g02 := bstep hb g2)
          | (go_at_call 8; refine (next_any w2 b m _ HR.out).mono ?_; rw [hnx.out]; rintro e w3 ⟨rfl, g3⟩; have g03 := bstep g02 g3; have hs3 := g3.size; have hs23 := g2.size; have hol3 := ((hol.below g2).below g3); have hbx3 := bx_below hbx2 g3)
          | (at_builtin; refine wpList_appg (f := Value.bool) tB rfl _ _ rfl rfl ((hol3.alloc (.cells #[.bool x, .int .u8 (q : Int)] 23)).alloc _) rfl (a2 := some ⟨w3.heap.size + 1, 0, none⟩) (n2 := 1) (c2 := 1) (m := [x]) (by simpa using (ol_lit Value.bool 4 0 (w3.alloc (.cells #[.bool x, .int .u8 (q : Int)] 23)) [x] #[.bool x] 1 rfl rfl (by omega) (Nat.zero_le _)).rl) (by omega) (fun _ => rfl) (by omega) (by omega) (by simp; omega) ?_; intro w4 a4 c4 hol4 hb4 hk4 hs4; have hs4' : w3.heap.size + 2 ≤ w4.heap.size := by { rw [heap_size_alloc, heap_size_alloc] at hs4; omega }; have hbx4 : w4.heap[w.heap.size]? = _ := (hk4 w.heap.size (by simp; omega) (fun g hg => by { have := (hol.ltB hg).2; omega })).1.trans (bx_alloc _ (bx_alloc _ hbx3)); have hnx4 : w4.heap[w3.heap.size]? = _ := (hk4 w3.heap.size (by simp; omega) (fun g hg => by { have := (hol.ltB hg).1; omega })).1.trans (bx_alloc _ (heap_alloc_new _ _)); obtain ⟨d0, d1, k0, k1⟩ := bx hbx4; obtain ⟨e0, e1, _, _⟩ := bx hnx4))
        go_roundw
        case rel => exact ⟨k + 1, q, x, out ++ [x], a4, c4, by omega, by go_num, rfl, by simp, by simpa using hol4.box (fun g hg => by have := (hol4.ltB hg).2; omega) _ _, bx_set _ _ hbx4, ((((g03.alloc (by omega) _).alloc (by simp; omega) _).trans (hb4.mono (by omega))).setCell (by simp) _).setCell (by simp) _, by simp; omega, hq15.1, by simp; omega, HT.out⟩
        case measure => simp [intOf]; omega
    · obtain rfl : k = n := by omega
      have hout := HS.out
      rw [List.drop_eq_nil_of_le (by rw [h.len]; omega), tkF, HTT.out, Prod.mk.injEq] at hout
      obtain ⟨e1, e2⟩ := hout
      have E1 := hid e1.symm; have E2 := hid e2.symm
      clear e1 e2
      go_wp2_with (first
        | (go_at_call 12; refine (take_any wr _ _ _ l (h.below hb) (by omega)).mono ?_; rw [← HT1.out, ← HT2.out]; rintro e w4 ⟨a4, c4, rfl, hol4, g4⟩; have g04 := bstep hb g4; have hou4 := hol.rl.below g4)
        | (go_at_call 14; refine (same_any w4 _ _ _ _ _ _ _ _ hol4.rl hou4 hTKn).mono ?_; rw [E1.out]; rintro e w5 ⟨rfl, rfl⟩)
        | (go_at_call 7; refine (awake2_any w4).mono ?_; rintro e w6 ⟨rfl, g6⟩))
      go_ret
      exact ⟨rfl, bstep g04 g6⟩
end Go.Proofs.Ythdjocfnkhhghaa
