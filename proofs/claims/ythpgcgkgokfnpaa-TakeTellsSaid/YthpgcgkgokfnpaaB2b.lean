/-
  Contracts of stuff.Put and stuff.Take.
-/
import Derived.Test.YthpgcgkgokfnpaaB2
namespace Go.Proofs.Ythpgcgkgokfnpaa
open Go.RowKit
set_option linter.unusedVariables false

theorem owed_five (w : World) (b : Bool) :
    Calls Try.prog 37 #[.agg #[.bool b, .int .u8 5]] w fun e w' => e = .returned (.tuple #[.bool (!b), .bool true]) ∧ Below w.heap.size w w' := by
  have := owed_any w b 5 (by omega)
  simpa using this

theorem owed_none (w : World) (b : Bool) (m : Nat) (hm : m < 256) (h5 : m ≠ 5) :
    Calls Try.prog 37 #[.agg #[.bool b, .int .u8 (m : Int)]] w fun e w' => e = .returned (.tuple #[.bool false, .bool false]) ∧ Below w.heap.size w w' := by
  have := owed_any w b m hm
  simpa [h5] using this

theorem next_five (w : World) (b : Bool) :
    Calls Try.prog 36 #[.agg #[.bool b, .int .u8 5], .bool (!b)] w fun e w' => e = .returned (.tuple #[.agg #[.bool (!b), .int .u8 1], .int .u8 1]) ∧ Below w.heap.size w w' := by
  have := next_any w b 5 (!b) ⟨by omega, by omega⟩
  rw [nxt_owed] at this
  exact this

theorem drop_at {l : List Bool} {k : Nat} {x : Bool} (h : l[k]? = some x) : l.drop k = x :: l.drop (k + 1) := by
  obtain ⟨h1, h2⟩ := List.getElem?_eq_some_iff.1 h
  rw [List.drop_eq_getElem_cons h1, h2]

theorem put_any (w : World) (a : Option Addr) (n c : Nat) (l : List Bool) (h : RL .bool w a n c l) (hn : n ≤ 100000) :
    Calls Try.prog 19 #[.slice a n c] w fun e w' => ∃ a' c', e = .returned (.slice a' (putL l).length c') ∧ OL .bool 4 w.heap.size w' a' (putL l).length c' (putL l) ∧ Below w.heap.size w w' := by
  have hlen := hid (putL_len l)
  go_enter Try.func19, Try.ntmps19
  go_wp2_with (at_make; refine wpList_mk0 (f := Value.bool) (n := n + n / 4) tB rfl _ _ rfl _ _ _ rfl rfl (by omega) (by omega) (by omega) ?_; intro w1 hown hb1 hs1; obtain ⟨g, hg⟩ : ∃ g, g = w.heap.size + 1 := ⟨_, rfl⟩; rw [← hg] at hs1; have HG := hid hg; clear hg)
  have H0 := hid hown; clear hown
  go_loopw [3, 18] (fun v i wr => ∃ (k m : Nat) (b : Bool) (out : List Bool) (a' : Option Addr) (c' : Nat), k ≤ n ∧ i = .int .i64 k ∧ v = .slice a' out.length c' ∧ OL .bool 4 w.heap.size wr a' out.length c' out ∧
      wr.heap[g]? = some (.cells #[.bool b, .int .u8 (m : Int)] 27 (0, 0)) ∧ NB a' g ∧ Below w.heap.size w wr ∧ rightA b m ∧ m ≤ 4 ∧ out ++ putF b m (l.drop k) = putL l) (fun _ i _ => n - (intOf i).toNat)
  case atStart => exact ⟨0, 0, false, [], _, _, Nat.zero_le _, rfl, rfl, H0.out.alloc _, by rw [← hs1]; exact heap_alloc_new _ _, NB.at (by have := HG.out; omega), bnew hb1 _, ⟨by omega, fun _ => rfl⟩, by omega, by rw [List.drop_zero]; rfl⟩
  case round =>
    obtain ⟨k, m, b, out, a', c', hk, rfl, rfl, hol, hbx, hnb, hb, hr, hm4, hspec⟩ := hrel
    have HS := hid hspec; clear hspec
    have hlo : out.length ≤ 200000 := by
      have h1 := hlen.out
      have h2 : out.length ≤ (putL l).length := by rw [← HS.out, List.length_append]; omega
      rw [h.len] at h1
      omega
    have HR := hid hr; clear hr
    by_cases hlt : k < n
    · have hrr := h.below hb
      obtain ⟨b0, off, x, rfl, hx, hck⟩ := hrr.at hlt
      have HX := hid hx; clear hx hrr
      have hs := hb.size
      have hgl := bx_lt hbx
      obtain ⟨b1, hb1'⟩ : ∃ b1, b1 = (nxt b m x).1.1 := ⟨_, rfl⟩
      obtain ⟨m1, hm1⟩ : ∃ m1, m1 = (nxt b m x).1.2 := ⟨_, rfl⟩
      obtain ⟨kd, hkd⟩ : ∃ kd, kd = (nxt b m x).2 := ⟨_, rfl⟩
      have hm15 : m1 ≤ 5 := by rw [hm1]; exact (nxt_right HR.out).1.1
      have HB1 := hid hb1'; have HM1 := hid hm1; have HKD := hid hkd
      clear hb1' hm1 hkd
      by_cases h5 : m1 = 5
      · obtain ⟨e1, e2⟩ := nxt_five hm4 (HM1.out.symm.trans h5)
        have hb1x : b1 = x := by rw [HB1.out, e1]
        have hn5 : Hid (nxt b m x = ((x, 5), 0)) := e1
        subst h5
        subst hb1x
        clear HB1 HM1 HKD e1 e2
        go_wp2_with (first
          | (at_builtin; refine wpList_appg (f := Value.bool) tB rfl _ _ rfl rfl (hol.alloc _) rfl (ol_lit Value.bool _ w.heap.size wr [b1] _ 1 rfl rfl (by omega) hs).rl (by omega) (fun _ => rfl) (by omega) (by omega) (by simp; omega) ?_; intro w2 a2 c2 hol2 hb2 hk2 hs2; have hs2' : w.heap.size + 1 ≤ w2.heap.size := by { rw [heap_size_alloc] at hs2; omega }; have hbx2 : w2.heap[g]? = _ := ((hk2 g (by simp; omega) hnb).1).trans (bx_alloc _ hbx); have hnb2 := (hk2 g (by simp; omega) hnb).2; obtain ⟨c0, c1, f0, f1⟩ := bx hbx2)
          | (go_at_call 36; (with_reducible refine (next_any w2 b m b1 HR.out).mono ?_); rw [hn5.out]; rintro e w3 ⟨rfl, g3⟩; have hbx3 := bx_below hbx2 g3; obtain ⟨d0, d1, k0, k1⟩ := bx hbx3)
          | (go_at_call 37; refine (owed_five _ b1).mono ?_; rintro e w4 ⟨rfl, g4⟩; have hbx4 := bx_below (bx_set (.bool b1) (.int .u8 5) hbx3) g4; have hol4 := ((hol2.below g3).box hnb2 (.bool b1) (.int .u8 5)).below g4; have hs4 : w.heap.size + 1 ≤ w4.heap.size := by { have h1 := g4.size; have h2 := g3.size; simp at h1; omega }; have hb4 : Below w.heap.size w w4 := (((hb.alloc hs _).trans hb2).trans (((g3.mono (by omega)).setCell (by show w.heap.size ≤ g; have := HG.out; omega) _).setCell (by show w.heap.size ≤ g; have := HG.out; omega) _)).trans (g4.mono (by simp; have := g3.size; omega)))
          | (at_builtin; refine wpList_appg (f := Value.bool) tB rfl _ _ rfl rfl (hol4.alloc _) rfl (ol_lit Value.bool _ w.heap.size w4 [!b1] _ 1 rfl rfl (by omega) (by omega)).rl (by omega) (fun _ => rfl) (by omega) (by omega) (by simp; omega) ?_; intro w5 a5 c5 hol5 hb5 hk5 hs5; have hs5' : w.heap.size + 1 ≤ w5.heap.size := by { rw [heap_size_alloc] at hs5; omega }; have hbx5 : w5.heap[g]? = _ := ((hk5 g (by simp; have := bx_lt hbx4; omega) hnb2).1).trans (bx_alloc _ hbx4); have hnb5 := (hk5 g (by simp; have := bx_lt hbx4; omega) hnb2).2; obtain ⟨p0, p1, q0, q1⟩ := bx hbx5)
          | (go_at_call 36; (with_reducible refine (next_five w5 b1).mono ?_); rintro e w6 ⟨rfl, g6⟩; have hbx6 := bx_below hbx5 g6; obtain ⟨r0, r1, t0, t1⟩ := bx hbx6))
        go_roundw
        case rel =>
          refine ⟨k + 1, 1, !b1, out ++ [b1] ++ [!b1], a5, c5, by omega, by go_num, by simp, by simpa using (hol5.below g6).box hnb5 _ _, bx_set _ _ hbx6, hnb5, ?_, ⟨by omega, by omega⟩, by omega, ?_⟩
          · exact ((hb4.alloc (by omega) _).trans hb5).trans (((g6.mono (by omega)).setCell (by show w.heap.size ≤ g; have := HG.out; omega) _).setCell (by show w.heap.size ≤ g; have := HG.out; omega) _)
          · rw [← HS.out, drop_at HX.out, putF, if_pos (by rw [hn5.out])]; simp
        case measure => simp [intOf]; omega
      · have hm14 : m1 ≤ 4 := by omega
        go_wp2_with (first
          | (at_builtin; refine wpList_appg (f := Value.bool) tB rfl _ _ rfl rfl (hol.alloc _) rfl (ol_lit Value.bool _ w.heap.size wr [x] _ 1 rfl rfl (by omega) hs).rl (by omega) (fun _ => rfl) (by omega) (by omega) (by simp; omega) ?_; intro w2 a2 c2 hol2 hb2 hk2 hs2; have hs2' : w.heap.size + 1 ≤ w2.heap.size := by { rw [heap_size_alloc] at hs2; omega }; have hbx2 : w2.heap[g]? = _ := ((hk2 g (by simp; omega) hnb).1).trans (bx_alloc _ hbx); have hnb2 := (hk2 g (by simp; omega) hnb).2; obtain ⟨c0, c1, f0, f1⟩ := bx hbx2)
          | (go_at_call 36; refine (next_any w2 b m x HR.out).mono ?_; rw [← HB1.out, ← HM1.out, ← HKD.out]; rintro e w3 ⟨rfl, g3⟩; have hbx3 := bx_below hbx2 g3; obtain ⟨d0, d1, k0, k1⟩ := bx hbx3)
          | (go_at_call 37; refine (owed_none _ b1 m1 (by omega) h5).mono ?_; rintro e w4 ⟨rfl, g4⟩; have hbx4 := bx_below (bx_set (.bool b1) (.int .u8 (m1 : Int)) hbx3) g4))
        go_roundw
        case rel =>
          refine ⟨k + 1, m1, b1, out ++ [x], a2, c2, by omega, by go_num, by simp, by simpa using ((hol2.below g3).box hnb2 _ _).below g4, hbx4, hnb2, ?_, ?_, hm14, ?_⟩
          · exact (((hb.alloc hs _).trans hb2).trans (((g3.mono (by omega)).setCell (by show w.heap.size ≤ g; have := HG.out; omega) _).setCell (by show w.heap.size ≤ g; have := HG.out; omega) _)).trans (g4.mono (by simp; have := g3.size; omega))
          · rw [HB1.out, HM1.out]; exact (nxt_right HR.out).1
          · rw [← HS.out, drop_at HX.out, putF, if_neg (by rw [← HM1.out]; exact h5), ← HB1.out, ← HM1.out]; simp
        case measure => simp [intOf]; omega
    · obtain rfl : k = n := by omega
      have hout : Hid (out = putL l) := by
        have e := HS.out
        rw [List.drop_eq_nil_of_le (by rw [h.len]; omega)] at e
        show out = putL l
        simpa [putF] using e
      go_wp2
      go_ret
      have e := hout.out
      subst e
      exact ⟨a', c', rfl, hol, hb⟩

theorem nxt_kind (b : Bool) (m : Nat) (x : Bool) : (nxt b m x).2 = 0 ∨ (nxt b m x).2 = 1 ∨ (nxt b m x).2 = 2 := by
  unfold nxt; split <;> split <;> simp

end Go.Proofs.Ythpgcgkgokfnpaa
