/-
  Contracts of the document's own answers of layer 2, the rest.
-/
import Derived.Test.YthdjocfnkhhghaaB2c
namespace Go.Proofs.Ythdjocfnkhhghaa
open Go.RowKit
set_option linter.unusedVariables false

theorem field1 (u v : Value) (w : World) : (Instr.field 23 (.agg #[u, v]) 1).run Try.prog w = .ok v w := by kernel_rfl

theorem five_any (w : World) (a : Option Addr) (n c : Nat) (l : List Bool) (h : RL .bool w a n c l) (hn : n ≤ 1000000) :
    Calls Try.prog 23 #[.slice a n c] w fun e w' => e = .returned (.bool (decide ((rowL l).2 = 5))) ∧ Below w.heap.size w w' := by
  obtain ⟨q, hq⟩ : ∃ q, q = (rowL l).2 := ⟨_, rfl⟩
  rw [← hq]
  have HQ := hid hq; clear hq
  have hf := fun u v w => field1 u v w
  by_cases h5 : q = 5
  · subst h5
    go_enter Try.func23, Try.ntmps23
    go_wp2_with (go_at_call 22; refine (row_any w a n c l h hn).mono ?_; rw [← HQ.out]; rintro e w2 ⟨rfl, g2⟩)
    go_ret
    exact ⟨rfl, g2⟩
  · have hd : decide (q = 5) = false := by simp [h5]
    rw [hd]
    go_enter Try.func23, Try.ntmps23
    go_wp2_with (go_at_call 22; refine (row_any w a n c l h hn).mono ?_; rw [← HQ.out]; rintro e w2 ⟨rfl, g2⟩)
    go_ret
    exact ⟨ret_bool (by simp; omega), g2⟩

theorem rowL_rep {b : Bool} {m : Nat} (h : rightA b m) : rowL (List.replicate m b) = (b, m) := by
  obtain ⟨h1, h2⟩ := h
  by_cases h0 : m = 0
  · subst h0; rw [h2 rfl]; rfl
  · have := rowL_back [] b m (by omega) h1 (.inr (.inl rfl))
    simpa using this

theorem refNext_any (w : World) (b : Bool) (m : Nat) (x : Bool) (hm : rightA b m) :
    Calls Try.prog 10 #[.agg #[.bool b, .int .u8 (m : Int)], .bool x] w fun e w' => e = .returned (.tuple #[.agg #[.bool (nxt b m x).1.1, .int .u8 ((nxt b m x).1.2 : Int)], .int .u8 ((nxt b m x).2 : Int)]) ∧ Below w.heap.size w w' := by
  obtain ⟨hm5, hm0⟩ := hm
  by_cases h5 : m = 5
  · subst h5
    by_cases hx : x = b
    · subst hx
      rw [show nxt x 5 x = ((x, 5), 2) from by cases x <;> rfl]
      cases x
      all_goals
        go_enter Try.func10, Try.ntmps10
        go_wp2
      · exact bodyPost_ret (v := .tuple #[.agg #[.bool false, .int .u8 5], .int .u8 2]) (by simp [results, Try.results10, go_sem]) rfl ⟨rfl, bnew (bnew0 _ _) _⟩
      · exact bodyPost_ret (v := .tuple #[.agg #[.bool true, .int .u8 5], .int .u8 2]) (by simp [results, Try.results10, go_sem]) rfl ⟨rfl, bnew (bnew0 _ _) _⟩
    · obtain rfl : x = !b := by cases b <;> cases x <;> simp_all
      rw [nxt_owed]
      cases b
      all_goals
        go_enter Try.func10, Try.ntmps10
        go_wp2
      · exact bodyPost_ret (v := .tuple #[.agg #[.bool true, .int .u8 1], .int .u8 1]) (by simp [results, Try.results10, go_sem]) rfl ⟨rfl, bnew (bnew0 _ _) _⟩
      · exact bodyPost_ret (v := .tuple #[.agg #[.bool false, .int .u8 1], .int .u8 1]) (by simp [results, Try.results10, go_sem]) rfl ⟨rfl, bnew (bnew0 _ _) _⟩
  · have h5' : ((m : Int) == 5) = false := by simp; omega
    have hres : Hid (rowL (List.replicate m b ++ [x]) = (nxt b m x).1 ∧ (nxt b m x).2 = 0) := by
      refine ⟨?_, nxt_plain h5⟩
      rw [rowL_snoc, rowL_rep ⟨hm5, hm0⟩, rst_nxt x (by omega)]
    have hm4 : m ≤ 4 := by omega
    clear hm0
    go_enter Try.func10, Try.ntmps10
    go_wp2
    go_loopw [6, 7] (fun v i wr => ∃ (k : Nat) (a' : Option Addr) (c' : Nat), k ≤ m ∧ i = .int .i64 (k : Int) ∧ v = .slice a' k c' ∧ OL .bool 4 (w.heap.size + 2) wr a' k c' (List.replicate k b) ∧
        wr.heap[w.heap.size]? = some (.cells #[.bool b, .int .u8 (m : Int)] 23 (0, 0)) ∧ wr.heap[w.heap.size + 1]? = some (.cells #[.bool false, .int .u8 0] 23 (0, 0)) ∧ Below w.heap.size w wr ∧ w.heap.size + 2 ≤ wr.heap.size) (fun _ i _ => m - (intOf i).toNat)
    case atStart =>
      obtain ⟨e1, e2, e3⟩ := two_bx (Below.refl _ ((w.alloc (.cells #[.bool b, .int .u8 (m : Int)] 23)).alloc (.cells #[.bool false, .int .u8 0] 23)))
      exact ⟨0, none, 0, Nat.zero_le _, rfl, rfl, OL.nil _ _ _ _, e1, e2, e3, by simp⟩
    case round =>
      obtain ⟨k, a', c', hk, rfl, rfl, hol, hx0, hx1, hb, hs⟩ := hrel
      obtain ⟨c0, c1, f0, f1⟩ := bx hx0
      by_cases hlt : k < m
      · go_wp2_with (at_builtin; refine wpList_app (f := Value.bool) tB rfl _ _ rfl rfl (hol.alloc _) rfl (ol_lit Value.bool _ 0 wr [b] _ 1 rfl rfl (by omega) (Nat.zero_le _)).rl (fun _ => rfl) (by omega) (by omega) (by simp; omega) ?_; intro w2 a2 c2 hol2 hb2; have hs2 := hb2.size)
        go_roundw
        case rel =>
          refine ⟨k + 1, a2, c2, by omega, by go_num, by go_num, by rw [List.replicate_succ']; exact hol2, ?_, ?_, (hb.alloc (by omega) _).trans (hb2.mono (by omega)), by simp at hs2; omega⟩
          · rw [hb2.block _ (by omega)]; exact bx_alloc _ hx0
          · rw [hb2.block _ (by omega)]; exact bx_alloc _ hx1
        case measure => simp [intOf]; omega
      · obtain rfl : k = m := by omega
        go_wp2_with (first
          | (at_builtin; refine wpList_app (f := Value.bool) tB rfl _ _ rfl rfl (hol.alloc _) rfl (ol_lit Value.bool _ 0 wr [x] _ 1 rfl rfl (by omega) (Nat.zero_le _)).rl (fun _ => rfl) (by omega) (by omega) (by simp; omega) ?_; intro w2 a2 c2 hol2 hb2; have hs2 := hb2.size; have hx2 : w2.heap[w.heap.size + 1]? = some (.cells #[.bool false, .int .u8 0] 23 (0, 0)) := by { rw [hb2.block _ (by omega)]; exact bx_alloc _ hx1 })
          | (go_at_call 22; refine (row_any w2 _ _ _ _ hol2.rl (by omega)).mono ?_; rw [hres.out.1]; rintro e w3 ⟨rfl, g3⟩; obtain ⟨d0, d1, k0, k1⟩ := bx (bx_below hx2 g3)))
        refine bodyPost_ret (v := .tuple #[.agg #[.bool (nxt b k x).1.1, .int .u8 ((nxt b k x).1.2 : Int)], .int .u8 0]) (by simp [results, Try.results10, go_sem, d0, d1]) rfl ⟨by rw [hres.out.2]; rfl, ?_⟩
        exact ((((hb.alloc (by omega) _).trans (hb2.mono (by omega))).trans (g3.mono (by simp at hs2; omega))).setCell (by simp) _).setCell (by simp) _
end Go.Proofs.Ythdjocfnkhhghaa
