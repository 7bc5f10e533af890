/-
  Contracts of the document's own answer of layer 7: the body that bits begin with, whether it fits, what is driven, which frame is read.
  Contract of the document's own Read: what is said of bits, one by one.
-/
import Derived.Test.YthpgcgkgokfnpaaB7i
import Derived.Test.YthpgcgkgokfnpaaB2i
import Derived.Test.YthpgcgkgokfnpaaM7b
namespace Go.Proofs.Ythpgcgkgokfnpaa
open Go.RowKit
set_option linter.unusedVariables false

theorem refFits7_any (w : World) (a : Option Addr) (n c : Nat) (l : List Bool) (h : RL .bool w a n c l) (hn : n ≤ 10000) :
    Calls Try.prog 24 #[.slice a n c] w fun e w' => e = .returned (.bool (fitL l)) ∧ Below w.heap.size w w' := by
  have hpa := fun (w1 : World) (h1 : RL .bool w1 a n c l) => refParse_W w1 a n c l h1 (by omega)
  rw [fitL_pe]
  generalize peU l = pe at *
  generalize paU l = F at *
  obtain ⟨fid, fext, frem, fdlc, fdata⟩ := F
  dsimp only at hpa
  go_enter Try.func24, Try.ntmps24
  go_wp2_with (go_at_call 29; (with_reducible refine (hpa _ h).mono ?_); rintro e w2 ⟨a2, c2, rfl, hd2, g2⟩)
  go_ret
  exact ⟨rfl, bnew g2 _⟩

theorem bdL_len (l : List Bool) : (bdL l).length ≤ l.length := by
  unfold bdL
  split
  · rw [List.length_take]; have := tkL_len l; omega
  · simp

theorem bdN_len (l : List Bool) : bdN l ≤ 2 * l.length := by
  unfold bdN
  split
  · have h1 := putL_len (bdL l); have h2 := bdL_len l; omega
  · omega

set_option maxHeartbeats 2000000 in
theorem refBody7_any (w : World) (a : Option Addr) (n c : Nat) (l : List Bool) (h : RL .bool w a n c l) (hn : n ≤ 10000) :
    Calls Try.prog 22 #[.slice a n c] w fun e w' => ∃ a' c', e = .returned (.tuple #[.int .i64 (bdN l : Int), .slice a' (bdL l).length c']) ∧ RL .bool w' a' (bdL l).length c' (bdL l) ∧ Below w.heap.size w w' := by
  have htk := refTake_any w a n c l h (by omega)
  have hln := tkL_len l
  rw [h.len] at hln
  have hN : bdN l = if bdK l then (putL (bdL l)).length else 0 := rfl
  have hL : bdL l = if bdK l then (tkL l).1.take (hdN (tkL l).1) else [] := rfl
  have hK : bdK l = (hdK (tkL l).1 && decide (hdN (tkL l).1 ≤ (tkL l).1.length)) := rfl
  rw [hN, hL]
  rw [hL] at hN
  generalize (tkL l).1 = q at *
  generalize (tkL l).2 = wr at *
  obtain ⟨m, hm⟩ : ∃ m, m = q.length := ⟨_, rfl⟩
  rw [← hm] at htk hln hK
  have hh := fun (w1 : World) (a1 : Option Addr) (c1 : Nat) (h1 : RL .bool w1 a1 m c1 q) => refHd_U w1 a1 m c1 q h1 (by omega)
  unfold hdU at hh
  have HM := hid hm
  clear hm hN hL
  cases hk : hdK q
  · rw [hk] at hh hK
    rw [hK]
    simp only [Bool.false_eq_true, if_false, Bool.false_and] at hh ⊢
    go_enter Try.func22, Try.ntmps22
    go_wp2_with (first
      | (go_at_call 23; (with_reducible refine htk.mono ?_); rintro e w1 ⟨a1, c1, rfl, ho1, g1⟩)
      | (go_at_call 38; (with_reducible refine (hh _ _ _ ho1.rl).mono ?_); rintro e w2 ⟨rfl, g2⟩))
    go_ret2
    exact ⟨none, 0, rfl, RL.nil _ _ _ _, bstep g1 g2⟩
  · rw [hk] at hh hK
    rw [hK]
    simp only [if_true, Bool.true_and] at hh ⊢
    obtain ⟨N, hN⟩ : ∃ N, N = hdN q := ⟨_, rfl⟩
    rw [← hN] at hh ⊢
    clear hN hK hk
    by_cases hlt : m < N
    · have e : decide (N ≤ m) = false := decide_eq_false (by omega)
      rw [e]
      simp only [Bool.false_eq_true, if_false]
      go_enter Try.func22, Try.ntmps22
      go_wp2_with (first
        | (go_at_call 23; (with_reducible refine htk.mono ?_); rintro e w1 ⟨a1, c1, rfl, ho1, g1⟩)
        | (go_at_call 38; (with_reducible refine (hh _ _ _ ho1.rl).mono ?_); rintro e w2 ⟨rfl, g2⟩))
      go_ret2
      exact ⟨none, 0, rfl, RL.nil _ _ _ _, bstep g1 g2⟩
    · have hNm : N ≤ m := by omega
      rw [decide_eq_true hNm]
      simp only [if_true]
      have hlN : (q.take N).length = N := by have := HM.out; rw [List.length_take]; omega
      rw [hlN]
      clear hlN
      have hput := fun (w1 : World) (a1 : Option Addr) (c1 : Nat) (h1 : RL .bool w1 a1 N c1 (q.take N)) => refPut_any w1 a1 N c1 (q.take N) h1 (by omega)
      go_enter Try.func22, Try.ntmps22
      go_wp2_with (first
        | (go_at_call 23; (with_reducible refine htk.mono ?_); rintro e w1 ⟨a1, c1, rfl, ho1, g1⟩)
        | (go_at_call 38; (with_reducible refine (hh _ _ _ ho1.rl).mono ?_); rintro e w2 ⟨rfl, g2⟩; have gg2 := bstep g1 g2; have hr2 := ho1.rl.below g2; obtain ⟨a3, p1, p2, hr3⟩ := run_cutTo tB hr2 .i64 N hNm))
      have hd1 : Below w2.heap.size w2 w2.drew := (Below.refl _ _).drew
      go_region_held3 (fun w' => Below w2.heap.size w2 w') (first | exact hd1 | exact g15)
        (first | (go_simp; go_at_call 39; (with_reducible refine Calls.mono (hput w2.drew a3 c1 (hr3.below hd1)) ?_); rintro e w5 ⟨a5, c5, rfl, ho5, g5⟩; have g15 := bstep hd1 g5))
      all_goals
        have gg5 := bstep gg2 g15
        go_wp2
        go_ret2
        exact ⟨a3, c1, rfl, hr3.below g15, gg5⟩

/-- bits behind the document's Body. -/
theorem refDrive7_any (w : World) (a : Option Addr) (n c : Nat) (l : List Bool) (h : RL .bool w a n c l) (hn : n ≤ 10000) :
    Calls Try.prog 11 #[.slice a n c] w fun e w' => e = .returned (.bool (rdD l)) ∧ Below w.heap.size w w' := by
  have hb := refBody7_any w a n c l h hn
  have hbl := bdL_len l
  have hbn := bdN_len l
  rw [h.len] at hbl hbn
  have hf := fun (w1 : World) (a1 : Option Addr) (c1 : Nat) (h1 : RL .bool w1 a1 (bdL l).length c1 (bdL l)) => refFits7_any w1 a1 _ c1 (bdL l) h1 (by omega)
  have HD : rdD l = (decide (bdN l = 0) || !decide (n = bdN l + 1) || !fitL (bdL l)) := by unfold rdD; rw [h.len]
  rw [HD]
  generalize fitL (bdL l) = fi at *
  generalize (bdL l).length = bl at *
  generalize bdN l = N at *
  clear HD
  by_cases h0 : N = 0
  · subst h0
    go_enter Try.func11, Try.ntmps11
    go_wp2_with (go_at_call 22; (with_reducible refine hb.mono ?_); rintro e w1 ⟨a1, c1, rfl, hr1, g1⟩)
    go_ret
    exact ⟨rfl, g1⟩
  · have q0 : ((N : Int) == 0) = false := by simp; omega
    rw [decide_eq_false h0]
    clear h0
    by_cases h1 : n = N + 1
    · have q1 : ((n : Int) != (N : Int) + 1) = false := by simp; omega
      rw [decide_eq_true h1]
      clear h1
      go_enter Try.func11, Try.ntmps11
      go_wp2_with (first
        | (go_at_call 22; (with_reducible refine hb.mono ?_); rintro e w1 ⟨a1, c1, rfl, hr1, g1⟩)
        | (go_at_call 24; (with_reducible refine (hf _ _ _ hr1).mono ?_); rintro e w2 ⟨rfl, g2⟩))
      go_ret
      exact ⟨rfl, bstep g1 g2⟩
    · have q1 : ((n : Int) != (N : Int) + 1) = true := by simp; omega
      rw [decide_eq_false h1]
      clear h1
      go_enter Try.func11, Try.ntmps11
      go_wp2_with (go_at_call 22; (with_reducible refine hb.mono ?_); rintro e w1 ⟨a1, c1, rfl, hr1, g1⟩)
      go_ret
      exact ⟨rfl, g1⟩

set_option maxHeartbeats 2000000 in
theorem refFrame7_any (w : World) (a : Option Addr) (n c : Nat) (l : List Bool) (h : RL .bool w a n c l) (hn : n ≤ 10000) :
    Calls Try.prog 13 #[.slice a n c] w fun e w' => ∃ a' c',
      e = .returned (.tuple #[.agg #[.int .u32 ((rfF l).id : Int), .bool (rfF l).ext, .bool (rfF l).rem, .int .u8 ((rfF l).dlc : Int), .slice a' (rfF l).data.length c'], .bool (rfK l)]) ∧
      RL bv w' a' (rfF l).data.length c' (rfF l).data ∧ Below w.heap.size w w' := by
  obtain ⟨w0, hw0, hrr, _, _, _, _, _, hb0⟩ := boxed w 36 (.int .u32 0) (.bool false) (.bool false) (.int .u8 0) (.slice none 0 0)
  have hb := refBody7_any w0 a n c l (h.below hb0) hn
  have hbl := bdL_len l
  have hbn := bdN_len l
  rw [h.len] at hbl hbn
  have hpa := fun (w1 : World) (a1 : Option Addr) (c1 : Nat) (h1 : RL .bool w1 a1 (bdL l).length c1 (bdL l)) => refParse_W w1 a1 _ c1 (bdL l) h1 (by omega)
  have HK : rfK l = (!rfN l && (peU (bdL l) == 0)) := by unfold rfK; rw [fitL_pe]
  have HF : rfF l = if rfN l then zeroFr else paU (bdL l) := rfl
  have HN : rfN l = (decide (bdN l = 0) || decide (n < bdN l)) := by unfold rfN; rw [h.len]
  rw [HK, HF, HN]
  generalize peU (bdL l) = pe at *
  generalize paU (bdL l) = F at *
  generalize (bdL l).length = bl at *
  generalize bdN l = N at *
  obtain ⟨fid, fext, frem, fdlc, fdata⟩ := F
  dsimp only at hpa
  generalize hlen : fdata.length = M at hpa
  clear HK HF HN
  by_cases h0 : N = 0
  · subst h0
    simp only [decide_true, Bool.true_or, if_true, Bool.not_true, Bool.false_and]
    unfold zeroFr
    clear hpa
    go_enter Try.func13, Try.ntmps13
    go_wp2_with (go_at_call 22; rw [hw0.out]; (with_reducible refine hb.mono ?_); rintro e w1 ⟨a1, c1, rfl, hr1, g1⟩; have gg1 := bstep hb0 g1; have hrr1 := bx_below hrr g1; obtain ⟨r0, r1, r2, r3, r4⟩ := bx5 hrr1; have f0 := bx_thaw hrr1)
    exact bodyPost_ret (v := .tuple #[.agg #[.int .u32 0, .bool false, .bool false, .int .u8 0, .slice none 0 0], .bool false]) (by simp [results, Try.results13, go_sem, r0, r1, r2, r3, r4]) rfl ⟨none, 0, rfl, RL.nil _ _ _ _, below7 gg1 (by omega) _ _ _ _ _⟩
  · have q0 : ((N : Int) == 0) = false := by simp; omega
    rw [decide_eq_false h0]
    clear h0
    by_cases h1 : n < N
    · rw [decide_eq_true h1]
      simp only [Bool.or_true, if_true, Bool.not_true, Bool.false_and]
      unfold zeroFr
      clear hpa
      go_enter Try.func13, Try.ntmps13
      go_wp2_with (go_at_call 22; rw [hw0.out]; (with_reducible refine hb.mono ?_); rintro e w1 ⟨a1, c1, rfl, hr1, g1⟩; have gg1 := bstep hb0 g1; have hrr1 := bx_below hrr g1; obtain ⟨r0, r1, r2, r3, r4⟩ := bx5 hrr1; have f0 := bx_thaw hrr1)
      exact bodyPost_ret (v := .tuple #[.agg #[.int .u32 0, .bool false, .bool false, .int .u8 0, .slice none 0 0], .bool false]) (by simp [results, Try.results13, go_sem, r0, r1, r2, r3, r4]) rfl ⟨none, 0, rfl, RL.nil _ _ _ _, below7 gg1 (by omega) _ _ _ _ _⟩
    · rw [decide_eq_false h1]
      simp only [Bool.or_false, Bool.false_eq_true, if_false, Bool.not_false, Bool.true_and]
      rw [hlen]
      clear hlen
      go_enter Try.func13, Try.ntmps13
      go_wp2_with (first
        | (go_at_call 22; rw [hw0.out]; (with_reducible refine hb.mono ?_); rintro e w1 ⟨a1, c1, rfl, hr1, g1⟩; have gg1 := bstep hb0 g1; have hrr1 := bx_below hrr g1; have hs1 := bx_lt hrr1)
        | (go_at_call 29; (with_reducible refine (hpa _ _ _ hr1).mono ?_); rintro e w2 ⟨a2, c2, rfl, hd2, g2⟩; have hr2 := bx_alloc (.cells #[.int .u32 (fid : Int), .bool fext, .bool frem, .int .u8 (fdlc : Int), .slice a2 M c2] 36) (bx_below hrr1 g2); have gg2 := bnew (bstep gg1 g2) (.cells #[.int .u32 (fid : Int), .bool fext, .bool frem, .int .u8 (fdlc : Int), .slice a2 M c2] 36); obtain ⟨r0, r1, r2, r3, r4⟩ := bx5 hr2; have f0 := bx_thaw hr2))
      refine bodyPost_ret (v := .tuple #[.agg #[.int .u32 (fid : Int), .bool fext, .bool frem, .int .u8 (fdlc : Int), .slice a2 M c2], .bool (pe == 0)]) (by simp [results, Try.results13, go_sem, r0, r1, r2, r3, r4]) rfl ⟨a2, c2, rfl, ((hd2.alloc (.cells #[.int .u32 (fid : Int), .bool fext, .bool frem, .int .u8 (fdlc : Int), .slice a2 M c2] 36)).kept fun j hj => ?_).rl, below7 gg2 (by omega) _ _ _ _ _⟩
      have hj2 := (hd2.ltB hj).2
      have hn : j ≠ w.heap.size := by dsimp only at hj2; omega
      rw [heap_setCell_other _ _ _ _ hn, heap_setCell_other _ _ _ _ hn, heap_setCell_other _ _ _ _ hn, heap_setCell_other _ _ _ _ hn, heap_setCell_other _ _ _ _ hn]
end Go.Proofs.Ythpgcgkgokfnpaa

namespace Go.Proofs.Ythpgcgkgokfnpaa
open Go.RowKit
set_option linter.unusedVariables false

theorem lit7D (w1 : World) (d : Nat) (D : Int) (hD : D = (d : Int)) (q : Nat) (hq : q = w1.heap.size) : RL nv (w1.alloc (.cells #[.int .u8 D] 5)) (some ⟨q, 0, none⟩) 1 1 [d] := by
  subst hD; exact lit7n w1 d q hq

theorem rdF_cons {n : Nat} {wr : Int} {fi : Bool} {k : Nat} {l : List Bool} {x : Bool} {out O : List Nat} (hx : l[k]? = some x) (h : out ++ rdF n wr fi k (l.drop k) = O) :
    (rdS n wr fi k x = 0 ∨ rdS n wr fi k x = 4 → (out ++ [rdS n wr fi k x]) ++ rdF n wr fi (k + 1) (l.drop (k + 1)) = O) ∧ (¬ (rdS n wr fi k x = 0 ∨ rdS n wr fi k x = 4) → out ++ [rdS n wr fi k x] = O) := by
  rw [drop_of_get hx, rdF] at h
  refine ⟨fun hc => ?_, fun hc => ?_⟩
  · rw [if_pos hc] at h; rw [← h]; simp
  · rw [if_neg hc] at h; exact h

set_option maxRecDepth 100000 in
set_option maxHeartbeats 8000000 in
theorem refRead7_any (w : World) (a : Option Addr) (n c : Nat) (l : List Bool) (h : RL .bool w a n c l) (hn : n ≤ 1000) :
    Calls Try.prog 8 #[.slice a n c] w fun e w' => ∃ ao co, e = .returned (.slice ao (rdL l).length co) ∧ OL nv 5 w.heap.size w' ao (rdL l).length co (rdL l) ∧ Below w.heap.size w w' := by
  have hb := refBody7_any w a n c l h (by omega)
  have htk := fun (w1 : World) (h1 : RL .bool w1 a n c l) => refTake_any w1 a n c l h1 (by omega)
  have hbl := bdL_len l
  have hbn := bdN_len l
  rw [h.len] at hbl hbn
  have hf := fun (w1 : World) (a1 : Option Addr) (c1 : Nat) (h1 : RL .bool w1 a1 (bdL l).length c1 (bdL l)) => refFits7_any w1 a1 _ c1 (bdL l) h1 (by omega)
  obtain ⟨O, hO⟩ : ∃ O, O = rdL l := ⟨_, rfl⟩
  have HS := hid (show ([] : List Nat) ++ rdF (bdN l) (tkL l).2 (fitL (bdL l)) 0 (l.drop 0) = O from by rw [hO, List.drop_zero]; rfl)
  rw [← hO]
  generalize fitL (bdL l) = FI at *
  generalize (bdL l).length = bl at *
  generalize bdN l = N at *
  generalize (tkL l).2 = WR at *
  generalize (tkL l).1.length = tl at *
  clear hO
  go_enter Try.func8, Try.ntmps8
  go_wp2_with (first
    | (go_at_call 22; (with_reducible refine hb.mono ?_); rintro e w1 ⟨a1, c1, rfl, hr1, g1⟩; have h1 := h.below g1)
    | (go_at_call 23; (with_reducible refine (htk _ h1).mono ?_); rintro e w2 ⟨a2, c2, rfl, ho2, g2⟩; have gg2 := bstep g1 g2; have hr2 := hr1.below g2; have h2 := h1.below g2))
  clear ho2 hr1 h1 h g1 g2 hb htk
  go_loopw [7, 8] (fun v i wr => ∃ (k : Nat) (ao : Option Addr) (co : Nat) (out : List Nat), k ≤ n ∧ i = .int .i64 (k : Int) ∧ v = .slice ao k co ∧ OL nv 5 w2.heap.size wr ao k co out ∧ Below w2.heap.size w2 wr ∧
      Hid (out ++ rdF N WR FI k (l.drop k) = O)) (fun _ i _ => n - (intOf i).toNat)
  case atStart => exact ⟨0, none, 0, [], by omega, rfl, rfl, OL.nil _ _ _ _, Below.refl _ _, HS⟩
  case round =>
    obtain ⟨k, ao, co, out, hk, rfl, rfl, hol, hbe, HR⟩ := hrel
    have hs := hbe.size
    by_cases hlt : k < n
    · obtain ⟨b, off, x, rfl, hx, hck⟩ := (h2.below hbe).at hlt
      obtain ⟨HC1, HC2⟩ := rdF_cons hx HR.out
      have HC1 := hid HC1
      have HC2 := hid HC2
      clear hx HR HS
      by_cases hA : N = 0 ∨ k < N
      · by_cases hW : (k : Int) = WR
        · obtain ⟨q0, qw⟩ : (((N : Int) == 0) = true ∨ (((N : Int) == 0) = false ∧ (k : Int) < (N : Int))) ∧ ((k : Int) == WR) = true := ⟨by rcases hA with e | e; (exact .inl (by rw [e]; rfl)); (by_cases e0 : N = 0; exact .inl (by rw [e0]; rfl); exact .inr ⟨by simp; omega, by omega⟩), by simpa using hW⟩
          have hS0 : rdS N WR FI k x = 1 := by unfold rdS; rw [if_pos hA, if_pos hW]
          clear hA hW
          rcases q0 with q0 | ⟨q0, q1⟩
          · have hS : rdS N WR FI k x = 1 := by exact hS0
            have HN := hid (HC2.out (by rw [hS]; omega))
            rw [hS] at HN
            clear hS hS0 HC1 HC2
            go_wp2_with (at_builtin; refine wpList_app (f := nv) (l := out) (m := [1]) tY rfl _ _ rfl rfl (hol.alloc _) rfl (lit7D _ 1 1 rfl _ rfl) (fun _ => rfl) (by omega) (by omega) (by simp; omega) ?_; intro w3 a3 c3 hol3 hb3)
            have hb4 : Below w2.heap.size w2 w3 := (hbe.alloc (by omega) _).trans hb3
            go_ret
            have hlen := hol3.len
            rw [HN.out] at hol3 hlen
            rw [← hlen] at hol3 ⊢
            exact ⟨_, _, rfl, hol3.mono gg2.size, gg2.trans (hb4.mono gg2.size)⟩
          · have hS : rdS N WR FI k x = 1 := by exact hS0
            have HN := hid (HC2.out (by rw [hS]; omega))
            rw [hS] at HN
            clear hS hS0 HC1 HC2
            go_wp2_with (at_builtin; refine wpList_app (f := nv) (l := out) (m := [1]) tY rfl _ _ rfl rfl (hol.alloc _) rfl (lit7D _ 1 1 rfl _ rfl) (fun _ => rfl) (by omega) (by omega) (by simp; omega) ?_; intro w3 a3 c3 hol3 hb3)
            have hb4 : Below w2.heap.size w2 w3 := (hbe.alloc (by omega) _).trans hb3
            go_ret
            have hlen := hol3.len
            rw [HN.out] at hol3 hlen
            rw [← hlen] at hol3 ⊢
            exact ⟨_, _, rfl, hol3.mono gg2.size, gg2.trans (hb4.mono gg2.size)⟩
        · obtain ⟨q0, qw⟩ : (((N : Int) == 0) = true ∨ (((N : Int) == 0) = false ∧ (k : Int) < (N : Int))) ∧ ((k : Int) == WR) = false := ⟨by rcases hA with e | e; (exact .inl (by rw [e]; rfl)); (by_cases e0 : N = 0; exact .inl (by rw [e0]; rfl); exact .inr ⟨by simp; omega, by omega⟩), by simpa using hW⟩
          have hS0 : rdS N WR FI k x = 0 := by unfold rdS; rw [if_pos hA, if_neg hW]
          clear hA hW
          rcases q0 with q0 | ⟨q0, q1⟩
          · have hS : rdS N WR FI k x = 0 := by exact hS0
            have HN := hid (HC1.out (by rw [hS]; omega))
            rw [hS] at HN
            clear hS hS0 HC1 HC2
            go_wp2_with (at_builtin; refine wpList_app (f := nv) (l := out) (m := [0]) tY rfl _ _ rfl rfl (hol.alloc _) rfl (lit7D _ 0 0 rfl _ rfl) (fun _ => rfl) (by omega) (by omega) (by simp; omega) ?_; intro w3 a3 c3 hol3 hb3)
            have hb4 : Below w2.heap.size w2 w3 := (hbe.alloc (by omega) _).trans hb3
            go_roundw
            case rel => exact ⟨k + 1, a3, c3, out ++ [0], by omega, by go_num, rfl, hol3, hb4, HN⟩
            case measure => simp [intOf]; omega
          · have hS : rdS N WR FI k x = 0 := by exact hS0
            have HN := hid (HC1.out (by rw [hS]; omega))
            rw [hS] at HN
            clear hS hS0 HC1 HC2
            go_wp2_with (at_builtin; refine wpList_app (f := nv) (l := out) (m := [0]) tY rfl _ _ rfl rfl (hol.alloc _) rfl (lit7D _ 0 0 rfl _ rfl) (fun _ => rfl) (by omega) (by omega) (by simp; omega) ?_; intro w3 a3 c3 hol3 hb3)
            have hb4 : Below w2.heap.size w2 w3 := (hbe.alloc (by omega) _).trans hb3
            go_roundw
            case rel => exact ⟨k + 1, a3, c3, out ++ [0], by omega, by go_num, rfl, hol3, hb4, HN⟩
            case measure => simp [intOf]; omega
      · obtain ⟨j, hj⟩ : ∃ j, k - N = j := ⟨_, rfl⟩
        have q0 : ((N : Int) == 0) = false := by simp; omega
        have q1 : ¬ (k : Int) < (N : Int) := by omega
        have qj : (k : Int) - (N : Int) = (j : Int) := by omega
        by_cases h1 : j = 1
        · have hS : rdS N WR FI k x = 0 := by unfold rdS; rw [if_neg hA, hj, if_pos h1]
          have HN := hid (HC1.out (by rw [hS]; omega))
          rw [hS] at HN
          have e1 : ((j : Int) == 1) = true := by rw [h1]; rfl
          clear h1 hA hj
          clear hS HC1 HC2
          go_wp2_with (at_builtin; refine wpList_app (f := nv) (l := out) (m := [0]) tY rfl _ _ rfl rfl (hol.alloc _) rfl (lit7D _ 0 0 rfl _ rfl) (fun _ => rfl) (by omega) (by omega) (by simp; omega) ?_; intro w3 a3 c3 hol3 hb3)
          have hb4 : Below w2.heap.size w2 w3 := (hbe.alloc (by omega) _).trans hb3
          go_roundw
          case rel => exact ⟨k + 1, a3, c3, out ++ [0], by omega, by go_num, rfl, hol3, hb4, HN⟩
          case measure => simp [intOf]; omega
        have e1 : ((j : Int) == 1) = false := by simp; omega
        by_cases h9 : j = 9
        · have e9 : ((j : Int) == 9) = true := by rw [h9]; rfl
          cases x
          · have hS : rdS N WR FI k false = 5 := by unfold rdS; rw [if_neg hA, hj, if_neg h1, if_pos h9]; rfl
            have HN := hid (HC2.out (by rw [hS]; omega))
            rw [hS] at HN
            clear h1 h9 hA hj
            clear hS HC1 HC2
            go_wp2_with (at_builtin; refine wpList_app (f := nv) (l := out) (m := [5]) tY rfl _ _ rfl rfl (hol.alloc _) rfl (lit7D _ 5 5 rfl _ rfl) (fun _ => rfl) (by omega) (by omega) (by simp; omega) ?_; intro w3 a3 c3 hol3 hb3)
            have hb4 : Below w2.heap.size w2 w3 := (hbe.alloc (by omega) _).trans hb3
            go_ret
            have hlen := hol3.len
            rw [HN.out] at hol3 hlen
            rw [← hlen] at hol3 ⊢
            exact ⟨_, _, rfl, hol3.mono gg2.size, gg2.trans (hb4.mono gg2.size)⟩
          · have hS : rdS N WR FI k true = 6 := by unfold rdS; rw [if_neg hA, hj, if_neg h1, if_pos h9]; rfl
            have HN := hid (HC2.out (by rw [hS]; omega))
            rw [hS] at HN
            clear h1 h9 hA hj
            clear hS HC1 HC2
            go_wp2_with (at_builtin; refine wpList_app (f := nv) (l := out) (m := [6]) tY rfl _ _ rfl rfl (hol.alloc _) rfl (lit7D _ 6 6 rfl _ rfl) (fun _ => rfl) (by omega) (by omega) (by simp; omega) ?_; intro w3 a3 c3 hol3 hb3)
            have hb4 : Below w2.heap.size w2 w3 := (hbe.alloc (by omega) _).trans hb3
            go_ret
            have hlen := hol3.len
            rw [HN.out] at hol3 hlen
            rw [← hlen] at hol3 ⊢
            exact ⟨_, _, rfl, hol3.mono gg2.size, gg2.trans (hb4.mono gg2.size)⟩
        have e9 : ((j : Int) == 9) = false := by simp; omega
        cases x
        · have hS : rdS N WR FI k false = 2 := by unfold rdS; rw [if_neg hA, hj, if_neg h1, if_neg h9, if_pos rfl]
          have HN := hid (HC2.out (by rw [hS]; omega))
          rw [hS] at HN
          clear h1 h9 hA hj
          clear hS HC1 HC2
          go_wp2_with (at_builtin; refine wpList_app (f := nv) (l := out) (m := [2]) tY rfl _ _ rfl rfl (hol.alloc _) rfl (lit7D _ 2 2 rfl _ rfl) (fun _ => rfl) (by omega) (by omega) (by simp; omega) ?_; intro w3 a3 c3 hol3 hb3)
          have hb4 : Below w2.heap.size w2 w3 := (hbe.alloc (by omega) _).trans hb3
          go_ret
          have hlen := hol3.len
          rw [HN.out] at hol3 hlen
          rw [← hlen] at hol3 ⊢
          exact ⟨_, _, rfl, hol3.mono gg2.size, gg2.trans (hb4.mono gg2.size)⟩
        have ht : ¬ (true = false) := by simp
        by_cases h2 : j = 2
        · have e2 : ((j : Int) == 2) = true := by rw [h2]; rfl
          cases FI
          · have hS : rdS N WR false k true = 3 := by unfold rdS; rw [if_neg hA, hj, if_neg h1, if_neg h9, if_neg ht, if_pos ⟨h2, rfl⟩]
            have HN := hid (HC2.out (by rw [hS]; omega))
            rw [hS] at HN
            clear h1 h9 h2 hA hj ht
            clear hS HC1 HC2
            go_wp2_with (first
              | (go_at_call 24; (with_reducible refine (hf _ _ _ (hr2.below hbe)).mono ?_); rintro e w4 ⟨rfl, g4⟩; have hol4 := hol.below g4; have hbe4 := bstep hbe g4; have hs4 := hbe4.size)
              | (at_builtin; refine wpList_app (f := nv) (l := out) (m := [3]) tY rfl _ _ rfl rfl (hol4.alloc _) rfl (lit7D _ 3 3 rfl _ rfl) (fun _ => rfl) (by omega) (by omega) (by simp; omega) ?_; intro w3 a3 c3 hol3 hb3))
            have hb4 : Below w2.heap.size w2 w3 := (hbe4.alloc (by omega) _).trans hb3
            go_ret
            have hlen := hol3.len
            rw [HN.out] at hol3 hlen
            rw [← hlen] at hol3 ⊢
            exact ⟨_, _, rfl, hol3.mono gg2.size, gg2.trans (hb4.mono gg2.size)⟩
          · have e8 : ((j : Int) == 8) = false := by simp; omega
            have hS : rdS N WR true k true = 0 := by unfold rdS; rw [if_neg hA, hj, if_neg h1, if_neg h9, if_neg ht, if_neg (fun hh => by simp at hh), if_neg (by omega)]
            have HN := hid (HC1.out (by rw [hS]; omega))
            rw [hS] at HN
            clear h1 h9 h2 hA hj ht
            clear hS HC1 HC2
            go_wp2_with (first
              | (go_at_call 24; (with_reducible refine (hf _ _ _ (hr2.below hbe)).mono ?_); rintro e w4 ⟨rfl, g4⟩; have hol4 := hol.below g4; have hbe4 := bstep hbe g4; have hs4 := hbe4.size)
              | (at_builtin; refine wpList_app (f := nv) (l := out) (m := [0]) tY rfl _ _ rfl rfl (hol4.alloc _) rfl (lit7D _ 0 0 rfl _ rfl) (fun _ => rfl) (by omega) (by omega) (by simp; omega) ?_; intro w3 a3 c3 hol3 hb3))
            have hb4 : Below w2.heap.size w2 w3 := (hbe4.alloc (by omega) _).trans hb3
            go_roundw
            case rel => exact ⟨k + 1, a3, c3, out ++ [0], by omega, by go_num, rfl, hol3, hb4, HN⟩
            case measure => simp [intOf]; omega
        have e2 : ((j : Int) == 2) = false := by simp; omega
        by_cases h8 : j = 8
        · have e8 : ((j : Int) == 8) = true := by rw [h8]; rfl
          have hS : rdS N WR FI k true = 4 := by unfold rdS; rw [if_neg hA, hj, if_neg h1, if_neg h9, if_neg ht, if_neg (fun hh => h2 hh.1), if_pos h8]
          have HN := hid (HC1.out (by rw [hS]; omega))
          rw [hS] at HN
          clear h1 h9 h2 h8 hA hj ht
          clear hS HC1 HC2
          go_wp2_with (at_builtin; refine wpList_app (f := nv) (l := out) (m := [4]) tY rfl _ _ rfl rfl (hol.alloc _) rfl (lit7D _ 4 4 rfl _ rfl) (fun _ => rfl) (by omega) (by omega) (by simp; omega) ?_; intro w3 a3 c3 hol3 hb3)
          have hb4 : Below w2.heap.size w2 w3 := (hbe.alloc (by omega) _).trans hb3
          go_roundw
          case rel => exact ⟨k + 1, a3, c3, out ++ [4], by omega, by go_num, rfl, hol3, hb4, HN⟩
          case measure => simp [intOf]; omega
        · have e8 : ((j : Int) == 8) = false := by simp; omega
          have hS : rdS N WR FI k true = 0 := by unfold rdS; rw [if_neg hA, hj, if_neg h1, if_neg h9, if_neg ht, if_neg (fun hh => h2 hh.1), if_neg h8]
          have HN := hid (HC1.out (by rw [hS]; omega))
          rw [hS] at HN
          clear h1 h9 h2 h8 hA hj ht
          clear hS HC1 HC2
          go_wp2_with (at_builtin; refine wpList_app (f := nv) (l := out) (m := [0]) tY rfl _ _ rfl rfl (hol.alloc _) rfl (lit7D _ 0 0 rfl _ rfl) (fun _ => rfl) (by omega) (by omega) (by simp; omega) ?_; intro w3 a3 c3 hol3 hb3)
          have hb4 : Below w2.heap.size w2 w3 := (hbe.alloc (by omega) _).trans hb3
          go_roundw
          case rel => exact ⟨k + 1, a3, c3, out ++ [0], by omega, by go_num, rfl, hol3, hb4, HN⟩
          case measure => simp [intOf]; omega
    · obtain rfl : k = n := by omega
      have HO := hid (show out = O from by have := HR.out; rw [List.drop_eq_nil_of_le (by rw [h2.len]; exact Nat.le_refl _), rdF] at this; simpa using this)
      clear HR HS
      go_wp2
      go_ret
      have hlen := hol.len
      rw [HO.out] at hol hlen
      rw [← hlen] at hol ⊢
      exact ⟨_, _, rfl, hol.mono gg2.size, gg2.trans (hbe.mono gg2.size)⟩
end Go.Proofs.Ythpgcgkgokfnpaa
