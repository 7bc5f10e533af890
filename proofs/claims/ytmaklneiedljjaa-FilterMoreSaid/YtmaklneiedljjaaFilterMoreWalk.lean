/-
  FilterMore, walked: a list with another one behind it lets in what one of both does; the first filter that does is the first list's, if there is one.
-/
import Derived.Test.YtmaklneiedljjaaB11h
namespace Go.Proofs.Ytmaklneiedljjaa
open Go.RowKit Go.Sort
set_option linter.unusedVariables false

set_option maxRecDepth 100000 in
set_option maxHeartbeats 8000000 in
theorem filterMore_walk (w : World) (a : Option Addr) (n c : Nat) (l : List Fi) (a2 : Option Addr) (n2 c2 : Nat) (m : List Fi) (id : Nat) (e : Bool) (h : RK fiE 3 w a n c l) (hok : ∀ x ∈ l, x.Ok) (h2 : RK fiE 3 w a2 n2 c2 m) (hok2 : ∀ x ∈ m, x.Ok) (hi : id < 4294967296) (hn : n ≤ 9223372036854775807) (hn2 : n2 ≤ 9223372036854775807) :
    Calls Try.prog 6 #[.slice a n c, .slice a2 n2 c2, .int .u32 (id : Int), .bool e] w fun r w' => r = .returned (.bool true) ∧ RowKit.Below w.heap.size w w' := by
  obtain ⟨N, hN⟩ : ∃ N, N = min n 20 := ⟨_, rfl⟩
  obtain ⟨M, hM⟩ : ∃ M, M = min n2 20 := ⟨_, rfl⟩
  have hm1 : ∀ ts t w', (Builtin.min_ ts t #[.int .i64 (n : Int), .int .i64 20]).run Try.prog w' = .ok (.int .i64 (N : Int)) w' := min_fact n N 20 hN
  have hm2 : ∀ ts t w', (Builtin.min_ ts t #[.int .i64 (n2 : Int), .int .i64 20]).run Try.prog w' = .ok (.int .i64 (M : Int)) w' := min_fact n2 M 20 hM
  obtain ⟨b, hcut1, r1⟩ := cutK_eq tFi h .i64 N (by omega)
  obtain ⟨b2, hcut2, r2⟩ := cutK_eq tFi h2 .i64 M (by omega)
  have hN20 : N ≤ 20 := by omega
  have hM20 : M ≤ 20 := by omega
  have hl : (l.take N).length = N := r1.len
  have hlm : (m.take M).length = M := r2.len
  have o1 : ∀ x ∈ l.take N, x.Ok := fun x hx => hok x (List.mem_of_mem_take hx)
  have o2 : ∀ x ∈ m.take M, x.Ok := fun x hx => hok2 x (List.mem_of_mem_take hx)
  clear hN hM h h2 hok hok2
  generalize l.take N = L at *
  generalize m.take M = R at *
  have OK1 := hid o1
  have OK2 := hid o2
  have OKB := hid (show ∀ x ∈ L ++ R, x.Ok from fun x hx => by rcases List.mem_append.1 hx with h | h; exact o1 x h; exact o2 x h)
  have HL := hid hl
  have HLM := hid hlm
  have R1 := hid r1
  have R2 := hid r2
  clear o1 o2 hl hlm r1 r2
  -- what the three answers are
  obtain ⟨A, hA⟩ : ∃ A, A = anyF id e L := ⟨_, rfl⟩
  obtain ⟨B, hB⟩ : ∃ B, B = anyF id e R := ⟨_, rfl⟩
  obtain ⟨i, hi1⟩ : ∃ i, i = max (fiF id e L) 0 := ⟨_, rfl⟩
  obtain ⟨k, hk1⟩ : ∃ k, k = max (fiF id e R) 0 := ⟨_, rfl⟩
  obtain ⟨j, hj1⟩ : ∃ j, j = max (fiF id e (L ++ R)) 0 := ⟨_, rfl⟩
  have hkr : 0 ≤ k ∧ k ≤ 20 := by
    rw [hk1]
    refine ⟨by omega, ?_⟩
    unfold fiF
    split
    · have := List.findIdx_le_length (xs := R) (p := letsF id e)
      rw [HLM.out] at this
      omega
    · omega
  have hAB : anyF id e (L ++ R) = (A || B) := by rw [anyF_app, hA, hB]
  have hjA : A = true → j = i := fun h => by rw [hj1, hi1, fiF_app1 (by rw [← hA]; exact h)]
  have hjB : A = false → B = true → j = k + (N : Int) := fun h h' => by
    rw [hj1, hk1, fiF_app2 (by rw [← hA]; exact h) (by rw [← hB]; exact h'), fiF_pos (by rw [← hB]; exact h'), HL.out]
    have := fiF_ge id e R
    rw [← hB, h'] at this
    have h0 : (0 : Int) ≤ fiF id e R := by simpa using this
    omega
  have K1 := hid (fun (w : World) (h : RK fiE 3 w b N c L) => fiFirst_any w b N c L id e false (.int .u8 0) (.slice none 0 0) h OK1.out (by omega) hi)
  have K2 := hid (fun (w : World) (h : RK fiE 3 w b2 M c2 R) => fiFirst_any w b2 M c2 R id e false (.int .u8 0) (.slice none 0 0) h OK2.out (by omega) hi)
  have K3 := hid (fun (w : World) (a : Option Addr) (c : Nat) (h : RK fiE 3 w a (N + M) c (L ++ R)) => fiFirst_any w a (N + M) c (L ++ R) id e false (.int .u8 0) (.slice none 0 0) h OKB.out (by omega) hi)
  have K4 := hid (fun (w : World) (a : Option Addr) (c : Nat) (h : RK fiE 3 w a (N + M) c (L ++ R)) => fiPass_any w a (N + M) c (L ++ R) id e false (.int .u8 0) (.slice none 0 0) h OKB.out (by omega) hi)
  have K5 := hid (fun (w : World) => fiPass_any w none 0 0 [] id e false (.int .u8 0) (.slice none 0 0) (RK.nil _ _ _ _ _) (by simp) (by omega) hi)
  have hp5 : passF id e [] = true := rfl
  have hp4 : passF id e (L ++ R) = (decide (N + M = 0) || (A || B)) := by rw [passF, hAB, List.length_append, HL.out, HLM.out]
  rw [hp5] at K5
  rw [hp4] at K4
  obtain ⟨z, hz⟩ : ∃ z, z = decide (N + M = 0) := ⟨_, rfl⟩
  have hz2 : ((N : Int) + (M : Int) == 0) = z := by rw [hz, Bool.eq_iff_iff]; simp; omega
  rw [← hz] at K4
  clear hz
  rw [hAB, ← hj1] at K3
  rw [← hA, ← hi1] at K1
  rw [← hB, ← hk1] at K2
  have HjA := hid hjA
  have HjB := hid hjB
  clear hA hB hi1 hk1 hj1 hAB hp5 hp4 hjA hjB OK1 OK2 OKB hi HL HLM
  go_enter Try.func6, Try.ntmps6
  go_wp2
  go_quiet (fail)
  have g0 : RowKit.Below w.heap.size w (w.drewN nq) := below_drewN (RowKit.Below.refl _ _) _
  have R1 := hid (R1.out.below g0)
  have R2 := hid (R2.out.below g0)
  generalize w.drewN nq = w1 at *
  clear hm1 hm2 hcut1 hcut2
  have ho := ok_lit eFi 25 w1.heap.size w1 ([] : List Fi) #[] 0 rfl rfl (by omega) (Nat.le_refl _)
  have hr1 := R1.out.below (bnew0 w1 (.cells #[] 25))
  go_upto_region 3 with (first
    | (at_builtin; refine wpList_appK (enc := fiE) tFi eFi rfl _ _ rfl rfl ho rfl hr1 (by omega) (by omega) (by simp) ?_; intro w2 a2 c2 hol2 hb2; rw [Nat.zero_add, List.nil_append] at hol2; have g2 := (bnew0 w1 _).trans hb2; have hr2 := R2.out.below g2; have hs2 := g2.size)
    | (at_builtin; refine wpList_appK (enc := fiE) tFi eFi rfl _ _ rfl rfl hol2 rfl hr2 (by omega) (by omega) hs2 ?_; intro w3 a3 c3 hol3 hb3; have g3 := g2.trans hb3))
  have bW := heap_alloc_new w3 (.cells (fmV id e false (.int .u8 0) (.slice none 0 0)) 30)
  have gW := bnew g3 (.cells (fmV id e false (.int .u8 0) (.slice none 0 0)) 30)
  have R1 := hid (R1.out.below gW)
  have R2 := hid (R2.out.below gW)
  have R3 := hid ((hol3.rk eFi).below (bnew0 w3 (.cells (fmV id e false (.int .u8 0) (.slice none 0 0)) 30)))
  clear ho hr1 hr2 hol2 hol3 hs2 hb2 hb3 g2
  go_upto_region 4 with fail
  generalize w3.alloc (.cells (fmV id e false (.int .u8 0) (.slice none 0 0)) 30) = W at *
  have gg := bstep g0 gW
  clear g0 g3
  go_upto_region 7 with (first
    | (with_reducible refine wpList_loadR rowF rfl _ rfl _ rfl bW rfl ?_)
    | (go_at_call 9; (with_reducible refine (K1.out W R1.out).mono ?_); rintro r v1 ⟨rfl, q1⟩; have b1 := bx_below bW q1; have R2 := hid (R2.out.below q1); have R3 := hid (R3.out.below q1); have gg1 := bstep gg q1)
    | (with_reducible refine wpList_loadR rowF rfl _ rfl _ rfl b1 rfl ?_)
    | (go_at_call 9; (with_reducible refine (K2.out v1 R2.out).mono ?_); rintro r v2 ⟨rfl, q2⟩; have b2 := bx_below b1 q2; have R3 := hid (R3.out.below q2); have gg2 := bstep gg1 q2)
    | (with_reducible refine wpList_loadR rowF rfl _ rfl _ rfl b2 rfl ?_)
    | (go_at_call 9; (with_reducible refine (K3.out v2 a3 c3 R3.out).mono ?_); rintro r v3 ⟨rfl, q3⟩; have b3 := bx_below b2 q3; have R3 := hid (R3.out.below q3); have gg3 := bstep gg2 q3))
  cases A
  · cases B
    · have hzz : ((z || (false || false)) == z) = true := by simp
      go_wp2_with (first
        | (with_reducible refine wpList_loadR rowF rfl _ rfl _ rfl b3 rfl ?_)
        | (go_at_call 13; (with_reducible refine (K4.out v3 a3 c3 R3.out).mono ?_); rintro r v4 ⟨rfl, q4⟩; have b4 := bx_below b3 q4; have gg4 := bstep gg3 q4)
        | (with_reducible refine wpList_loadW rowF (by simp [Region.wanted, yielded]) _ rfl _ rfl b4 rfl ?_)
        | (go_at_call 13; (with_reducible refine (K5.out v4).mono ?_); rintro r v5 ⟨rfl, q5⟩; have gg5 := bstep gg4 q5)
        | (go_at_call 8; (with_reducible refine (awake11_any v5).mono ?_); rintro r v6 ⟨rfl, q6⟩; have gg6 := bstep gg5 q6))
      all_goals
        go_ret
        exact ⟨rfl, gg6⟩
    · have hj := HjB.out rfl rfl
      subst hj
      go_wp2_with (first
        | (with_reducible refine wpList_loadR rowF rfl _ rfl _ rfl b3 rfl ?_)
        | (go_at_call 13; (with_reducible refine (K4.out v3 a3 c3 R3.out).mono ?_); rintro r v4 ⟨rfl, q4⟩; have b4 := bx_below b3 q4; have gg4 := bstep gg3 q4)
        | (with_reducible refine wpList_loadW rowF (by simp [Region.wanted, yielded]) _ rfl _ rfl b4 rfl ?_)
        | (go_at_call 13; (with_reducible refine (K5.out v4).mono ?_); rintro r v5 ⟨rfl, q5⟩; have gg5 := bstep gg4 q5)
        | (go_at_call 8; (with_reducible refine (awake11_any v5).mono ?_); rintro r v6 ⟨rfl, q6⟩; have gg6 := bstep gg5 q6))
      all_goals
        go_ret
        exact ⟨rfl, gg6⟩
  · have hj := HjA.out rfl
    subst hj
    go_wp2_with (first
      | (with_reducible refine wpList_loadR rowF rfl _ rfl _ rfl b3 rfl ?_)
      | (go_at_call 13; (with_reducible refine (K4.out v3 a3 c3 R3.out).mono ?_); rintro r v4 ⟨rfl, q4⟩; have b4 := bx_below b3 q4; have gg4 := bstep gg3 q4)
      | (with_reducible refine wpList_loadW rowF (by simp [Region.wanted, yielded]) _ rfl _ rfl b4 rfl ?_)
      | (go_at_call 13; (with_reducible refine (K5.out v4).mono ?_); rintro r v5 ⟨rfl, q5⟩; have gg5 := bstep gg4 q5)
      | (go_at_call 8; (with_reducible refine (awake11_any v5).mono ?_); rintro r v6 ⟨rfl, q6⟩; have gg6 := bstep gg5 q6))
    all_goals
      go_ret
      exact ⟨rfl, gg6⟩
end Go.Proofs.Ytmaklneiedljjaa
