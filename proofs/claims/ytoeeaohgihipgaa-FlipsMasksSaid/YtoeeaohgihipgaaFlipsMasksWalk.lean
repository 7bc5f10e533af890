/-
  FlipsMasks, walked: two lists one behind the other turn about at each step what just one of them does; a list twice turns about nothing; a list is all of its masks.
-/
import Derived.Test.YtoeeaohgihipgaaM5i
import Derived.Test.YtoeeaohgihipgaaBase2K
namespace Go.Proofs.Ytoeeaohgihipgaa
open Go.RowKit Go.Maps Go.Sort
set_option linter.unusedVariables false

theorem all_app {f g : List Fl} (hf : MadeP f) (hg : MadeP g) : (f ++ g).all isF = true := by
  rw [List.all_append, (allF_iff f).1 hf.all, (allF_iff g).1 hg.all]; rfl
theorem mkE_app {f g : List Fl} (hf : MadeP f) (hg : MadeP g) : mkE (f ++ g) = 0 := by unfold mkE; rw [all_app hf hg]; rfl
theorem mkO_app {f g : List Fl} (hf : MadeP f) (hg : MadeP g) : mkO (f ++ g) = mkL (f ++ g) := by unfold mkO; rw [all_app hf hg]; rfl
theorem right_both {f g : List Fl} (hf : MadeP f) (hg : MadeP g) : RightP (mkL (f ++ g)) :=
  ⟨by have h1 := mkL_length (f ++ g); have h2 := hf.len; have h3 := hg.len; rw [List.length_append] at h1; omega, allF_mkL ((allF_iff _).2 (all_app hf hg)), sor_mkL _⟩

/-- Make of two made lists, one behind the other. -/
theorem make_app (w : World) (a : Option Addr) (n c : Nat) (f g : List Fl) (hf : MadeP f) (hg : MadeP g) (h : RK fe 2 w a n c (f ++ g)) :
    Calls Try.prog 9 #[.slice a n c] w fun e w' => ∃ a' m c', e = .returned (.tuple #[.slice a' m c', .int .i64 0]) ∧ RK fe 2 w' a' m c' (mkL (f ++ g)) ∧ m ≤ 300 ∧ Below w.heap.size w w' :=
  (make_any w a n c _ h (by have h1 := h.len; have h2 := hf.len; have h3 := hg.len; rw [List.length_append] at h1; omega)).mono fun e w' ⟨a', m, c', he, ho, hb⟩ => by
    rw [mkE_app hf hg] at he
    rw [mkO_app hf hg] at ho
    refine ⟨a', m, c', he, ho.rk eF, ?_, hb⟩
    have h1 := mkL_length (f ++ g)
    have h2 := hf.len
    have h3 := hg.len
    rw [List.length_append] at h1
    rw [ho.len] at h1
    omega

theorem make_twice (w : World) (a : Option Addr) (n c : Nat) (f : List Fl) (hf : MadeP f) (h : RK fe 2 w a n c (f ++ f)) :
    Calls Try.prog 9 #[.slice a n c] w fun e w' => ∃ a' c', e = .returned (.tuple #[.slice a' 0 c', .int .i64 0]) ∧ Below w.heap.size w w' :=
  (make_app w a n c f f hf hf h).mono fun e w' ⟨a', m, c', he, hr, _, hb⟩ => by
    rw [mk_twice] at hr
    obtain rfl : m = 0 := hr.len.symm
    exact ⟨a', c', he, hb⟩

theorem emptyK (w : World) : OK fe 2 38 w.heap.size (w.alloc (.cells #[] 38)) (some ⟨w.heap.size, 0, none⟩) 0 0 [] := ok_lit eF 38 w.heap.size w [] #[] 0 rfl rfl (by omega) (Nat.le_refl _)

theorem emptyK1 (w : World) (o : Obj) : OK fe 2 38 (w.alloc o).heap.size ((w.alloc o).alloc (.cells #[] 38)) (some ⟨w.heap.size + 1, 0, none⟩) 0 0 [] := by
  have h := emptyK (w.alloc o)
  have e : (w.alloc o).heap.size = w.heap.size + 1 := heap_size_alloc w o
  rw [← e]
  exact h

theorem litI1 (w : World) (o : Obj) (s : Int) : RL iv ((w.alloc o).alloc (.cells #[.int .i64 s] 3)) (some ⟨w.heap.size + 1, 0, none⟩) 1 1 [s] := by
  have h := (ol_lit iv 3 (w.alloc o).heap.size (w.alloc o) [s] #[.int .i64 s] 1 rfl rfl (by omega) (Nat.le_refl _)).rl
  rwa [heap_size_alloc] at h

theorem ask_start {w w12 : World} {t : Int} {a12 : Option Addr} {nx c12 : Nat} {xs : List Fl} (hb : Below (w.alloc (.cells #[.int .i64 t] 3)).heap.size (w.alloc (.cells #[.int .i64 t] 3)) w12)
    (ho : OK fe 2 38 (w.alloc (.cells #[.int .i64 t] 3)).heap.size w12 a12 nx c12 xs) : AskS w.heap.size w w12 (some ⟨w.heap.size, 0, none⟩) 1 1 [t] a12 nx c12 xs := by
  refine ⟨(ol_lit iv 3 w.heap.size w [t] #[.int .i64 t] 1 rfl rfl (by omega) (Nat.le_refl _)).below hb, ho.rk eF, fun p q hp hq => ?_, bstep (bnew0 w _) hb, ?_, fun q hq => (ho.ltB hq).1⟩
  · cases hp
    have := (ho.ltB hq).2
    rw [heap_size_alloc] at this
    show w.heap.size ≠ q.block
    omega
  · have := hb.size
    rw [heap_size_alloc] at this
    omega

theorem asks_more {xs : List Fl} {k : Nat} {x : Fl} (t : Int) (hx : xs[k]? = some x) : t :: (xs.take (k + 1)).map (fun x => x.1) = (t :: (xs.take k).map (fun x => x.1)) ++ [x.1] := by
  rw [take_more hx, List.map_append]; rfl

theorem bxor_u32 {a b : Nat} (ha : a < 4294967296) (hb : b < 4294967296) : bits BinOp.xor IntKind.u32 (a : Int) (b : Int) = ((a ^^^ b : Nat) : Int) := by
  show IntKind.u32.wrap ((BitVec.ofInt 32 (a : Int) ^^^ BitVec.ofInt 32 (b : Int)).toNat : Int) = _
  have e2 : (BitVec.ofInt 32 (a : Int) ^^^ BitVec.ofInt 32 (b : Int)).toNat = a ^^^ b := by
    rw [BitVec.ofInt_natCast, BitVec.ofInt_natCast, BitVec.toNat_xor, BitVec.toNat_ofNat, BitVec.toNat_ofNat, Nat.mod_eq_of_lt ha, Nat.mod_eq_of_lt hb]
  rw [e2]
  exact IntWalk.u32_in _ (by have := Nat.xor_lt_two_pow (n := 32) ha hb; omega)

theorem mask_both {f g : List Fl} (hf : MadeP f) (hg : MadeP g) (s : Int) : bits BinOp.xor IntKind.u32 (maskL f s : Int) (maskL g s : Int) = (maskL (mkL (f ++ g)) s : Int) := by
  rw [bxor_u32 (maskL_u32 hf.all s) (maskL_u32 hg.all s), mask_xor hf.sor hg.sor]

theorem hit_one {f : List Fl} (hf : MadeP f) {ts : List Int} {k : Nat} {s : Int} (hx : ts[k]? = some s) (h : s ∉ ts.take k) : hitN f (ts.take (k + 1)) = hitN f (ts.take k) + popN (maskL f s) := by
  rw [take_more hx, hitN_more, popN_mask hf.sor hf.all, if_neg (by simpa using h)]
theorem hit_same {f : List Fl} {ts : List Int} {k : Nat} {s : Int} (hx : ts[k]? = some s) (h : s ∈ ts.take k) : hitN f (ts.take (k + 1)) = hitN f (ts.take k) := by
  rw [take_more hx, hitN_more, if_pos (by simpa using h), Nat.add_zero]
theorem hit_put' {D : DataW Unit} {ts : List Int} {k : Nat} {t c : Int} (hx : ts[k]? = some t) (h : HitD D (ts.take k)) (hc : D.atKey (.int .i64 t) (.lit (.int .i64 0)) = .lit (.int .i64 c)) : HitD (D.put (.int .i64 t) (.lit (.int .i64 (c + 1)))) (ts.take (k + 1)) := by
  rw [take_more hx]; exact hit_put h hc
theorem hit_bound {f : List Fl} (hf : MadeP f) (ts : List Int) : hitN f ts ≤ 150 := Nat.le_trans (List.length_filter_le _ _) hf.len

theorem hitN_nil (f : List Fl) : hitN f [] = 0 := by unfold hitN; rw [List.filter_eq_nil_iff.2 (by simp)]; rfl

theorem asked_bnd {f g : List Fl} {t s : Int} (hf : MadeP f) (hg : MadeP g) (ht : -9223372036854775808 ≤ t ∧ t ≤ 9223372036854775807) (h : s ∈ t :: (f ++ g).map (fun x => x.1)) : -9223372036854775808 ≤ s ∧ s ≤ 9223372036854775807 := by
  rcases List.mem_cons.1 h with rfl | h
  · exact ht
  · obtain ⟨x, hx, rfl⟩ := List.mem_map.1 h
    rcases List.mem_append.1 hx with hx | hx
    · have := hf.bnd x hx; omega
    · have := hg.bnd x hx; omega

theorem asked_all {f g : List Fl} (t : Int) : hitN f (t :: (f ++ g).map (fun x => x.1)) = f.length :=
  hitN_all fun x hx => List.mem_cons_of_mem _ (List.mem_map.2 ⟨x, List.mem_append_left _ hx, rfl⟩)

set_option maxRecDepth 100000 in
set_option maxHeartbeats 8000000 in
theorem flipsMasks_walk (w : World) (a : Option Addr) (n c : Nat) (l : List Fl) (a0 : Option Addr) (n0 c0 : Nat) (l0 : List Fl) (t : Int) (h : RK fe 2 w a n c l) (hu : ∀ x ∈ l, x.2 < 256) (h0 : RK fe 2 w a0 n0 c0 l0) (hu0 : ∀ x ∈ l0, x.2 < 256) (ht : -9223372036854775808 ≤ t ∧ t ≤ 9223372036854775807) (hn : n ≤ 9223372036854775807) (hn0 : n0 ≤ 9223372036854775807) :
    Calls Try.prog 4 #[.slice a n c, .slice a0 n0 c0, .int .i64 t] w fun e w' => e = .returned (.bool true) ∧ Below w.heap.size w w' := by
  have HU := hid hu; clear hu
  have HU0 := hid hu0; clear hu0
  have HT := hid ht; clear ht
  have hmm := @run_makeMap Try.prog
  go_enter Try.func4, Try.ntmps4
  go_wp2_with (first
    | (go_at_call 22; with_reducible refine (made_any w a n c l h hn HU.out).mono ?_; rintro e w1 ⟨a1, m1, c1, f, rfl, ho1, hP, g1⟩; have HP := hid hP; clear hP; have hf1 := ho1.rk eF; have hm1 : m1 ≤ 150 := (by have := HP.out.len; have := ho1.len; omega); clear ho1)
    | (go_at_call 22; with_reducible refine (made_any w1 a0 n0 c0 l0 (h0.below g1) hn0 HU0.out).mono ?_; rintro e w2 ⟨a2, m2, c2, g, rfl, ho2, hP, g2⟩; have HG := hid hP; clear hP; have hg1 := ho2.rk eF; have hm2 : m2 ≤ 150 := (by have := HG.out.len; have := ho2.len; omega); clear ho2; have hf2 := hf1.below g2; have gg2 := bstep g1 g2; clear g1 g2 hf1; have ho2 := emptyK w2; have hf3 := hf2.below (bnew0 w2 (.cells #[] 38)))
    | (at_builtin; refine wpList_appK (o := ⟨some 27, _, _, _, _, _⟩) (enc := fe) tF eF rfl _ _ rfl rfl ho2 rfl hf3 (by omega) (by omega) (by simp) ?_; intro w3 a3 c3 ho3 hb3; rw [Nat.zero_add, List.nil_append] at ho3; have hb3 := (bnew0 w2 _).trans hb3; have hsz3 := hb3.size; have hg3 := hg1.below hb3)
    | (at_builtin; refine wpList_appK (o := ⟨some 29, _, _, _, _, _⟩) (enc := fe) tF eF rfl _ _ rfl rfl ho3 rfl hg3 (by omega) (by omega) (by omega) ?_; intro w4 a4 c4 ho4 hb4; have hb4 := hb3.trans hb4; have hr4 := ho4.rk eF; have hf4 := hf2.below hb4; have hg4 := hg1.below hb4; have gg4 := bstep gg2 hb4; clear ho2 hf3 ho3 hb3 hsz3 hg3 ho4 hb4 hf2 hg1 gg2)
    | (go_at_call 9; with_reducible refine (make_app w4 a4 _ c4 f g HP.out HG.out hr4).mono ?_; rintro e w5 ⟨a5, m5, c5, rfl, hq5, hm5, g5⟩; have hf5 := hf4.below g5; have hg5 := hg4.below g5; have gg5 := bstep gg4 g5; clear hr4 hf4 hg4 gg4 g5; have ho5 := emptyK w5; have hf6 := hf5.below (bnew0 w5 (.cells #[] 38)))
    | (at_builtin; refine wpList_appK (o := ⟨some 36, _, _, _, _, _⟩) (enc := fe) tF eF rfl _ _ rfl rfl ho5 rfl hf6 (by omega) (by omega) (by simp) ?_; intro w6 a6 c6 ho6 hb6; rw [Nat.zero_add, List.nil_append] at ho6; have hb6 := (bnew0 w5 _).trans hb6; have hsz6 := hb6.size; have hf7 := hf5.below hb6)
    | (at_builtin; refine wpList_appK (o := ⟨some 38, _, _, _, _, _⟩) (enc := fe) tF eF rfl _ _ rfl rfl ho6 rfl hf7 (by omega) (by omega) (by omega) ?_; intro w7 a7 c7 ho7 hb7; have hb7 := hb6.trans hb7; have hr7 := ho7.rk eF; have hf8 := hf5.below hb7; have hg8 := hg5.below hb7; have hq8 := hq5.below hb7; have gg7 := bstep gg5 hb7; clear ho5 hf6 ho6 hb6 hsz6 hf7 ho7 hb7 hf5 hg5 hq5 gg5)
    | (go_at_call 9; with_reducible refine (make_twice w7 a7 _ c7 f HP.out hr7).mono ?_; rintro e w8 ⟨a8, c8, rfl, g8⟩; have hf9 := hf8.below g8; have hg9 := hg8.below g8; have hq9 := hq8.below g8; have gg8 := bstep gg7 g8; clear hr7 hf8 hg8 hq8 gg7 g8)
    | (go_at_call 11; with_reducible refine (right_any w8 a1 m1 c1 f hf9 (by omega)).mono ?_; rw [rightB_true HP.out.right]; rintro e w9 ⟨rfl, g9⟩; have hf10 := hf9.below g9; have hg10 := hg9.below g9; have hq10 := hq9.below g9; have gg9 := bstep gg8 g9; clear hf9 hg9 hq9 gg8 g9)
    | (go_at_call 11; with_reducible refine (right_any w9 a5 m5 c5 _ hq10 (by omega)).mono ?_; rw [rightB_true (right_both HP.out HG.out)]; rintro e w10 ⟨rfl, g10⟩; have hf11 := hf10.below g10; have hg11 := hg10.below g10; have hq11 := hq10.below g10; have gg10 := bstep gg9 g10; clear hf10 hg10 hq10 gg9 g10; have hk10 := bnew0 w10 (.cells #[.int .i64 t] 3); have ho11 := emptyK1 w10 (.cells #[.int .i64 t] 3); have hE1 := bnew0 (w10.alloc (.cells #[.int .i64 t] 3)) (.cells #[] 38); have hf12 := (hf11.below hk10).below hE1)
    | (at_builtin; refine wpList_appK (o := ⟨some 67, _, _, _, _, _⟩) (enc := fe) tF eF rfl _ _ rfl rfl ho11 rfl hf12 (by omega) (by omega) (by simp) ?_; intro w11 a11 c11 ho12 hb11; rw [Nat.zero_add, List.nil_append] at ho12; have hb11 := hE1.trans hb11; have hsz11 := hb11.size; have hg12 := (hg11.below hk10).below hb11)
    | (at_builtin; refine wpList_appK (o := ⟨some 69, _, _, _, _, _⟩) (enc := fe) tF eF rfl _ _ rfl rfl ho12 rfl hg12 (by omega) (by omega) (by omega) ?_; intro w12 a12 c12 ho13 hb12; have hb12 := hb11.trans hb12; have hS := ask_start hb12 ho13; clear ho11 hE1 hf12 ho12 hb11 hsz11 hg12 ho13 hb12 hk10))
  go_loopg [13, 71] (m1 + m2) (fun gn vv vi wr => ∃ (k : Nat) (aa : Option Addr) (cc : Nat), k ≤ m1 + m2 ∧ gn = m1 + m2 - k ∧ vi = .int .i64 (k : Int) ∧ vv = .slice aa (k + 1) cc ∧ AskS w10.heap.size w10 wr aa (k + 1) cc (t :: ((f ++ g).take k).map (fun x => x.1)) a12 (m1 + m2) c12 (f ++ g))
  case atStart => exact ⟨0, _, 1, by omega, by omega, rfl, rfl, by simpa using hS⟩
  case round =>
    obtain ⟨k, aa, cc, hk, rfl, rfl, rfl, hS1⟩ := hrel
    clear hS
    by_cases hlt : k < m1 + m2
    · obtain ⟨bk, off, s, u, rfl, hx, hbk, hc0, hc1⟩ := rf_at hS1.rk hlt
      have i5 : (k : Int) < (m1 : Int) + (m2 : Int) := by omega
      have HT1 := hid (asks_more t hx)
      clear hx
      have hle := hS1.le
      have hlit := litI1 wr (.cells #[.int .i64 s, .int .u8 (u : Int)] 38) s
      go_wp2_with (first
        | (at_builtin; refine wpList_appg (o := ⟨some 79, _, _, _, _, _⟩) (f := iv) tI rfl _ _ rfl rfl ((hS1.alloc _).alloc _).row rfl hlit (by omega) (fun _ => rfl) (by omega) (by omega) (by simp; omega) ?_; intro w13 a13 c13 ho14 hb14 hk14 hs14; have hS2 := ((hS1.alloc _).alloc _).app ho14 hb14 hk14; rw [← HT1.out] at hS2; clear ho14 hb14 hk14 hs14 hS1))
      go_roundg (m1 + m2 - (k + 1))
      case measure => omega
      case rel => exact ⟨k + 1, a13, c13, by omega, rfl, by go_num, rfl, hS2⟩
    · obtain rfl : k = m1 + m2 := by omega
      obtain ⟨w20, rfl⟩ : ∃ w20, w20 = wr := ⟨_, rfl⟩
      have hr := hS1.row.rl
      rw [List.take_of_length_le (by rw [hS1.rk.len]; exact Nat.le_refl _)] at hr
      have hbel := hS1.bel
      have hf13 := hf11.below hbel
      have hg13 := hg11.below hbel
      have hq13 := hq11.below hbel
      have gg13 := bstep gg10 hbel
      have hlf := hf11.len
      have HALL := hid (asked_all (f := f) (g := g) t)
      obtain ⟨TS, hTS⟩ : ∃ TS, TS = t :: (f ++ g).map (fun x => x.1) := ⟨_, rfl⟩
      rw [← hTS] at hr HALL
      have HTS := hid hTS; clear hTS
      have hlt1 := hr.len
      have HLT := hid hlt1; clear hlt1
      have HLF := hid hlf; clear hlf
      have HAB := hid (right_both HP.out HG.out)
      have hown0 := World.ownsMap_made (H := Unit) w20 Try.prog 3 (plainElem Try.prog 3)
      have hk13 := bnew0 w20 (.map #[] 0)
      have KM1 := hid (fun (wz : World) (gz : Below w20.heap.size w20 wz) => mask_any wz a5 m5 c5 (mkL (f ++ g)) · (hq13.below gz) (by omega) HAB.out.2.2 HAB.out.2.1)
      have KM2 := hid (fun (wz : World) (gz : Below w20.heap.size w20 wz) => mask_any wz a1 m1 c1 f · (hf13.below gz) (by omega) HP.out.sor HP.out.all)
      have KM3 := hid (fun (wz : World) (gz : Below w20.heap.size w20 wz) => mask_any wz a2 m2 c2 g · (hg13.below gz) (by omega) HG.out.sor HG.out.all)
      clear hS1 hf11 hg11 hq11 gg10 hbel hf13 hg13 hq13
      go_wp2
      go_loopg [16, 84] (m1 + m2 + 1) (fun gn vm vi wq => ∃ (k : Nat) (D : DataW Unit), k ≤ m1 + m2 + 1 ∧ gn = m1 + m2 + 1 - k ∧ vi = .int .i64 (k : Int) ∧ vm = .int .i64 (hitN f (TS.take k) : Int) ∧ wq.ownsMap Try.prog 3 (plainElem Try.prog 3) w20.heap.size k D ∧ HitD D (TS.take k) ∧ Below w20.heap.size w20 wq)
      case atStart => exact ⟨0, _, by omega, by omega, rfl, by rw [List.take_zero, hitN_nil]; rfl, hown0, by simpa using hit_made, hk13⟩
      case round =>
        obtain ⟨k, D, hk, rfl, rfl, hvm, hown, hD, hb⟩ := hrel
        clear hown0 hk13
        by_cases hlt2 : k < m1 + m2 + 1
        · subst hvm
          obtain ⟨bk, off, s, rfl, hx, hc0⟩ := (hr.below hb).at hlt2
          have hc : wr.cell? ⟨bk, off + k, none⟩ = some (.int .i64 s) := hc0
          clear hc0
          have i5 : (k : Int) < (m1 : Int) + (m2 : Int) + 1 := by omega
          have hsb := asked_bnd HP.out HG.out HT.out (by rw [← HTS.out]; exact List.mem_of_getElem? hx)
          have hwf := wf64 s hsb.1 hsb.2
          have hX := mask_both HP.out HG.out s
          have hM := maskL_u32 HP.out.all s
          have hlk : (TS.take k).length ≤ 301 := by rw [List.length_take]; omega
          have HON := hid (fun h => hit_one HP.out hx h)
          have HSA := hid (fun h => hit_same (f := f) hx h)
          have hbd1 := hit_bound HP.out (TS.take k)
          have hbd2 := hit_bound HP.out (TS.take (k + 1))
          obtain ⟨c0, hat0, hc1, hc2, hc3⟩ := hD.2 s
          have HPUT := hid (hit_put' hx hD hat0)
          have HAT := hid hat0
          have hmx : k < maxLen := Nat.lt_of_le_of_lt (by omega : k ≤ 301) (by decide)
          clear hat0 hD hx hsb
          by_cases hz : c0 = 0
          · subst hz
            have hnot : s ∉ TS.take k := hc3.1 rfl
            have hone := HON.out hnot
            have i2 : IntKind.i64.wrap ((hitN f (TS.take k) : Int) + (popN (maskL f s) : Int)) = (hitN f (TS.take k) : Int) + (popN (maskL f s) : Int) := IntWalk.i64_in _ (by omega)
            have HONE := hid hone; clear hone hc3 hnot HON HSA
            go_wp2_with (first
              | (go_at_call 16; with_reducible refine (KM1.out s wr hb).mono ?_; rintro e w21 ⟨rfl, g21⟩; have hb21 := bstep hb g21; have hown21 := hown.kept (grown_of g21) (by simp); clear hown g21)
              | (go_at_call 16; with_reducible refine (KM2.out s w21 hb21).mono ?_; rintro e w22 ⟨rfl, g22⟩; have hb22 := bstep hb21 g22; have hown22 := hown21.kept (grown_of g22) (by simp); clear hown21 g22)
              | (go_at_call 16; with_reducible refine (KM3.out s w22 hb22).mono ?_; rintro e w23 ⟨rfl, g23⟩; have hb23 := bstep hb22 g23; have hown23 := hown22.kept (grown_of g23) (by simp); clear hown22 g23)
              | (at_lookup; refine wpList_lookup_own_int (o := ⟨some 101, _, _, _, _, _⟩) _ rfl _ _ 39 rfl 3 3 .i64 lawI Try.underlying39 Try.underlying3 (zeroI _) w20.heap.size k D rfl hown23 _ _ rfl (keyOf_int_mk Try.underlying3 hwf) ?_; intro c9 hat hwc; rw [HAT.out] at hat; obtain rfl : 0 = c9 := (by simpa using hat); clear hat hwc)
              | (go_at_call 16; with_reducible refine (KM2.out s w23 hb23).mono ?_; rintro e w24 ⟨rfl, g24⟩; have hb24 := bstep hb23 g24; have hown24 := hown23.kept (grown_of g24) (by simp); clear hown23 g24)
              | (go_at_call 23; with_reducible refine (ones_any w24 (maskL f s) hM).mono ?_; rintro e w25 ⟨rfl, g25⟩; have hb25 := bstep hb24 g25; have hown25 := hown24.kept (grown_of g25) (by simp); clear hown24 g25)
              | (at_lookup; refine wpList_lookup_own_int (o := ⟨some 111, _, _, _, _, _⟩) _ rfl _ _ 39 rfl 3 3 .i64 lawI Try.underlying39 Try.underlying3 (zeroI _) w20.heap.size k D rfl hown25 _ _ rfl (keyOf_int_mk Try.underlying3 hwf) ?_; intro c9 hat hwc; rw [HAT.out] at hat; obtain rfl : 0 = c9 := (by simpa using hat); clear hat hwc)
              | (at_mapUpdate; refine wpList_mapUpdate_own _ rfl _ _ _ 39 rfl 3 3 lawI Try.underlying39 _ w20.heap.size k D rfl hown25 hmx _ (.int .i64 (0 + 1)) (.int .i64 s) rfl rfl (keyOf_int_mk Try.underlying3 hwf) (.lit (.int .i64 (0 + 1))) [] (plainElem_int Try.underlying3 (wf64 _ (by omega) (by omega))) ?_; intro w26 hown26 hgr26; have hb26 := hb25.grown hgr26 hb25.size (fun q hq => by cases hq; exact Nat.le_refl _); clear hown25 hgr26))
            go_roundg (m1 + m2 + 1 - (k + 1))
            case measure => omega
            case rel => exact ⟨k + 1, _, by omega, rfl, by go_num, congrArg (Value.int IntKind.i64) (by have := HONE.out; omega), hown26, HPUT.out, hb26⟩
          · have hin : s ∈ TS.take k := Classical.byContradiction fun h => hz (hc3.2 h)
            have hsame := HSA.out hin
            have i1 : IntKind.i64.wrap (c0 + 1) = c0 + 1 := IntWalk.i64_in _ (by omega)
            have HSAME := hid hsame; clear hsame hc3 hin HON HSA
            go_wp2_with (first
              | (go_at_call 16; with_reducible refine (KM1.out s wr hb).mono ?_; rintro e w21 ⟨rfl, g21⟩; have hb21 := bstep hb g21; have hown21 := hown.kept (grown_of g21) (by simp); clear hown g21)
              | (go_at_call 16; with_reducible refine (KM2.out s w21 hb21).mono ?_; rintro e w22 ⟨rfl, g22⟩; have hb22 := bstep hb21 g22; have hown22 := hown21.kept (grown_of g22) (by simp); clear hown21 g22)
              | (go_at_call 16; with_reducible refine (KM3.out s w22 hb22).mono ?_; rintro e w23 ⟨rfl, g23⟩; have hb23 := bstep hb22 g23; have hown23 := hown22.kept (grown_of g23) (by simp); clear hown22 g23)
              | (at_lookup; refine wpList_lookup_own_int (o := ⟨some 101, _, _, _, _, _⟩) _ rfl _ _ 39 rfl 3 3 .i64 lawI Try.underlying39 Try.underlying3 (zeroI _) w20.heap.size k D rfl hown23 _ _ rfl (keyOf_int_mk Try.underlying3 hwf) ?_; intro c9 hat hwc; rw [HAT.out] at hat; obtain rfl : c0 = c9 := (by simpa using hat); clear hat hwc)
              | (at_lookup; refine wpList_lookup_own_int (o := ⟨some 111, _, _, _, _, _⟩) _ rfl _ _ 39 rfl 3 3 .i64 lawI Try.underlying39 Try.underlying3 (zeroI _) w20.heap.size k D rfl hown23 _ _ rfl (keyOf_int_mk Try.underlying3 hwf) ?_; intro c9 hat hwc; rw [HAT.out] at hat; obtain rfl : c0 = c9 := (by simpa using hat); clear hat hwc)
              | (at_mapUpdate; refine wpList_mapUpdate_own _ rfl _ _ _ 39 rfl 3 3 lawI Try.underlying39 _ w20.heap.size k D rfl hown23 hmx _ (.int .i64 (c0 + 1)) (.int .i64 s) rfl rfl (keyOf_int_mk Try.underlying3 hwf) (.lit (.int .i64 (c0 + 1))) [] (plainElem_int Try.underlying3 (wf64 _ (by omega) (by omega))) ?_; intro w26 hown26 hgr26; have hb26 := hb23.grown hgr26 hb23.size (fun q hq => by cases hq; exact Nat.le_refl _); clear hown23 hgr26))
            go_roundg (m1 + m2 + 1 - (k + 1))
            case measure => omega
            case rel => exact ⟨k + 1, _, by omega, rfl, by go_num, by rw [HSAME.out], hown26, HPUT.out, hb26⟩
        · obtain rfl : k = m1 + m2 + 1 := by omega
          rw [List.take_of_length_le (by rw [HLT.out]; exact Nat.le_refl _), HALL.out, HLF.out] at hvm
          subst hvm
          go_wp2_with (first | (go_at_call 8; with_reducible refine (awake_any wr).mono ?_; rintro e w11 ⟨rfl, g11⟩))
          go_ret
          exact ⟨rfl, bstep gg13 (bstep hb g11)⟩
end Go.Proofs.Ytoeeaohgihipgaa
