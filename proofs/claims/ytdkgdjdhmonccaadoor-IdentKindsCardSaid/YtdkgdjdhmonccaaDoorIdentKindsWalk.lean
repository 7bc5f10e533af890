/-
  IdentKinds, walked: whatever two frames carry, the one of the lesser ident wins, part by part. Written by gen_identkw.py.
-/
import Derived.Test.YtdkgdjdhmonccaaDoorZ2
namespace Go.Proofs.YtdkgdjdhmonccaaDoor
open Go.RowKit Go.Sort
set_option linter.unusedVariables false
set_option linter.unusedSimpArgs false

set_option maxRecDepth 100000 in
set_option maxHeartbeats 8000000 in
theorem identKinds_walk (w : World) (hw : WdO w) (kA fA sA rA kB fB sB rB : Nat) (a : Option Addr) (n c : Nat) (l : List UInt8) (a2 : Option Addr) (n2 c2 : Nat) (l2 : List UInt8)
    (hi : kA < 256 ∧ fA < 256 ∧ sA < 65536 ∧ rA < 256) (hi2 : kB < 256 ∧ fB < 256 ∧ sB < 65536 ∧ rB < 256) (hl : RL bv w a n c l) (hl2 : RL bv w a2 n2 c2 l2) (m : n ≤ 9223372036854775807) (m2 : n2 ≤ 9223372036854775807) :
    Calls Tryd.prog 6 #[.agg #[.int .u8 (kA : Int), .int .u8 (fA : Int), .int .u16 (sA : Int), .int .u8 (rA : Int)], .agg #[.int .u8 (kB : Int), .int .u8 (fB : Int), .int .u16 (sB : Int), .int .u8 (rB : Int)], .slice a n c, .slice a2 n2 c2] w fun e w' => e = .returned (.bool true) ∧ Below w.heap.size w w' := by
  obtain ⟨WA, hWA, bA, bB, gg, hsz⟩ := boxed2I w #[.int .u8 (kA : Int), .int .u8 (fA : Int), .int .u16 (sA : Int), .int .u8 (rA : Int)] #[.int .u8 (kB : Int), .int .u8 (fB : Int), .int .u16 (sB : Int), .int .u8 (rB : Int)]
  obtain ⟨NA, hNA⟩ : ∃ N, N = min n 8 := ⟨_, rfl⟩
  have hmnA := min15_8 n NA hNA
  obtain ⟨aA, p1A, p2A, hrA⟩ := run_cutTo tY hl .i64 NA (by omega)
  obtain ⟨FA, EA, hFA, cFA⟩ := frame_one kA fA sA rA hi NA (l.take NA) hrA.len (by omega)
  have CFA := hid cFA; have HDA := hid hrA; have HFA := hid hFA
  clear cFA hrA hFA hNA
  obtain ⟨NB2, hNB⟩ : ∃ N, N = min n2 8 := ⟨_, rfl⟩
  have hmnB := min15_8 n2 NB2 hNB
  obtain ⟨aB, p1B, p2B, hrB⟩ := run_cutTo tY hl2 .i64 NB2 (by omega)
  obtain ⟨FB, EB, hFB, cFB⟩ := frame_one kB fB sB rB hi2 NB2 (l2.take NB2) hrB.len (by omega)
  have CFB := hid cFB; have HDB := hid hrB; have HFB := hid hFB
  clear cFB hrB hFB hNB
  clear hl hl2 m m2
  generalize l.take NA = ld at *; generalize l2.take NB2 = ld2 at *
  go_enter Tryd.func6, Tryd.ntmps6
  go_upto_region 1 with fail
  rw [hWA.out]
  clear hWA hsz
  go_cut [9, 10] (fun s9 s10 wx => ∃ (g9 : Nat) (a9 : Option Addr) (c9 : Nat), s9 = .pointer (some ⟨g9, 0, none⟩) ∧ s10 = .int .i64 EA ∧ wx.heap[g9]? = some (.cells (frV FA a9 c9) 28 (0, 0)) ∧ Below WA.heap.size WA wx)
  case first =>
    have HS : WA.drew.heap[w.heap.size]? = some (.cells #[.int .u8 (kA : Int), .int .u8 (fA : Int), .int .u16 (sA : Int), .int .u8 (rA : Int)] 24 (0, 0)) := bA
    refine Rest.begin (S := fun w' => w'.heap[w.heap.size]? = some (.cells #[.int .u8 (kA : Int), .int .u8 (fA : Int), .int .u16 (sA : Int), .int .u8 (rA : Int)] 24 (0, 0))) (X := [6]) (by kernel_rfl) ?_
    change Rest _ _ _ _ _ _ _ _ _ WA.drew
    refine Rest.takeS (i := 0) (v := .agg #[.int .u8 (kA : Int), .int .u8 (fA : Int), .int .u16 (sA : Int), .int .u8 (rA : Int)]) rfl (by kernel_rfl) (by kernel_rfl) (by kernel_rfl) (by kernel_rfl) (fun _ _ _ h => h) HS (yields_loadR rowI (by simp [Region.wanted]) _ rfl w.heap.size (by simp [Act.eval]) _ rfl (fun w' hw => ⟨_, _, hw⟩)) ?_
    refine Rest.take (i := 1) (v := .slice a n c) rfl (by kernel_rfl) (by kernel_rfl) (by kernel_rfl) (by kernel_rfl) (fun _ _ _ h => h) (.inl HS) (Or.inl ⟨by simp [Region.wanted], ?_⟩) ?_
    · intro w; go_simp
    refine Rest.take (i := 2) (v := .slice a n c) rfl (by kernel_rfl) (by kernel_rfl) (by kernel_rfl) (by kernel_rfl) (fun _ _ _ h => h) (.inl HS) (Or.inl ⟨by simp [Region.wanted], ?_⟩) ?_
    · intro w; go_simp
    refine Rest.take (i := 3) (v := .int .i64 (n : Int)) rfl (by kernel_rfl) (by kernel_rfl) (by kernel_rfl) (by kernel_rfl) (fun _ _ _ h => h) (.inl HS) (Or.inl ⟨by simp [Region.wanted], ?_⟩) ?_
    · intro w; go_simp
    refine Rest.take (i := 4) (v := .int .i64 (NA : Int)) rfl (by kernel_rfl) (by kernel_rfl) (by kernel_rfl) (by kernel_rfl) (fun _ _ _ h => h) (.inl HS) (Or.inl ⟨by simp [Region.wanted], ?_⟩) ?_
    · intro w; go_simp
    refine Rest.take (i := 5) (v := .slice aA NA c) rfl (by kernel_rfl) (by kernel_rfl) (by kernel_rfl) (by kernel_rfl) (fun _ _ _ h => h) (.inl HS) (Or.inl ⟨by simp [Region.wanted], ?_⟩) ?_
    · intro w; go_simp
    refine Rest.two (i := 6) (j := 10) (by kernel_rfl) rfl rfl (fun K hK => ?_) (fun K hK => ?_)
    · have k0 : RowKit.Below WA.heap.size WA WA.drew := (RowKit.Below.refl _ _).drew
      refine draw_callF 11 (by kernel_rfl) (by simp [Region.wanted]) _ _ _ rfl (by simp [Act.eval]) #[.agg #[.int .u8 (kA : Int), .int .u8 (fA : Int), .int .u16 (sA : Int), .int .u8 (rA : Int)], .slice aA NA c] (by simp [Act.eval, Act.put]) _ (CFA.out _ _ _ (hw.below (bstep gg k0)) (HDA.out.below (bstep gg k0))) ?_
      rintro q w1 ⟨a9, c9, rfl, g0⟩
      refine ⟨_, rfl, ?_⟩
      replace k0 := k0.trans g0
      refine hK _ _ ⟨.inr (thru_of (by kernel_rfl)), Rest.of_any _ _ _ _ (thru_of (by kernel_rfl)) ?_⟩; clear hK K HS
      refine wpAny_take (i := 7) (v := .tuple #[.agg (frV FA a9 c9), .int .i64 EA]) rfl (by kernel_rfl) (by kernel_rfl) (by kernel_rfl) (fun _ _ _ h => h) (Or.inl ⟨by simp [Region.wanted], ?_⟩) ?_
      · intro w; go_simp
      refine wpAny_take (i := 8) (v := .agg (frV FA a9 c9)) rfl (by kernel_rfl) (by kernel_rfl) (by kernel_rfl) (fun _ _ _ h => h) (Or.inl ⟨by simp [Region.wanted], ?_⟩) ?_
      · intro w; go_simp
      refine wpAny_take (i := 9) (v := .int .i64 EA) rfl (by kernel_rfl) (by kernel_rfl) (by kernel_rfl) (fun _ _ _ h => h) (Or.inl ⟨by simp [Region.wanted], ?_⟩) ?_
      · intro w; go_simp
      refine wpAny_ready (rs := [10]) (by kernel_rfl) (by simp) ?_
      refine AllReady.cons rfl (fun K hK => ?_) AllReady.nil
      refine draw_allocF (md := .any) rfl rfl ?_
      intro w2 g9 h9 kz l9 m9
      have kk := bstep k0 kz
      replace l9 : WA.heap.size ≤ g9 := Nat.le_trans k0.size l9
      refine hK _ _ ?_; clear hK K kz
      refine wpAny_ready (rs := [11]) (by kernel_rfl) (by simp) ?_
      refine AllReady.cons rfl (fun K hK => ?_) AllReady.nil
      (with_reducible refine draw_storeR rowF ?zz1gd ?zz1x ?zz1y ?zz1o g9 (frV FA a9 c9) ?zz1hx ?zz1hy h9 ?zz1n ?zz1old (fr_ones _ _ _) ?zz1h)
      case zz1o => exact rfl
      case zz1gd => exact rfl
      case zz1hx => simp [Act.eval, Act.put]
      case zz1hy => simp [Act.eval, Act.put]
      case zz1n => rfl
      case zz1old => rfl
      case zz1h =>
      refine hK _ _ ?_; clear hK K
      refine wpAny_take (i := 12) (v := .int .i64 EA) rfl (by kernel_rfl) (by kernel_rfl) (by kernel_rfl) (fun _ _ _ h => h) (Or.inl ⟨by simp [Region.wanted], ?_⟩) ?_
      · intro w; go_simp
      refine wpAny_done (by kernel_rfl) ?_ _
      simp [Act.put]
      go_wp2
      go_meet
      exact ⟨g9, a9, c9, rfl, rfl, setRow_heap _ _ _ _ _ _ h9, below_setRow kk l9 _⟩
    · refine draw_allocF (md := .any) rfl rfl ?_
      intro w2 g9 h9 kz l9 m9
      have k0 : RowKit.Below WA.heap.size WA w2 := (RowKit.Below.refl WA.heap.size WA).drew.trans kz
      replace l9 : WA.heap.size ≤ g9 := l9
      refine hK _ _ ⟨.inl (bx_below HS kz), ?_⟩; clear hK K kz
      refine Rest.one (i := 6) (by kernel_rfl) rfl (fun K hK => ?_)
      refine draw_callF 11 (by kernel_rfl) (by simp [Region.wanted]) _ _ _ rfl (by simp [Act.eval]) #[.agg #[.int .u8 (kA : Int), .int .u8 (fA : Int), .int .u16 (sA : Int), .int .u8 (rA : Int)], .slice aA NA c] (by simp [Act.eval, Act.put]) _ (CFA.out _ _ _ (hw.below (bstep gg k0)) (HDA.out.below (bstep gg k0))) ?_
      rintro q w1 ⟨a9, c9, rfl, g0⟩
      refine ⟨_, rfl, ?_⟩
      have kk := bstep k0 g0
      replace h9 := bx_below h9 g0
      refine hK _ _ ⟨.inr (thru_of (by kernel_rfl)), Rest.of_any _ _ _ _ (thru_of (by kernel_rfl)) ?_⟩; clear hK K HS
      refine wpAny_take (i := 7) (v := .tuple #[.agg (frV FA a9 c9), .int .i64 EA]) rfl (by kernel_rfl) (by kernel_rfl) (by kernel_rfl) (fun _ _ _ h => h) (Or.inl ⟨by simp [Region.wanted], ?_⟩) ?_
      · intro w; go_simp
      refine wpAny_take (i := 8) (v := .agg (frV FA a9 c9)) rfl (by kernel_rfl) (by kernel_rfl) (by kernel_rfl) (fun _ _ _ h => h) (Or.inl ⟨by simp [Region.wanted], ?_⟩) ?_
      · intro w; go_simp
      refine wpAny_take (i := 9) (v := .int .i64 EA) rfl (by kernel_rfl) (by kernel_rfl) (by kernel_rfl) (fun _ _ _ h => h) (Or.inl ⟨by simp [Region.wanted], ?_⟩) ?_
      · intro w; go_simp
      refine wpAny_ready (rs := [11]) (by kernel_rfl) (by simp) ?_
      refine AllReady.cons rfl (fun K hK => ?_) AllReady.nil
      (with_reducible refine draw_storeR rowF ?zz2gd ?zz2x ?zz2y ?zz2o g9 (frV FA a9 c9) ?zz2hx ?zz2hy h9 ?zz2n ?zz2old (fr_ones _ _ _) ?zz2h)
      case zz2o => exact rfl
      case zz2gd => exact rfl
      case zz2hx => simp [Act.eval, Act.put]
      case zz2hy => simp [Act.eval, Act.put]
      case zz2n => rfl
      case zz2old => rfl
      case zz2h =>
      refine hK _ _ ?_; clear hK K
      refine wpAny_take (i := 12) (v := .int .i64 EA) rfl (by kernel_rfl) (by kernel_rfl) (by kernel_rfl) (fun _ _ _ h => h) (Or.inl ⟨by simp [Region.wanted], ?_⟩) ?_
      · intro w; go_simp
      refine wpAny_done (by kernel_rfl) ?_ _
      simp [Act.put]
      go_wp2
      go_meet
      exact ⟨g9, a9, c9, rfl, rfl, setRow_heap _ _ _ _ _ _ h9, below_setRow kk l9 _⟩
  case rest =>
  obtain ⟨gA, a8, c8, rfl, rfl, hA, g1⟩ := hcut
  replace bA := bx_below bA g1; replace bB := bx_below bB g1; replace gg := bstep gg g1; clear g1 CFA HDA p1A p2A hmnA WA
  go_upto_region 2 with fail
  obtain ⟨WA, hWA⟩ : ∃ W, W = wc := ⟨_, rfl⟩
  rw [← hWA] at bA bB gg hA ⊢
  clear hWA
  go_cut [11, 12] (fun s9 s10 wx => ∃ (g9 : Nat) (a9 : Option Addr) (c9 : Nat), s9 = .pointer (some ⟨g9, 0, none⟩) ∧ s10 = .int .i64 EB ∧ wx.heap[g9]? = some (.cells (frV FB a9 c9) 28 (0, 0)) ∧ Below WA.heap.size WA wx)
  case first =>
    have HS : WA.drew.heap[(w.heap.size + 1)]? = some (.cells #[.int .u8 (kB : Int), .int .u8 (fB : Int), .int .u16 (sB : Int), .int .u8 (rB : Int)] 24 (0, 0)) := bB
    refine Rest.begin (S := fun w' => w'.heap[(w.heap.size + 1)]? = some (.cells #[.int .u8 (kB : Int), .int .u8 (fB : Int), .int .u16 (sB : Int), .int .u8 (rB : Int)] 24 (0, 0))) (X := [6]) (by kernel_rfl) ?_
    change Rest _ _ _ _ _ _ _ _ _ WA.drew
    refine Rest.takeS (i := 0) (v := .agg #[.int .u8 (kB : Int), .int .u8 (fB : Int), .int .u16 (sB : Int), .int .u8 (rB : Int)]) rfl (by kernel_rfl) (by kernel_rfl) (by kernel_rfl) (by kernel_rfl) (fun _ _ _ h => h) HS (yields_loadR rowI (by simp [Region.wanted]) _ rfl (w.heap.size + 1) (by simp [Act.eval]) _ rfl (fun w' hw => ⟨_, _, hw⟩)) ?_
    refine Rest.take (i := 1) (v := .slice a2 n2 c2) rfl (by kernel_rfl) (by kernel_rfl) (by kernel_rfl) (by kernel_rfl) (fun _ _ _ h => h) (.inl HS) (Or.inl ⟨by simp [Region.wanted], ?_⟩) ?_
    · intro w; go_simp
    refine Rest.take (i := 2) (v := .slice a2 n2 c2) rfl (by kernel_rfl) (by kernel_rfl) (by kernel_rfl) (by kernel_rfl) (fun _ _ _ h => h) (.inl HS) (Or.inl ⟨by simp [Region.wanted], ?_⟩) ?_
    · intro w; go_simp
    refine Rest.take (i := 3) (v := .int .i64 (n2 : Int)) rfl (by kernel_rfl) (by kernel_rfl) (by kernel_rfl) (by kernel_rfl) (fun _ _ _ h => h) (.inl HS) (Or.inl ⟨by simp [Region.wanted], ?_⟩) ?_
    · intro w; go_simp
    refine Rest.take (i := 4) (v := .int .i64 (NB2 : Int)) rfl (by kernel_rfl) (by kernel_rfl) (by kernel_rfl) (by kernel_rfl) (fun _ _ _ h => h) (.inl HS) (Or.inl ⟨by simp [Region.wanted], ?_⟩) ?_
    · intro w; go_simp
    refine Rest.take (i := 5) (v := .slice aB NB2 c2) rfl (by kernel_rfl) (by kernel_rfl) (by kernel_rfl) (by kernel_rfl) (fun _ _ _ h => h) (.inl HS) (Or.inl ⟨by simp [Region.wanted], ?_⟩) ?_
    · intro w; go_simp
    refine Rest.two (i := 6) (j := 10) (by kernel_rfl) rfl rfl (fun K hK => ?_) (fun K hK => ?_)
    · have k0 : RowKit.Below WA.heap.size WA WA.drew := (RowKit.Below.refl _ _).drew
      refine draw_callF 11 (by kernel_rfl) (by simp [Region.wanted]) _ _ _ rfl (by simp [Act.eval]) #[.agg #[.int .u8 (kB : Int), .int .u8 (fB : Int), .int .u16 (sB : Int), .int .u8 (rB : Int)], .slice aB NB2 c2] (by simp [Act.eval, Act.put]) _ (CFB.out _ _ _ (hw.below (bstep gg k0)) (HDB.out.below (bstep gg k0))) ?_
      rintro q w1 ⟨a9, c9, rfl, g0⟩
      refine ⟨_, rfl, ?_⟩
      replace k0 := k0.trans g0
      refine hK _ _ ⟨.inr (thru_of (by kernel_rfl)), Rest.of_any _ _ _ _ (thru_of (by kernel_rfl)) ?_⟩; clear hK K HS
      refine wpAny_take (i := 7) (v := .tuple #[.agg (frV FB a9 c9), .int .i64 EB]) rfl (by kernel_rfl) (by kernel_rfl) (by kernel_rfl) (fun _ _ _ h => h) (Or.inl ⟨by simp [Region.wanted], ?_⟩) ?_
      · intro w; go_simp
      refine wpAny_take (i := 8) (v := .agg (frV FB a9 c9)) rfl (by kernel_rfl) (by kernel_rfl) (by kernel_rfl) (fun _ _ _ h => h) (Or.inl ⟨by simp [Region.wanted], ?_⟩) ?_
      · intro w; go_simp
      refine wpAny_take (i := 9) (v := .int .i64 EB) rfl (by kernel_rfl) (by kernel_rfl) (by kernel_rfl) (fun _ _ _ h => h) (Or.inl ⟨by simp [Region.wanted], ?_⟩) ?_
      · intro w; go_simp
      refine wpAny_ready (rs := [10]) (by kernel_rfl) (by simp) ?_
      refine AllReady.cons rfl (fun K hK => ?_) AllReady.nil
      refine draw_allocF (md := .any) rfl rfl ?_
      intro w2 g9 h9 kz l9 m9
      have kk := bstep k0 kz
      replace l9 : WA.heap.size ≤ g9 := Nat.le_trans k0.size l9
      refine hK _ _ ?_; clear hK K kz
      refine wpAny_ready (rs := [11]) (by kernel_rfl) (by simp) ?_
      refine AllReady.cons rfl (fun K hK => ?_) AllReady.nil
      (with_reducible refine draw_storeR rowF ?zz3gd ?zz3x ?zz3y ?zz3o g9 (frV FB a9 c9) ?zz3hx ?zz3hy h9 ?zz3n ?zz3old (fr_ones _ _ _) ?zz3h)
      case zz3o => exact rfl
      case zz3gd => exact rfl
      case zz3hx => simp [Act.eval, Act.put]
      case zz3hy => simp [Act.eval, Act.put]
      case zz3n => rfl
      case zz3old => rfl
      case zz3h =>
      refine hK _ _ ?_; clear hK K
      refine wpAny_take (i := 12) (v := .int .i64 EB) rfl (by kernel_rfl) (by kernel_rfl) (by kernel_rfl) (fun _ _ _ h => h) (Or.inl ⟨by simp [Region.wanted], ?_⟩) ?_
      · intro w; go_simp
      refine wpAny_done (by kernel_rfl) ?_ _
      simp [Act.put]
      go_wp2
      go_meet
      exact ⟨g9, a9, c9, rfl, rfl, setRow_heap _ _ _ _ _ _ h9, below_setRow kk l9 _⟩
    · refine draw_allocF (md := .any) rfl rfl ?_
      intro w2 g9 h9 kz l9 m9
      have k0 : RowKit.Below WA.heap.size WA w2 := (RowKit.Below.refl WA.heap.size WA).drew.trans kz
      replace l9 : WA.heap.size ≤ g9 := l9
      refine hK _ _ ⟨.inl (bx_below HS kz), ?_⟩; clear hK K kz
      refine Rest.one (i := 6) (by kernel_rfl) rfl (fun K hK => ?_)
      refine draw_callF 11 (by kernel_rfl) (by simp [Region.wanted]) _ _ _ rfl (by simp [Act.eval]) #[.agg #[.int .u8 (kB : Int), .int .u8 (fB : Int), .int .u16 (sB : Int), .int .u8 (rB : Int)], .slice aB NB2 c2] (by simp [Act.eval, Act.put]) _ (CFB.out _ _ _ (hw.below (bstep gg k0)) (HDB.out.below (bstep gg k0))) ?_
      rintro q w1 ⟨a9, c9, rfl, g0⟩
      refine ⟨_, rfl, ?_⟩
      have kk := bstep k0 g0
      replace h9 := bx_below h9 g0
      refine hK _ _ ⟨.inr (thru_of (by kernel_rfl)), Rest.of_any _ _ _ _ (thru_of (by kernel_rfl)) ?_⟩; clear hK K HS
      refine wpAny_take (i := 7) (v := .tuple #[.agg (frV FB a9 c9), .int .i64 EB]) rfl (by kernel_rfl) (by kernel_rfl) (by kernel_rfl) (fun _ _ _ h => h) (Or.inl ⟨by simp [Region.wanted], ?_⟩) ?_
      · intro w; go_simp
      refine wpAny_take (i := 8) (v := .agg (frV FB a9 c9)) rfl (by kernel_rfl) (by kernel_rfl) (by kernel_rfl) (fun _ _ _ h => h) (Or.inl ⟨by simp [Region.wanted], ?_⟩) ?_
      · intro w; go_simp
      refine wpAny_take (i := 9) (v := .int .i64 EB) rfl (by kernel_rfl) (by kernel_rfl) (by kernel_rfl) (fun _ _ _ h => h) (Or.inl ⟨by simp [Region.wanted], ?_⟩) ?_
      · intro w; go_simp
      refine wpAny_ready (rs := [11]) (by kernel_rfl) (by simp) ?_
      refine AllReady.cons rfl (fun K hK => ?_) AllReady.nil
      (with_reducible refine draw_storeR rowF ?zz4gd ?zz4x ?zz4y ?zz4o g9 (frV FB a9 c9) ?zz4hx ?zz4hy h9 ?zz4n ?zz4old (fr_ones _ _ _) ?zz4h)
      case zz4o => exact rfl
      case zz4gd => exact rfl
      case zz4hx => simp [Act.eval, Act.put]
      case zz4hy => simp [Act.eval, Act.put]
      case zz4n => rfl
      case zz4old => rfl
      case zz4h =>
      refine hK _ _ ?_; clear hK K
      refine wpAny_take (i := 12) (v := .int .i64 EB) rfl (by kernel_rfl) (by kernel_rfl) (by kernel_rfl) (fun _ _ _ h => h) (Or.inl ⟨by simp [Region.wanted], ?_⟩) ?_
      · intro w; go_simp
      refine wpAny_done (by kernel_rfl) ?_ _
      simp [Act.put]
      go_wp2
      go_meet
      exact ⟨g9, a9, c9, rfl, rfl, setRow_heap _ _ _ _ _ _ h9, below_setRow kk l9 _⟩
  case rest =>
  obtain ⟨gB, b8, d8, rfl, rfl, hB, g1⟩ := hcut
  replace bA := bx_below bA g1; replace bB := bx_below bB g1; replace hA := bx_below hA g1; replace gg := bstep gg g1; clear g1 CFB HDB p1B p2B hmnB WA
  have sA16 := hi.2.2.1; have sB16 := hi2.2.2.1
  obtain ⟨xa0, xa1, xa2, xa3⟩ := bx4 bA; obtain ⟨xb0, xb1, xb2, xb3⟩ := bx4 bB
  clear hi hi2
  rcases HFA.out with ⟨hRA, rfl, hA1, hA2, hA3, hA4, hA5⟩ | ⟨_, rfl⟩
  · rcases HFB.out with ⟨hRB, rfl, hB1, hB2, hB3, hB4, hB5⟩ | ⟨_, rfl⟩
    · have fA' : FrI FA ⟨kA, fA, sA, rA⟩ := ⟨hRA, sA16, hA1, hA2, hA3, hA4, hA5⟩
      have fB' : FrI FB ⟨kB, fB, sB, rB⟩ := ⟨hRB, sB16, hB1, hB2, hB3, hB4, hB5⟩
      clear HFA HFB hRA hA1 hA2 hA3 hA4 hA5 hRB hB1 hB2 hB3 hB4 hB5 sA16 sB16
      have C1 := hid (fun w => fA'.before fB' w a8 b8 c8 d8)
      have C2 := hid (fun w => fB'.before fA' w b8 a8 d8 c8)
      have C3 := hid (fun w => fA'.key w a8 c8)
      have C4 := hid (fun w => fB'.key w b8 d8)
      have D1 := hid (fA'.keys fB')
      have D2 := hid (fA'.ids fB'); have D3 := hid (fB'.ids fA')
      have hne' : (⟨kA, fA, sA, rA⟩ : Idt) ≠ ⟨kB, fB, sB, rB⟩ → lsI ⟨kB, fB, sB, rB⟩ ⟨kA, fA, sA, rA⟩ = !lsI ⟨kA, fA, sA, rA⟩ ⟨kB, fB, sB, rB⟩ := fun hne => by
        cases h1 : lsI ⟨kA, fA, sA, rA⟩ ⟨kB, fB, sB, rB⟩
        · cases h2 : lsI ⟨kB, fB, sB, rB⟩ ⟨kA, fA, sA, rA⟩
          · exact absurd (ls_tot h1 h2) hne
          · rfl
        · exact ls_asym h1
      obtain ⟨KA, hKA⟩ : ∃ K : Int, (keyF FA.id FA.ext FA.rem : Int) = K := ⟨_, rfl⟩
      obtain ⟨KB, hKB⟩ : ∃ K : Int, (keyF FB.id FB.ext FB.rem : Int) = K := ⟨_, rfl⟩
      rw [hKA, hKB] at D1
      rw [hKA] at C3; rw [hKB] at C4
      clear hKA hKB fA' fB'
      by_cases hq : kA ≠ kB
      · have hne2 := hne' (by intro e; injection e; omega)
        have hls : lsI ⟨kA, fA, sA, rA⟩ ⟨kB, fB, sB, rB⟩ = decide (kA < kB) := by
          unfold lsI; dsimp only
          rw [if_pos hq]
        rw [hls] at hne2 C1 D1 D2
        rw [hne2] at C2 D3
        have hq1 : ((kA : Int) == (kB : Int)) = false := by simp; omega
        have hq2 : ((kA : Int) != (kB : Int)) = true := by simp; omega
        obtain ⟨v, hv⟩ : ∃ v, decide (kA < kB) = v := ⟨_, rfl⟩
        rw [hv] at C1 C2 D1 D2 D3
        have hID : ((FA.id : Int) != (FB.id : Int)) = true := by
          have h1 := D2.out; have h2 := D3.out
          simp only [bne_iff_ne, ne_eq]
          intro e
          rw [e] at h1 h2
          rw [← h1] at h2
          simp at h2
        have hD1 := D1.out
        have hvv : (v == v) = true := by simp
        have hnv : ((!v) != v) = true := by cases v <;> rfl
        clear hne' hne2 hls hq D1 D2 D3
        go_upto_region 12 with fail
        try rw [hv]
        clear xa0 xa1 xa2 xa3 xb0 xb1 xb2 xb3 bA bB hq1 hq2 hv
        have kb1 := fun d os => Calls.regrown_of (C1.out (grow (redrawn wc d) os))
        have kb2 := fun d os => Calls.regrown_of (C2.out (grow (redrawn wc d) os))
        have kb3 := fun d os => Calls.regrown_of (C3.out (grow (redrawn wc d) os))
        have kb4 := fun d os => Calls.regrown_of (C4.out (grow (redrawn wc d) os))
        have kA' := fun d os => Calls.regrown_of (awake15_any (grow (redrawn wc d) os) (hw.below (bstep gg (below_regrown _ _ _))))
        obtain ⟨y0, y1, y2, y3, y4⟩ := cell5r hA; obtain ⟨z0, z1, z2, z3, z4⟩ := cell5r hB
        clear C1 C2 C3 C4 hA hB hw
        refine wp_region_quiet_below (by kernel_rfl) (by kernel_rfl) ?_
        repeat (go_big_quiet_step (first | (go_at_call 23; with_reducible exact kb1 _ _) | (go_at_call 23; with_reducible exact kb2 _ _) | (go_at_call 22; with_reducible exact kb3 _ _) | (go_at_call 22; with_reducible exact kb4 _ _) | (go_at_call 20; with_reducible exact kA' _ _)))
        refine wpQuiet_nil ?_
        intro w9 hw9
        have g9 : RowKit.Below wc.heap.size wc w9 := by obtain ⟨p9, rfl⟩ := hw9; exact below_regrown _ _ _
        clear hw9 kb1 kb2 kb3 kb4 kA' y0 y1 y2 y3 y4 z0 z1 z2 z3 z4
        go_wp2
        go_ret
        exact ⟨rfl, bstep gg g9⟩
      · have e0 : kA = kB := Decidable.not_not.1 hq
        clear hq
        subst e0
        by_cases hq : fA ≠ fB
        · have hne2 := hne' (by intro e; injection e; omega)
          have hls : lsI ⟨kA, fA, sA, rA⟩ ⟨kA, fB, sB, rB⟩ = decide (fA < fB) := by
            unfold lsI; dsimp only
            rw [if_neg (by simp)]
            rw [if_pos hq]
          rw [hls] at hne2 C1 D1 D2
          rw [hne2] at C2 D3
          have hq1 : ((fA : Int) == (fB : Int)) = false := by simp; omega
          have hq2 : ((fA : Int) != (fB : Int)) = true := by simp; omega
          obtain ⟨v, hv⟩ : ∃ v, decide (fA < fB) = v := ⟨_, rfl⟩
          rw [hv] at C1 C2 D1 D2 D3
          have hID : ((FA.id : Int) != (FB.id : Int)) = true := by
            have h1 := D2.out; have h2 := D3.out
            simp only [bne_iff_ne, ne_eq]
            intro e
            rw [e] at h1 h2
            rw [← h1] at h2
            simp at h2
          have hD1 := D1.out
          have hvv : (v == v) = true := by simp
          have hnv : ((!v) != v) = true := by cases v <;> rfl
          clear hne' hne2 hls hq D1 D2 D3
          go_upto_region 12 with fail
          try rw [hv]
          clear xa0 xa1 xa2 xa3 xb0 xb1 xb2 xb3 bA bB hq1 hq2 hv
          have kb1 := fun d os => Calls.regrown_of (C1.out (grow (redrawn wc d) os))
          have kb2 := fun d os => Calls.regrown_of (C2.out (grow (redrawn wc d) os))
          have kb3 := fun d os => Calls.regrown_of (C3.out (grow (redrawn wc d) os))
          have kb4 := fun d os => Calls.regrown_of (C4.out (grow (redrawn wc d) os))
          have kA' := fun d os => Calls.regrown_of (awake15_any (grow (redrawn wc d) os) (hw.below (bstep gg (below_regrown _ _ _))))
          obtain ⟨y0, y1, y2, y3, y4⟩ := cell5r hA; obtain ⟨z0, z1, z2, z3, z4⟩ := cell5r hB
          clear C1 C2 C3 C4 hA hB hw
          refine wp_region_quiet_below (by kernel_rfl) (by kernel_rfl) ?_
          repeat (go_big_quiet_step (first | (go_at_call 23; with_reducible exact kb1 _ _) | (go_at_call 23; with_reducible exact kb2 _ _) | (go_at_call 22; with_reducible exact kb3 _ _) | (go_at_call 22; with_reducible exact kb4 _ _) | (go_at_call 20; with_reducible exact kA' _ _)))
          refine wpQuiet_nil ?_
          intro w9 hw9
          have g9 : RowKit.Below wc.heap.size wc w9 := by obtain ⟨p9, rfl⟩ := hw9; exact below_regrown _ _ _
          clear hw9 kb1 kb2 kb3 kb4 kA' y0 y1 y2 y3 y4 z0 z1 z2 z3 z4
          go_wp2
          go_ret
          exact ⟨rfl, bstep gg g9⟩
        · have e1 : fA = fB := Decidable.not_not.1 hq
          clear hq
          subst e1
          by_cases hq : sA ≠ sB
          · have hne2 := hne' (by intro e; injection e; omega)
            have hls : lsI ⟨kA, fA, sA, rA⟩ ⟨kA, fA, sB, rB⟩ = decide (sA < sB) := by
              unfold lsI; dsimp only
              rw [if_neg (by simp)]
              rw [if_neg (by simp)]
              rw [if_pos hq]
            rw [hls] at hne2 C1 D1 D2
            rw [hne2] at C2 D3
            have hq1 : ((sA : Int) == (sB : Int)) = false := by simp; omega
            have hq2 : ((sA : Int) != (sB : Int)) = true := by simp; omega
            obtain ⟨v, hv⟩ : ∃ v, decide (sA < sB) = v := ⟨_, rfl⟩
            rw [hv] at C1 C2 D1 D2 D3
            have hID : ((FA.id : Int) != (FB.id : Int)) = true := by
              have h1 := D2.out; have h2 := D3.out
              simp only [bne_iff_ne, ne_eq]
              intro e
              rw [e] at h1 h2
              rw [← h1] at h2
              simp at h2
            have hD1 := D1.out
            have hvv : (v == v) = true := by simp
            have hnv : ((!v) != v) = true := by cases v <;> rfl
            clear hne' hne2 hls hq D1 D2 D3
            go_upto_region 12 with fail
            try rw [hv]
            clear xa0 xa1 xa2 xa3 xb0 xb1 xb2 xb3 bA bB hq1 hq2 hv
            have kb1 := fun d os => Calls.regrown_of (C1.out (grow (redrawn wc d) os))
            have kb2 := fun d os => Calls.regrown_of (C2.out (grow (redrawn wc d) os))
            have kb3 := fun d os => Calls.regrown_of (C3.out (grow (redrawn wc d) os))
            have kb4 := fun d os => Calls.regrown_of (C4.out (grow (redrawn wc d) os))
            have kA' := fun d os => Calls.regrown_of (awake15_any (grow (redrawn wc d) os) (hw.below (bstep gg (below_regrown _ _ _))))
            obtain ⟨y0, y1, y2, y3, y4⟩ := cell5r hA; obtain ⟨z0, z1, z2, z3, z4⟩ := cell5r hB
            clear C1 C2 C3 C4 hA hB hw
            refine wp_region_quiet_below (by kernel_rfl) (by kernel_rfl) ?_
            repeat (go_big_quiet_step (first | (go_at_call 23; with_reducible exact kb1 _ _) | (go_at_call 23; with_reducible exact kb2 _ _) | (go_at_call 22; with_reducible exact kb3 _ _) | (go_at_call 22; with_reducible exact kb4 _ _) | (go_at_call 20; with_reducible exact kA' _ _)))
            refine wpQuiet_nil ?_
            intro w9 hw9
            have g9 : RowKit.Below wc.heap.size wc w9 := by obtain ⟨p9, rfl⟩ := hw9; exact below_regrown _ _ _
            clear hw9 kb1 kb2 kb3 kb4 kA' y0 y1 y2 y3 y4 z0 z1 z2 z3 z4
            go_wp2
            go_ret
            exact ⟨rfl, bstep gg g9⟩
          · have e2 : sA = sB := Decidable.not_not.1 hq
            clear hq
            subst e2
            by_cases hq : rA ≠ rB
            · have hne2 := hne' (by intro e; injection e; omega)
              have hls : lsI ⟨kA, fA, sA, rA⟩ ⟨kA, fA, sA, rB⟩ = decide (rA < rB) := by
                unfold lsI; dsimp only
                rw [if_neg (by simp)]
                rw [if_neg (by simp)]
                rw [if_neg (by simp)]
              rw [hls] at hne2 C1 D1 D2
              rw [hne2] at C2 D3
              have hq1 : ((rA : Int) == (rB : Int)) = false := by simp; omega
              have hq2 : ((rA : Int) != (rB : Int)) = true := by simp; omega
              obtain ⟨v, hv⟩ : ∃ v, decide (rA < rB) = v := ⟨_, rfl⟩
              rw [hv] at C1 C2 D1 D2 D3
              have hID : ((FA.id : Int) != (FB.id : Int)) = true := by
                have h1 := D2.out; have h2 := D3.out
                simp only [bne_iff_ne, ne_eq]
                intro e
                rw [e] at h1 h2
                rw [← h1] at h2
                simp at h2
              have hD1 := D1.out
              have hvv : (v == v) = true := by simp
              have hnv : ((!v) != v) = true := by cases v <;> rfl
              clear hne' hne2 hls hq D1 D2 D3
              go_upto_region 12 with fail
              try rw [hv]
              clear xa0 xa1 xa2 xa3 xb0 xb1 xb2 xb3 bA bB hq1 hq2 hv
              have kb1 := fun d os => Calls.regrown_of (C1.out (grow (redrawn wc d) os))
              have kb2 := fun d os => Calls.regrown_of (C2.out (grow (redrawn wc d) os))
              have kb3 := fun d os => Calls.regrown_of (C3.out (grow (redrawn wc d) os))
              have kb4 := fun d os => Calls.regrown_of (C4.out (grow (redrawn wc d) os))
              have kA' := fun d os => Calls.regrown_of (awake15_any (grow (redrawn wc d) os) (hw.below (bstep gg (below_regrown _ _ _))))
              obtain ⟨y0, y1, y2, y3, y4⟩ := cell5r hA; obtain ⟨z0, z1, z2, z3, z4⟩ := cell5r hB
              clear C1 C2 C3 C4 hA hB hw
              refine wp_region_quiet_below (by kernel_rfl) (by kernel_rfl) ?_
              repeat (go_big_quiet_step (first | (go_at_call 23; with_reducible exact kb1 _ _) | (go_at_call 23; with_reducible exact kb2 _ _) | (go_at_call 22; with_reducible exact kb3 _ _) | (go_at_call 22; with_reducible exact kb4 _ _) | (go_at_call 20; with_reducible exact kA' _ _)))
              refine wpQuiet_nil ?_
              intro w9 hw9
              have g9 : RowKit.Below wc.heap.size wc w9 := by obtain ⟨p9, rfl⟩ := hw9; exact below_regrown _ _ _
              clear hw9 kb1 kb2 kb3 kb4 kA' y0 y1 y2 y3 y4 z0 z1 z2 z3 z4
              go_wp2
              go_ret
              exact ⟨rfl, bstep gg g9⟩
            · have e3 : rA = rB := Decidable.not_not.1 hq
              clear hq
              subst e3
              clear hne' C1 C2 C3 C4 D1 D2 D3
              go_wp2_with (go_at_call 20; (with_reducible refine (awake15_any _ (hw.below gg)).mono ?_); rintro q w5 ⟨rfl, g5⟩)
              go_ret
              exact ⟨rfl, bstep gg g5⟩
    · clear HFA HFB
      go_wp2_with (go_at_call 20; (with_reducible refine (awake15_any _ (hw.below gg)).mono ?_); rintro q w5 ⟨rfl, g5⟩)
      go_ret
      exact ⟨rfl, bstep gg g5⟩
  · clear HFA HFB
    go_wp2_with (go_at_call 20; (with_reducible refine (awake15_any _ (hw.below gg)).mono ?_); rintro q w5 ⟨rfl, g5⟩)
    go_ret
    exact ⟨rfl, bstep gg g5⟩
end Go.Proofs.YtdkgdjdhmonccaaDoor
