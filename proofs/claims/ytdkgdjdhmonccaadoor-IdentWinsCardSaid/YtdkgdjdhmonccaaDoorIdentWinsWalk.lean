/-
  IdentWins, walked: the frame of the lesser ident wins; less is an order; unlike idents have unlike identifiers. Written by gen_identkw.py.
-/
import Derived.Test.YtdkgdjdhmonccaaDoorZ2
namespace Go.Proofs.YtdkgdjdhmonccaaDoor
open Go.RowKit Go.Sort
set_option linter.unusedVariables false
set_option linter.unusedSimpArgs false

set_option maxRecDepth 100000 in
set_option maxHeartbeats 8000000 in
theorem identWins_walk (w : World) (hw : WdO w) (kA fA sA rA kB fB sB rB kC fC sC rC : Nat) (a : Option Addr) (n c : Nat) (l : List UInt8) (a2 : Option Addr) (n2 c2 : Nat) (l2 : List UInt8)
    (hi : kA < 256 ∧ fA < 256 ∧ sA < 65536 ∧ rA < 256) (hi2 : kB < 256 ∧ fB < 256 ∧ sB < 65536 ∧ rB < 256) (hi3 : kC < 256 ∧ fC < 256 ∧ sC < 65536 ∧ rC < 256) (hl : RL bv w a n c l) (hl2 : RL bv w a2 n2 c2 l2) (m : n ≤ 9223372036854775807) (m2 : n2 ≤ 9223372036854775807) :
    Calls Tryd.prog 5 #[.agg #[.int .u8 (kA : Int), .int .u8 (fA : Int), .int .u16 (sA : Int), .int .u8 (rA : Int)], .agg #[.int .u8 (kB : Int), .int .u8 (fB : Int), .int .u16 (sB : Int), .int .u8 (rB : Int)], .agg #[.int .u8 (kC : Int), .int .u8 (fC : Int), .int .u16 (sC : Int), .int .u8 (rC : Int)], .slice a n c, .slice a2 n2 c2] w fun e w' => e = .returned (.bool true) ∧ Below w.heap.size w w' := by
  obtain ⟨WA, hWA, bA, bB, bC, gg⟩ : ∃ w0, Hid (((w.alloc (.cells #[.int .u8 (kA : Int), .int .u8 (fA : Int), .int .u16 (sA : Int), .int .u8 (rA : Int)] 24)).alloc (.cells #[.int .u8 (kB : Int), .int .u8 (fB : Int), .int .u16 (sB : Int), .int .u8 (rB : Int)] 24)).alloc (.cells #[.int .u8 (kC : Int), .int .u8 (fC : Int), .int .u16 (sC : Int), .int .u8 (rC : Int)] 24) = w0) ∧ w0.heap[w.heap.size]? = some (.cells #[.int .u8 (kA : Int), .int .u8 (fA : Int), .int .u16 (sA : Int), .int .u8 (rA : Int)] 24 (0, 0)) ∧ w0.heap[w.heap.size + 1]? = some (.cells #[.int .u8 (kB : Int), .int .u8 (fB : Int), .int .u16 (sB : Int), .int .u8 (rB : Int)] 24 (0, 0)) ∧ w0.heap[w.heap.size + 2]? = some (.cells #[.int .u8 (kC : Int), .int .u8 (fC : Int), .int .u16 (sC : Int), .int .u8 (rC : Int)] 24 (0, 0)) ∧ Below w.heap.size w w0 :=
    ⟨_, rfl, bx_alloc _ (bx_alloc _ (heap_alloc_new w _)), bx_alloc _ (new2 w _ _), by have := heap_alloc_new ((w.alloc (.cells #[.int .u8 (kA : Int), .int .u8 (fA : Int), .int .u16 (sA : Int), .int .u8 (rA : Int)] 24)).alloc (.cells #[.int .u8 (kB : Int), .int .u8 (fB : Int), .int .u16 (sB : Int), .int .u8 (rB : Int)] 24)) (.cells #[.int .u8 (kC : Int), .int .u8 (fC : Int), .int .u16 (sC : Int), .int .u8 (rC : Int)] 24); rwa [heap_size_alloc, heap_size_alloc] at this, bnew (bnew (bnew0 w _) _) _⟩
  have L1 := hid (fun w => idLess_any w kA fA sA rA kB fB sB rB hi.1 hi.2.1 hi.2.2.1 hi.2.2.2 hi2.1 hi2.2.1 hi2.2.2.1 hi2.2.2.2)
  have L2 := hid (fun w => idLess_any w kB fB sB rB kC fC sC rC hi2.1 hi2.2.1 hi2.2.2.1 hi2.2.2.2 hi3.1 hi3.2.1 hi3.2.2.1 hi3.2.2.2)
  have L3 := hid (fun w => idLess_any w kA fA sA rA kC fC sC rC hi.1 hi.2.1 hi.2.2.1 hi.2.2.2 hi3.1 hi3.2.1 hi3.2.2.1 hi3.2.2.2)
  have L4 := hid (fun w => idLess_any w kB fB sB rB kA fA sA rA hi2.1 hi2.2.1 hi2.2.2.1 hi2.2.2.2 hi.1 hi.2.1 hi.2.2.1 hi.2.2.2)
  obtain ⟨NA, hNA⟩ : ∃ N, N = min n 8 := ⟨_, rfl⟩
  have hmnA := min15_8 n NA hNA
  obtain ⟨aA, p1A, p2A, hrA⟩ := run_cutTo tY hl .i64 NA (by omega)
  obtain ⟨FA, EA, hFA, cFA⟩ := frame_one kA fA sA rA hi NA (l.take NA) hrA.len (by omega)
  have CFA := hid cFA; have HDA := hid hrA; have HFA := hid hFA
  clear cFA hrA hFA hNA
  obtain ⟨NB2, hNB⟩ : ∃ N, N = min n2 8 := ⟨_, rfl⟩
  have hmnB := min15_8 n2 NB2 hNB
  obtain ⟨aB, p1B, p2B, hrB⟩ := run_cutTo tY hl2 .i64 NB2 (by omega)
  obtain ⟨FB, EB, hFB, cFB⟩ := frame_one kB fB sB rB hi2 NB2 (l2.take NB2) hrB.len (by omega)
  have CFB := hid cFB; have HDB := hid hrB; have HFB := hid hFB
  clear cFB hrB hFB hNB
  have sA16 := hi.2.2.1; have sB16 := hi2.2.2.1
  clear hl hl2 m m2 hi hi2 hi3
  generalize l.take NA = ld at *; generalize l2.take NB2 = ld2 at *
  go_enter Tryd.func5, Tryd.ntmps5
  go_upto_region 1 with fail
  rw [hWA.out]
  clear hWA
  go_cut [11, 12] (fun s9 s10 wx => ∃ (g9 : Nat) (a9 : Option Addr) (c9 : Nat), s9 = .pointer (some ⟨g9, 0, none⟩) ∧ s10 = .int .i64 EA ∧ wx.heap[g9]? = some (.cells (frV FA a9 c9) 28 (0, 0)) ∧ Below WA.heap.size WA wx)
  case first =>
    have HS : WA.drew.heap[w.heap.size]? = some (.cells #[.int .u8 (kA : Int), .int .u8 (fA : Int), .int .u16 (sA : Int), .int .u8 (rA : Int)] 24 (0, 0)) := bA
    refine Rest.begin (S := fun w' => w'.heap[w.heap.size]? = some (.cells #[.int .u8 (kA : Int), .int .u8 (fA : Int), .int .u16 (sA : Int), .int .u8 (rA : Int)] 24 (0, 0))) (X := [6]) (by kernel_rfl) ?_
    change Rest _ _ _ _ _ _ _ _ _ WA.drew
    refine Rest.takeS (i := 0) (v := .agg #[.int .u8 (kA : Int), .int .u8 (fA : Int), .int .u16 (sA : Int), .int .u8 (rA : Int)]) rfl (by kernel_rfl) (by kernel_rfl) (by kernel_rfl) (by kernel_rfl) (fun _ _ _ h => h) HS (yields_loadR rowI (by simp [Region.wanted]) _ rfl w.heap.size (by simp [Act.eval]) _ rfl (fun w' hw => ⟨_, _, hw⟩)) ?_
    refine Rest.take (i := 1) (v := .slice a n c) rfl (by kernel_rfl) (by kernel_rfl) (by kernel_rfl) (by kernel_rfl) (fun _ _ _ h => h) (.inl HS) (Or.inl ⟨by simp [Region.wanted], ?_⟩) ?_
    · intro w; go_simp
    refine Rest.take (i := 2) (v := .slice a n c) rfl (by kernel_rfl) (by kernel_rfl) (by kernel_rfl) (by kernel_rfl) (fun _ _ _ h => h) (.inl HS) (Or.inl ⟨by simp [Region.wanted], ?_⟩) ?_
    · intro w; go_simp
    refine Rest.take (i := 3) (v := .int .i64 (n : Int)) rfl (by kernel_rfl) (by kernel_rfl) (by kernel_rfl) (by kernel_rfl) (fun _ _ _ h => h) (.inl HS) (Or.inl ⟨by simp [Region.wanted], ?_⟩) ?_
    · intro w; go_simp
    refine Rest.take (i := 4) (v := .int .i64 (NA : Int)) rfl (by kernel_rfl) (by kernel_rfl) (by kernel_rfl) (by kernel_rfl) (fun _ _ _ h => h) (.inl HS) (Or.inl ⟨by simp [Region.wanted], ?_⟩) ?_
    · intro w; go_simp
    refine Rest.take (i := 5) (v := .slice aA NA c) rfl (by kernel_rfl) (by kernel_rfl) (by kernel_rfl) (by kernel_rfl) (fun _ _ _ h => h) (.inl HS) (Or.inl ⟨by simp [Region.wanted], ?_⟩) ?_
    · intro w; go_simp
    refine Rest.two (i := 6) (j := 10) (by kernel_rfl) rfl rfl (fun K hK => ?_) (fun K hK => ?_)
    · have k0 : RowKit.Below WA.heap.size WA WA.drew := (RowKit.Below.refl _ _).drew
      refine draw_callF 11 (by kernel_rfl) (by simp [Region.wanted]) _ _ _ rfl (by simp [Act.eval]) #[.agg #[.int .u8 (kA : Int), .int .u8 (fA : Int), .int .u16 (sA : Int), .int .u8 (rA : Int)], .slice aA NA c] (by simp [Act.eval, Act.put]) _ (CFA.out _ _ _ (hw.below (bstep gg k0)) (HDA.out.below (bstep gg k0))) ?_
      rintro q w1 ⟨a9, c9, rfl, g0⟩
      refine ⟨_, rfl, ?_⟩
      replace k0 := k0.trans g0
      refine hK _ _ ⟨.inr (thru_of (by kernel_rfl)), Rest.of_any _ _ _ _ (thru_of (by kernel_rfl)) ?_⟩; clear hK K HS
      refine wpAny_take (i := 7) (v := .tuple #[.agg (frV FA a9 c9), .int .i64 EA]) rfl (by kernel_rfl) (by kernel_rfl) (by kernel_rfl) (fun _ _ _ h => h) (Or.inl ⟨by simp [Region.wanted], ?_⟩) ?_
      · intro w; go_simp
      refine wpAny_take (i := 8) (v := .agg (frV FA a9 c9)) rfl (by kernel_rfl) (by kernel_rfl) (by kernel_rfl) (fun _ _ _ h => h) (Or.inl ⟨by simp [Region.wanted], ?_⟩) ?_
      · intro w; go_simp
      refine wpAny_take (i := 9) (v := .int .i64 EA) rfl (by kernel_rfl) (by kernel_rfl) (by kernel_rfl) (fun _ _ _ h => h) (Or.inl ⟨by simp [Region.wanted], ?_⟩) ?_
      · intro w; go_simp
      refine wpAny_ready (rs := [10]) (by kernel_rfl) (by simp) ?_
      refine AllReady.cons rfl (fun K hK => ?_) AllReady.nil
      refine draw_allocF (md := .any) rfl rfl ?_
      intro w2 g9 h9 kz l9 m9
      have kk := bstep k0 kz
      replace l9 : WA.heap.size ≤ g9 := Nat.le_trans k0.size l9
      refine hK _ _ ?_; clear hK K kz
      refine wpAny_ready (rs := [11]) (by kernel_rfl) (by simp) ?_
      refine AllReady.cons rfl (fun K hK => ?_) AllReady.nil
      (with_reducible refine draw_storeR rowF ?zz5gd ?zz5x ?zz5y ?zz5o g9 (frV FA a9 c9) ?zz5hx ?zz5hy h9 ?zz5n ?zz5old (fr_ones _ _ _) ?zz5h)
      case zz5o => exact rfl
      case zz5gd => exact rfl
      case zz5hx => simp [Act.eval, Act.put]
      case zz5hy => simp [Act.eval, Act.put]
      case zz5n => rfl
      case zz5old => rfl
      case zz5h =>
      refine hK _ _ ?_; clear hK K
      refine wpAny_take (i := 12) (v := .int .i64 EA) rfl (by kernel_rfl) (by kernel_rfl) (by kernel_rfl) (fun _ _ _ h => h) (Or.inl ⟨by simp [Region.wanted], ?_⟩) ?_
      · intro w; go_simp
      refine wpAny_done (by kernel_rfl) ?_ _
      simp [Act.put]
      go_wp2
      go_meet
      exact ⟨g9, a9, c9, rfl, rfl, setRow_heap _ _ _ _ _ _ h9, below_setRow kk l9 _⟩
    · refine draw_allocF (md := .any) rfl rfl ?_
      intro w2 g9 h9 kz l9 m9
      have k0 : RowKit.Below WA.heap.size WA w2 := (RowKit.Below.refl WA.heap.size WA).drew.trans kz
      replace l9 : WA.heap.size ≤ g9 := l9
      refine hK _ _ ⟨.inl (bx_below HS kz), ?_⟩; clear hK K kz
      refine Rest.one (i := 6) (by kernel_rfl) rfl (fun K hK => ?_)
      refine draw_callF 11 (by kernel_rfl) (by simp [Region.wanted]) _ _ _ rfl (by simp [Act.eval]) #[.agg #[.int .u8 (kA : Int), .int .u8 (fA : Int), .int .u16 (sA : Int), .int .u8 (rA : Int)], .slice aA NA c] (by simp [Act.eval, Act.put]) _ (CFA.out _ _ _ (hw.below (bstep gg k0)) (HDA.out.below (bstep gg k0))) ?_
      rintro q w1 ⟨a9, c9, rfl, g0⟩
      refine ⟨_, rfl, ?_⟩
      have kk := bstep k0 g0
      replace h9 := bx_below h9 g0
      refine hK _ _ ⟨.inr (thru_of (by kernel_rfl)), Rest.of_any _ _ _ _ (thru_of (by kernel_rfl)) ?_⟩; clear hK K HS
      refine wpAny_take (i := 7) (v := .tuple #[.agg (frV FA a9 c9), .int .i64 EA]) rfl (by kernel_rfl) (by kernel_rfl) (by kernel_rfl) (fun _ _ _ h => h) (Or.inl ⟨by simp [Region.wanted], ?_⟩) ?_
      · intro w; go_simp
      refine wpAny_take (i := 8) (v := .agg (frV FA a9 c9)) rfl (by kernel_rfl) (by kernel_rfl) (by kernel_rfl) (fun _ _ _ h => h) (Or.inl ⟨by simp [Region.wanted], ?_⟩) ?_
      · intro w; go_simp
      refine wpAny_take (i := 9) (v := .int .i64 EA) rfl (by kernel_rfl) (by kernel_rfl) (by kernel_rfl) (fun _ _ _ h => h) (Or.inl ⟨by simp [Region.wanted], ?_⟩) ?_
      · intro w; go_simp
      refine wpAny_ready (rs := [11]) (by kernel_rfl) (by simp) ?_
      refine AllReady.cons rfl (fun K hK => ?_) AllReady.nil
      (with_reducible refine draw_storeR rowF ?zz6gd ?zz6x ?zz6y ?zz6o g9 (frV FA a9 c9) ?zz6hx ?zz6hy h9 ?zz6n ?zz6old (fr_ones _ _ _) ?zz6h)
      case zz6o => exact rfl
      case zz6gd => exact rfl
      case zz6hx => simp [Act.eval, Act.put]
      case zz6hy => simp [Act.eval, Act.put]
      case zz6n => rfl
      case zz6old => rfl
      case zz6h =>
      refine hK _ _ ?_; clear hK K
      refine wpAny_take (i := 12) (v := .int .i64 EA) rfl (by kernel_rfl) (by kernel_rfl) (by kernel_rfl) (fun _ _ _ h => h) (Or.inl ⟨by simp [Region.wanted], ?_⟩) ?_
      · intro w; go_simp
      refine wpAny_done (by kernel_rfl) ?_ _
      simp [Act.put]
      go_wp2
      go_meet
      exact ⟨g9, a9, c9, rfl, rfl, setRow_heap _ _ _ _ _ _ h9, below_setRow kk l9 _⟩
  case rest =>
  obtain ⟨gA, a8, c8, rfl, rfl, hA, g1⟩ := hcut
  replace bA := bx_below bA g1; replace bB := bx_below bB g1; replace bC := bx_below bC g1; replace gg := bstep gg g1; clear g1 CFA HDA p1A p2A hmnA WA
  go_upto_region 2 with fail
  obtain ⟨WA, hWA⟩ : ∃ W, W = wc := ⟨_, rfl⟩
  rw [← hWA] at bA bB bC gg hA ⊢
  clear hWA
  go_cut [13, 14] (fun s9 s10 wx => ∃ (g9 : Nat) (a9 : Option Addr) (c9 : Nat), s9 = .pointer (some ⟨g9, 0, none⟩) ∧ s10 = .int .i64 EB ∧ wx.heap[g9]? = some (.cells (frV FB a9 c9) 28 (0, 0)) ∧ Below WA.heap.size WA wx)
  case first =>
    have HS : WA.drew.heap[(w.heap.size + 1)]? = some (.cells #[.int .u8 (kB : Int), .int .u8 (fB : Int), .int .u16 (sB : Int), .int .u8 (rB : Int)] 24 (0, 0)) := bB
    refine Rest.begin (S := fun w' => w'.heap[(w.heap.size + 1)]? = some (.cells #[.int .u8 (kB : Int), .int .u8 (fB : Int), .int .u16 (sB : Int), .int .u8 (rB : Int)] 24 (0, 0))) (X := [6]) (by kernel_rfl) ?_
    change Rest _ _ _ _ _ _ _ _ _ WA.drew
    refine Rest.takeS (i := 0) (v := .agg #[.int .u8 (kB : Int), .int .u8 (fB : Int), .int .u16 (sB : Int), .int .u8 (rB : Int)]) rfl (by kernel_rfl) (by kernel_rfl) (by kernel_rfl) (by kernel_rfl) (fun _ _ _ h => h) HS (yields_loadR rowI (by simp [Region.wanted]) _ rfl (w.heap.size + 1) (by simp [Act.eval]) _ rfl (fun w' hw => ⟨_, _, hw⟩)) ?_
    refine Rest.take (i := 1) (v := .slice a2 n2 c2) rfl (by kernel_rfl) (by kernel_rfl) (by kernel_rfl) (by kernel_rfl) (fun _ _ _ h => h) (.inl HS) (Or.inl ⟨by simp [Region.wanted], ?_⟩) ?_
    · intro w; go_simp
    refine Rest.take (i := 2) (v := .slice a2 n2 c2) rfl (by kernel_rfl) (by kernel_rfl) (by kernel_rfl) (by kernel_rfl) (fun _ _ _ h => h) (.inl HS) (Or.inl ⟨by simp [Region.wanted], ?_⟩) ?_
    · intro w; go_simp
    refine Rest.take (i := 3) (v := .int .i64 (n2 : Int)) rfl (by kernel_rfl) (by kernel_rfl) (by kernel_rfl) (by kernel_rfl) (fun _ _ _ h => h) (.inl HS) (Or.inl ⟨by simp [Region.wanted], ?_⟩) ?_
    · intro w; go_simp
    refine Rest.take (i := 4) (v := .int .i64 (NB2 : Int)) rfl (by kernel_rfl) (by kernel_rfl) (by kernel_rfl) (by kernel_rfl) (fun _ _ _ h => h) (.inl HS) (Or.inl ⟨by simp [Region.wanted], ?_⟩) ?_
    · intro w; go_simp
    refine Rest.take (i := 5) (v := .slice aB NB2 c2) rfl (by kernel_rfl) (by kernel_rfl) (by kernel_rfl) (by kernel_rfl) (fun _ _ _ h => h) (.inl HS) (Or.inl ⟨by simp [Region.wanted], ?_⟩) ?_
    · intro w; go_simp
    refine Rest.two (i := 6) (j := 10) (by kernel_rfl) rfl rfl (fun K hK => ?_) (fun K hK => ?_)
    · have k0 : RowKit.Below WA.heap.size WA WA.drew := (RowKit.Below.refl _ _).drew
      refine draw_callF 11 (by kernel_rfl) (by simp [Region.wanted]) _ _ _ rfl (by simp [Act.eval]) #[.agg #[.int .u8 (kB : Int), .int .u8 (fB : Int), .int .u16 (sB : Int), .int .u8 (rB : Int)], .slice aB NB2 c2] (by simp [Act.eval, Act.put]) _ (CFB.out _ _ _ (hw.below (bstep gg k0)) (HDB.out.below (bstep gg k0))) ?_
      rintro q w1 ⟨a9, c9, rfl, g0⟩
      refine ⟨_, rfl, ?_⟩
      replace k0 := k0.trans g0
      refine hK _ _ ⟨.inr (thru_of (by kernel_rfl)), Rest.of_any _ _ _ _ (thru_of (by kernel_rfl)) ?_⟩; clear hK K HS
      refine wpAny_take (i := 7) (v := .tuple #[.agg (frV FB a9 c9), .int .i64 EB]) rfl (by kernel_rfl) (by kernel_rfl) (by kernel_rfl) (fun _ _ _ h => h) (Or.inl ⟨by simp [Region.wanted], ?_⟩) ?_
      · intro w; go_simp
      refine wpAny_take (i := 8) (v := .agg (frV FB a9 c9)) rfl (by kernel_rfl) (by kernel_rfl) (by kernel_rfl) (fun _ _ _ h => h) (Or.inl ⟨by simp [Region.wanted], ?_⟩) ?_
      · intro w; go_simp
      refine wpAny_take (i := 9) (v := .int .i64 EB) rfl (by kernel_rfl) (by kernel_rfl) (by kernel_rfl) (fun _ _ _ h => h) (Or.inl ⟨by simp [Region.wanted], ?_⟩) ?_
      · intro w; go_simp
      refine wpAny_ready (rs := [10]) (by kernel_rfl) (by simp) ?_
      refine AllReady.cons rfl (fun K hK => ?_) AllReady.nil
      refine draw_allocF (md := .any) rfl rfl ?_
      intro w2 g9 h9 kz l9 m9
      have kk := bstep k0 kz
      replace l9 : WA.heap.size ≤ g9 := Nat.le_trans k0.size l9
      refine hK _ _ ?_; clear hK K kz
      refine wpAny_ready (rs := [11]) (by kernel_rfl) (by simp) ?_
      refine AllReady.cons rfl (fun K hK => ?_) AllReady.nil
      (with_reducible refine draw_storeR rowF ?zz7gd ?zz7x ?zz7y ?zz7o g9 (frV FB a9 c9) ?zz7hx ?zz7hy h9 ?zz7n ?zz7old (fr_ones _ _ _) ?zz7h)
      case zz7o => exact rfl
      case zz7gd => exact rfl
      case zz7hx => simp [Act.eval, Act.put]
      case zz7hy => simp [Act.eval, Act.put]
      case zz7n => rfl
      case zz7old => rfl
      case zz7h =>
      refine hK _ _ ?_; clear hK K
      refine wpAny_take (i := 12) (v := .int .i64 EB) rfl (by kernel_rfl) (by kernel_rfl) (by kernel_rfl) (fun _ _ _ h => h) (Or.inl ⟨by simp [Region.wanted], ?_⟩) ?_
      · intro w; go_simp
      refine wpAny_done (by kernel_rfl) ?_ _
      simp [Act.put]
      go_wp2
      go_meet
      exact ⟨g9, a9, c9, rfl, rfl, setRow_heap _ _ _ _ _ _ h9, below_setRow kk l9 _⟩
    · refine draw_allocF (md := .any) rfl rfl ?_
      intro w2 g9 h9 kz l9 m9
      have k0 : RowKit.Below WA.heap.size WA w2 := (RowKit.Below.refl WA.heap.size WA).drew.trans kz
      replace l9 : WA.heap.size ≤ g9 := l9
      refine hK _ _ ⟨.inl (bx_below HS kz), ?_⟩; clear hK K kz
      refine Rest.one (i := 6) (by kernel_rfl) rfl (fun K hK => ?_)
      refine draw_callF 11 (by kernel_rfl) (by simp [Region.wanted]) _ _ _ rfl (by simp [Act.eval]) #[.agg #[.int .u8 (kB : Int), .int .u8 (fB : Int), .int .u16 (sB : Int), .int .u8 (rB : Int)], .slice aB NB2 c2] (by simp [Act.eval, Act.put]) _ (CFB.out _ _ _ (hw.below (bstep gg k0)) (HDB.out.below (bstep gg k0))) ?_
      rintro q w1 ⟨a9, c9, rfl, g0⟩
      refine ⟨_, rfl, ?_⟩
      have kk := bstep k0 g0
      replace h9 := bx_below h9 g0
      refine hK _ _ ⟨.inr (thru_of (by kernel_rfl)), Rest.of_any _ _ _ _ (thru_of (by kernel_rfl)) ?_⟩; clear hK K HS
      refine wpAny_take (i := 7) (v := .tuple #[.agg (frV FB a9 c9), .int .i64 EB]) rfl (by kernel_rfl) (by kernel_rfl) (by kernel_rfl) (fun _ _ _ h => h) (Or.inl ⟨by simp [Region.wanted], ?_⟩) ?_
      · intro w; go_simp
      refine wpAny_take (i := 8) (v := .agg (frV FB a9 c9)) rfl (by kernel_rfl) (by kernel_rfl) (by kernel_rfl) (fun _ _ _ h => h) (Or.inl ⟨by simp [Region.wanted], ?_⟩) ?_
      · intro w; go_simp
      refine wpAny_take (i := 9) (v := .int .i64 EB) rfl (by kernel_rfl) (by kernel_rfl) (by kernel_rfl) (fun _ _ _ h => h) (Or.inl ⟨by simp [Region.wanted], ?_⟩) ?_
      · intro w; go_simp
      refine wpAny_ready (rs := [11]) (by kernel_rfl) (by simp) ?_
      refine AllReady.cons rfl (fun K hK => ?_) AllReady.nil
      (with_reducible refine draw_storeR rowF ?zz8gd ?zz8x ?zz8y ?zz8o g9 (frV FB a9 c9) ?zz8hx ?zz8hy h9 ?zz8n ?zz8old (fr_ones _ _ _) ?zz8h)
      case zz8o => exact rfl
      case zz8gd => exact rfl
      case zz8hx => simp [Act.eval, Act.put]
      case zz8hy => simp [Act.eval, Act.put]
      case zz8n => rfl
      case zz8old => rfl
      case zz8h =>
      refine hK _ _ ?_; clear hK K
      refine wpAny_take (i := 12) (v := .int .i64 EB) rfl (by kernel_rfl) (by kernel_rfl) (by kernel_rfl) (fun _ _ _ h => h) (Or.inl ⟨by simp [Region.wanted], ?_⟩) ?_
      · intro w; go_simp
      refine wpAny_done (by kernel_rfl) ?_ _
      simp [Act.put]
      go_wp2
      go_meet
      exact ⟨g9, a9, c9, rfl, rfl, setRow_heap _ _ _ _ _ _ h9, below_setRow kk l9 _⟩
  case rest =>
  obtain ⟨gB, b8, d8, rfl, rfl, hB, g1⟩ := hcut
  replace bA := bx_below bA g1; replace bB := bx_below bB g1; replace bC := bx_below bC g1; replace hA := bx_below hA g1; replace gg := bstep gg g1; clear g1 CFB HDB p1B p2B hmnB WA
  go_upto_region 3 with fail
  obtain ⟨WA, hWA⟩ : ∃ W, W = wc := ⟨_, rfl⟩
  rw [← hWA] at bA bB bC gg hA hB ⊢
  clear hWA
  go_cut [76] (fun s9 wx => s9 = .bool false ∧ Below WA.heap.size WA wx)
  case first =>
    have kk : RowKit.Below WA.heap.size WA WA := RowKit.Below.refl _ _
    clear hA hB gg HFA HFB hw
    cases h1 : lsI ⟨kA, fA, sA, rA⟩ ⟨kB, fB, sB, rB⟩
    · cases h4 : lsI ⟨kB, fB, sB, rB⟩ ⟨kA, fA, sA, rA⟩
      · have he := ls_tot h1 h4
        injection he with e1 e2 e3 e4
        subst e1 e2 e3 e4
        rw [h1] at L1; rw [h1] at L4
        clear h1 h4 L2 L3
        go_wp2_with (first | (with_reducible refine wpList_loadR rowI rfl _ rfl _ rfl bA rfl ?_) | (with_reducible refine wpList_loadR rowI rfl _ rfl _ rfl bB rfl ?_) | (with_reducible refine wpList_loadR rowI rfl _ rfl _ rfl bC rfl ?_) | ((with_reducible refine wpList_loadW rowI ?_ _ rfl _ rfl bA rfl ?_); focus (simp [Region.wanted, yielded, Act.put]; done)) | ((with_reducible refine wpList_loadW rowI ?_ _ rfl _ rfl bB rfl ?_); focus (simp [Region.wanted, yielded, Act.put]; done)) | ((with_reducible refine wpList_loadW rowI ?_ _ rfl _ rfl bC rfl ?_); focus (simp [Region.wanted, yielded, Act.put]; done)) | (go_at_call 18; (with_reducible refine (L1.out _).mono ?_); rintro q wz ⟨rfl, gz⟩; replace bA := bx_below bA gz; replace bB := bx_below bB gz; replace bC := bx_below bC gz; replace kk := bstep kk gz; clear gz))
        go_meet
        exact ⟨rfl, kk⟩
      · rw [h1] at L1; rw [h4] at L4
        clear h1 h4 L2 L3
        go_wp2_with (first | (with_reducible refine wpList_loadR rowI rfl _ rfl _ rfl bA rfl ?_) | (with_reducible refine wpList_loadR rowI rfl _ rfl _ rfl bB rfl ?_) | (with_reducible refine wpList_loadR rowI rfl _ rfl _ rfl bC rfl ?_) | ((with_reducible refine wpList_loadW rowI ?_ _ rfl _ rfl bA rfl ?_); focus (simp [Region.wanted, yielded, Act.put]; done)) | ((with_reducible refine wpList_loadW rowI ?_ _ rfl _ rfl bB rfl ?_); focus (simp [Region.wanted, yielded, Act.put]; done)) | ((with_reducible refine wpList_loadW rowI ?_ _ rfl _ rfl bC rfl ?_); focus (simp [Region.wanted, yielded, Act.put]; done)) | (go_at_call 18; (with_reducible refine (L1.out _).mono ?_); rintro q wz ⟨rfl, gz⟩; replace bA := bx_below bA gz; replace bB := bx_below bB gz; replace bC := bx_below bC gz; replace kk := bstep kk gz; clear gz) | (go_at_call 18; (with_reducible refine (L4.out _).mono ?_); rintro q wz ⟨rfl, gz⟩; replace bA := bx_below bA gz; replace bB := bx_below bB gz; replace bC := bx_below bC gz; replace kk := bstep kk gz; clear gz))
        go_meet
        exact ⟨rfl, kk⟩
    · have h4 := ls_asym h1
      cases h2 : lsI ⟨kB, fB, sB, rB⟩ ⟨kC, fC, sC, rC⟩
      · rw [h1] at L1; rw [h4] at L4; rw [h2] at L2
        clear h1 h4 h2 L3
        go_wp2_with (first | (with_reducible refine wpList_loadR rowI rfl _ rfl _ rfl bA rfl ?_) | (with_reducible refine wpList_loadR rowI rfl _ rfl _ rfl bB rfl ?_) | (with_reducible refine wpList_loadR rowI rfl _ rfl _ rfl bC rfl ?_) | ((with_reducible refine wpList_loadW rowI ?_ _ rfl _ rfl bA rfl ?_); focus (simp [Region.wanted, yielded, Act.put]; done)) | ((with_reducible refine wpList_loadW rowI ?_ _ rfl _ rfl bB rfl ?_); focus (simp [Region.wanted, yielded, Act.put]; done)) | ((with_reducible refine wpList_loadW rowI ?_ _ rfl _ rfl bC rfl ?_); focus (simp [Region.wanted, yielded, Act.put]; done)) | (go_at_call 18; (with_reducible refine (L1.out _).mono ?_); rintro q wz ⟨rfl, gz⟩; replace bA := bx_below bA gz; replace bB := bx_below bB gz; replace bC := bx_below bC gz; replace kk := bstep kk gz; clear gz) | (go_at_call 18; (with_reducible refine (L2.out _).mono ?_); rintro q wz ⟨rfl, gz⟩; replace bA := bx_below bA gz; replace bB := bx_below bB gz; replace bC := bx_below bC gz; replace kk := bstep kk gz; clear gz) | (go_at_call 18; (with_reducible refine (L4.out _).mono ?_); rintro q wz ⟨rfl, gz⟩; replace bA := bx_below bA gz; replace bB := bx_below bB gz; replace bC := bx_below bC gz; replace kk := bstep kk gz; clear gz))
        go_meet
        exact ⟨rfl, kk⟩
      · have h3 := ls_trans h1 h2
        rw [h1] at L1; rw [h4] at L4; rw [h2] at L2; rw [h3] at L3
        clear h1 h4 h2 h3
        go_wp2_with (first | (with_reducible refine wpList_loadR rowI rfl _ rfl _ rfl bA rfl ?_) | (with_reducible refine wpList_loadR rowI rfl _ rfl _ rfl bB rfl ?_) | (with_reducible refine wpList_loadR rowI rfl _ rfl _ rfl bC rfl ?_) | ((with_reducible refine wpList_loadW rowI ?_ _ rfl _ rfl bA rfl ?_); focus (simp [Region.wanted, yielded, Act.put]; done)) | ((with_reducible refine wpList_loadW rowI ?_ _ rfl _ rfl bB rfl ?_); focus (simp [Region.wanted, yielded, Act.put]; done)) | ((with_reducible refine wpList_loadW rowI ?_ _ rfl _ rfl bC rfl ?_); focus (simp [Region.wanted, yielded, Act.put]; done)) | (go_at_call 18; (with_reducible refine (L1.out _).mono ?_); rintro q wz ⟨rfl, gz⟩; replace bA := bx_below bA gz; replace bB := bx_below bB gz; replace bC := bx_below bC gz; replace kk := bstep kk gz; clear gz) | (go_at_call 18; (with_reducible refine (L2.out _).mono ?_); rintro q wz ⟨rfl, gz⟩; replace bA := bx_below bA gz; replace bB := bx_below bB gz; replace bC := bx_below bC gz; replace kk := bstep kk gz; clear gz) | (go_at_call 18; (with_reducible refine (L3.out _).mono ?_); rintro q wz ⟨rfl, gz⟩; replace bA := bx_below bA gz; replace bB := bx_below bB gz; replace bC := bx_below bC gz; replace kk := bstep kk gz; clear gz) | (go_at_call 18; (with_reducible refine (L4.out _).mono ?_); rintro q wz ⟨rfl, gz⟩; replace bA := bx_below bA gz; replace bB := bx_below bB gz; replace bC := bx_below bC gz; replace kk := bstep kk gz; clear gz))
        go_meet
        exact ⟨rfl, kk⟩
  case rest =>
  obtain ⟨rfl, g1⟩ := hcut
  replace bA := bx_below bA g1; replace bB := bx_below bB g1; replace hA := bx_below hA g1; replace hB := bx_below hB g1; replace gg := bstep gg g1; clear g1 bC L2 L3 L4 WA
  rcases HFA.out with ⟨hRA, rfl, hA1, hA2, hA3, hA4, hA5⟩ | ⟨_, rfl⟩
  · rcases HFB.out with ⟨hRB, rfl, hB1, hB2, hB3, hB4, hB5⟩ | ⟨_, rfl⟩
    · have fA' : FrI FA ⟨kA, fA, sA, rA⟩ := ⟨hRA, sA16, hA1, hA2, hA3, hA4, hA5⟩
      have fB' : FrI FB ⟨kB, fB, sB, rB⟩ := ⟨hRB, sB16, hB1, hB2, hB3, hB4, hB5⟩
      have hinj : FA.id = FB.id → (⟨kA, fA, sA, rA⟩ : Idt) = ⟨kB, fB, sB, rB⟩ := fun e => mk_inj hRA hRB sA16 sB16 (by rw [← hA1, ← hB1]; exact e)
      have hsam : (⟨kA, fA, sA, rA⟩ : Idt) = ⟨kB, fB, sB, rB⟩ → FA.id = FB.id := fun e => by rw [hA1, hB1, e]
      clear HFA HFB hRA hA1 hA2 hA3 hA4 hA5 hRB hB1 hB2 hB3 hB4 hB5 sA16 sB16
      have C1 := hid (fun w => fA'.before fB' w a8 b8 c8 d8)
      have C3 := hid (fun w => fA'.key w a8 c8)
      have C4 := hid (fun w => fB'.key w b8 d8)
      have D1 := fA'.keys fB'
      have D2 : decide (FA.id < FB.id) = lsI ⟨kA, fA, sA, rA⟩ ⟨kB, fB, sB, rB⟩ := by rw [← fA'.ids fB']; exact decide_eq_decide.2 (by omega)
      obtain ⟨KA, hKA⟩ : ∃ K : Int, (keyF FA.id FA.ext FA.rem : Int) = K := ⟨_, rfl⟩
      obtain ⟨KB, hKB⟩ : ∃ K : Int, (keyF FB.id FB.ext FB.rem : Int) = K := ⟨_, rfl⟩
      rw [hKA, hKB] at D1
      rw [hKA] at C3; rw [hKB] at C4
      clear hKA hKB fA' fB'
      generalize lsI ⟨kA, fA, sA, rA⟩ ⟨kB, fB, sB, rB⟩ = v at *
      have hvv : (v == v) = true := by simp
      have HD1 := hid D1; have HD2 := hid D2; clear D1 D2
      go_upto_region 8 with (first | (with_reducible refine wpList_loadR rowI rfl _ rfl _ rfl bA rfl ?_) | (with_reducible refine wpList_loadR rowI rfl _ rfl _ rfl bB rfl ?_) | (go_at_call 18; (with_reducible refine (L1.out _).mono ?_); rintro q wz ⟨rfl, gz⟩; replace bA := bx_below bA gz; replace bB := bx_below bB gz; replace hA := bx_below hA gz; replace hB := bx_below hB gz; replace gg := bstep gg gz; clear gz))
      have D1 := HD1.out; have D2 := HD2.out
      by_cases hq : kA ≠ kB
      · have hne : ¬ FA.id = FB.id := fun e => by have := hinj e; injection this; omega
        have hID : (FA.id == FB.id) = false := by simpa using hne
        have hIDi : ((FA.id : Int) == (FB.id : Int)) = false := by simp; omega
        have hq1 : ((kA : Int) == (kB : Int)) = false := by simp; omega
        clear hne hinj hsam hq
        have kb1 := fun d os => Calls.regrown_of (C1.out (grow (redrawn wz d) os))
        have kb3 := fun d os => Calls.regrown_of (C3.out (grow (redrawn wz d) os))
        have kb4 := fun d os => Calls.regrown_of (C4.out (grow (redrawn wz d) os))
        have kA' := fun d os => Calls.regrown_of (awake15_any (grow (redrawn wz d) os) (hw.below (bstep gg (below_regrown _ _ _))))
        obtain ⟨y0, y1, y2, y3, y4⟩ := cell5r hA; obtain ⟨z0, z1, z2, z3, z4⟩ := cell5r hB
        obtain ⟨u0, u1, u2, u3⟩ := cell4r bA; obtain ⟨v0, v1, v2, v3⟩ := cell4r bB
        clear C1 C3 C4 hA hB bA bB hw L1 HD1 HD2
        refine wp_region_quiet_below (by kernel_rfl) (by kernel_rfl) ?_
        repeat (go_big_quiet_step (first | (go_at_call 23; with_reducible exact kb1 _ _) | (go_at_call 22; with_reducible exact kb3 _ _) | (go_at_call 22; with_reducible exact kb4 _ _) | (go_at_call 20; with_reducible exact kA' _ _)))
        refine wpQuiet_nil ?_
        intro w9 hw9
        have g9 : RowKit.Below wz.heap.size wz w9 := by obtain ⟨p9, rfl⟩ := hw9; exact below_regrown _ _ _
        clear hw9 kb1 kb3 kb4 kA' y0 y1 y2 y3 y4 z0 z1 z2 z3 z4 u0 u1 u2 u3 v0 v1 v2 v3
        go_wp2
        go_ret
        exact ⟨rfl, bstep gg g9⟩
      · have e0 : kA = kB := Decidable.not_not.1 hq
        clear hq
        subst e0
        by_cases hq : fA ≠ fB
        · have hne : ¬ FA.id = FB.id := fun e => by have := hinj e; injection this; omega
          have hID : (FA.id == FB.id) = false := by simpa using hne
          have hIDi : ((FA.id : Int) == (FB.id : Int)) = false := by simp; omega
          have hq1 : ((fA : Int) == (fB : Int)) = false := by simp; omega
          clear hne hinj hsam hq
          have kb1 := fun d os => Calls.regrown_of (C1.out (grow (redrawn wz d) os))
          have kb3 := fun d os => Calls.regrown_of (C3.out (grow (redrawn wz d) os))
          have kb4 := fun d os => Calls.regrown_of (C4.out (grow (redrawn wz d) os))
          have kA' := fun d os => Calls.regrown_of (awake15_any (grow (redrawn wz d) os) (hw.below (bstep gg (below_regrown _ _ _))))
          obtain ⟨y0, y1, y2, y3, y4⟩ := cell5r hA; obtain ⟨z0, z1, z2, z3, z4⟩ := cell5r hB
          obtain ⟨u0, u1, u2, u3⟩ := cell4r bA; obtain ⟨v0, v1, v2, v3⟩ := cell4r bB
          clear C1 C3 C4 hA hB bA bB hw L1 HD1 HD2
          refine wp_region_quiet_below (by kernel_rfl) (by kernel_rfl) ?_
          repeat (go_big_quiet_step (first | (go_at_call 23; with_reducible exact kb1 _ _) | (go_at_call 22; with_reducible exact kb3 _ _) | (go_at_call 22; with_reducible exact kb4 _ _) | (go_at_call 20; with_reducible exact kA' _ _)))
          refine wpQuiet_nil ?_
          intro w9 hw9
          have g9 : RowKit.Below wz.heap.size wz w9 := by obtain ⟨p9, rfl⟩ := hw9; exact below_regrown _ _ _
          clear hw9 kb1 kb3 kb4 kA' y0 y1 y2 y3 y4 z0 z1 z2 z3 z4 u0 u1 u2 u3 v0 v1 v2 v3
          go_wp2
          go_ret
          exact ⟨rfl, bstep gg g9⟩
        · have e1 : fA = fB := Decidable.not_not.1 hq
          clear hq
          subst e1
          by_cases hq : sA ≠ sB
          · have hne : ¬ FA.id = FB.id := fun e => by have := hinj e; injection this; omega
            have hID : (FA.id == FB.id) = false := by simpa using hne
            have hIDi : ((FA.id : Int) == (FB.id : Int)) = false := by simp; omega
            have hq1 : ((sA : Int) == (sB : Int)) = false := by simp; omega
            clear hne hinj hsam hq
            have kb1 := fun d os => Calls.regrown_of (C1.out (grow (redrawn wz d) os))
            have kb3 := fun d os => Calls.regrown_of (C3.out (grow (redrawn wz d) os))
            have kb4 := fun d os => Calls.regrown_of (C4.out (grow (redrawn wz d) os))
            have kA' := fun d os => Calls.regrown_of (awake15_any (grow (redrawn wz d) os) (hw.below (bstep gg (below_regrown _ _ _))))
            obtain ⟨y0, y1, y2, y3, y4⟩ := cell5r hA; obtain ⟨z0, z1, z2, z3, z4⟩ := cell5r hB
            obtain ⟨u0, u1, u2, u3⟩ := cell4r bA; obtain ⟨v0, v1, v2, v3⟩ := cell4r bB
            clear C1 C3 C4 hA hB bA bB hw L1 HD1 HD2
            refine wp_region_quiet_below (by kernel_rfl) (by kernel_rfl) ?_
            repeat (go_big_quiet_step (first | (go_at_call 23; with_reducible exact kb1 _ _) | (go_at_call 22; with_reducible exact kb3 _ _) | (go_at_call 22; with_reducible exact kb4 _ _) | (go_at_call 20; with_reducible exact kA' _ _)))
            refine wpQuiet_nil ?_
            intro w9 hw9
            have g9 : RowKit.Below wz.heap.size wz w9 := by obtain ⟨p9, rfl⟩ := hw9; exact below_regrown _ _ _
            clear hw9 kb1 kb3 kb4 kA' y0 y1 y2 y3 y4 z0 z1 z2 z3 z4 u0 u1 u2 u3 v0 v1 v2 v3
            go_wp2
            go_ret
            exact ⟨rfl, bstep gg g9⟩
          · have e2 : sA = sB := Decidable.not_not.1 hq
            clear hq
            subst e2
            by_cases hq : rA ≠ rB
            · have hne : ¬ FA.id = FB.id := fun e => by have := hinj e; injection this; omega
              have hID : (FA.id == FB.id) = false := by simpa using hne
              have hIDi : ((FA.id : Int) == (FB.id : Int)) = false := by simp; omega
              have hq1 : ((rA : Int) == (rB : Int)) = false := by simp; omega
              clear hne hinj hsam hq
              have kb1 := fun d os => Calls.regrown_of (C1.out (grow (redrawn wz d) os))
              have kb3 := fun d os => Calls.regrown_of (C3.out (grow (redrawn wz d) os))
              have kb4 := fun d os => Calls.regrown_of (C4.out (grow (redrawn wz d) os))
              have kA' := fun d os => Calls.regrown_of (awake15_any (grow (redrawn wz d) os) (hw.below (bstep gg (below_regrown _ _ _))))
              obtain ⟨y0, y1, y2, y3, y4⟩ := cell5r hA; obtain ⟨z0, z1, z2, z3, z4⟩ := cell5r hB
              obtain ⟨u0, u1, u2, u3⟩ := cell4r bA; obtain ⟨v0, v1, v2, v3⟩ := cell4r bB
              clear C1 C3 C4 hA hB bA bB hw L1 HD1 HD2
              refine wp_region_quiet_below (by kernel_rfl) (by kernel_rfl) ?_
              repeat (go_big_quiet_step (first | (go_at_call 23; with_reducible exact kb1 _ _) | (go_at_call 22; with_reducible exact kb3 _ _) | (go_at_call 22; with_reducible exact kb4 _ _) | (go_at_call 20; with_reducible exact kA' _ _)))
              refine wpQuiet_nil ?_
              intro w9 hw9
              have g9 : RowKit.Below wz.heap.size wz w9 := by obtain ⟨p9, rfl⟩ := hw9; exact below_regrown _ _ _
              clear hw9 kb1 kb3 kb4 kA' y0 y1 y2 y3 y4 z0 z1 z2 z3 z4 u0 u1 u2 u3 v0 v1 v2 v3
              go_wp2
              go_ret
              exact ⟨rfl, bstep gg g9⟩
            · have e3 : rA = rB := Decidable.not_not.1 hq
              clear hq
              subst e3
              have hid2 := hsam rfl
              have hID : (FA.id == FB.id) = true := by rw [hid2]; simp
              have hIDi : ((FA.id : Int) == (FB.id : Int)) = true := by rw [hid2]; simp
              clear hsam hinj hid2
              have kb1 := fun d os => Calls.regrown_of (C1.out (grow (redrawn wz d) os))
              have kb3 := fun d os => Calls.regrown_of (C3.out (grow (redrawn wz d) os))
              have kb4 := fun d os => Calls.regrown_of (C4.out (grow (redrawn wz d) os))
              have kA' := fun d os => Calls.regrown_of (awake15_any (grow (redrawn wz d) os) (hw.below (bstep gg (below_regrown _ _ _))))
              obtain ⟨y0, y1, y2, y3, y4⟩ := cell5r hA; obtain ⟨z0, z1, z2, z3, z4⟩ := cell5r hB
              obtain ⟨u0, u1, u2, u3⟩ := cell4r bA; obtain ⟨v0, v1, v2, v3⟩ := cell4r bB
              clear C1 C3 C4 hA hB bA bB hw L1 HD1 HD2
              refine wp_region_quiet_below (by kernel_rfl) (by kernel_rfl) ?_
              repeat (go_big_quiet_step (first | (go_at_call 23; with_reducible exact kb1 _ _) | (go_at_call 22; with_reducible exact kb3 _ _) | (go_at_call 22; with_reducible exact kb4 _ _) | (go_at_call 20; with_reducible exact kA' _ _)))
              refine wpQuiet_nil ?_
              intro w9 hw9
              have g9 : RowKit.Below wz.heap.size wz w9 := by obtain ⟨p9, rfl⟩ := hw9; exact below_regrown _ _ _
              clear hw9 kb1 kb3 kb4 kA' y0 y1 y2 y3 y4 z0 z1 z2 z3 z4 u0 u1 u2 u3 v0 v1 v2 v3
              go_wp2
              go_ret
              exact ⟨rfl, bstep gg g9⟩
    · clear HFA HFB
      go_wp2_with (go_at_call 20; (with_reducible refine (awake15_any _ (hw.below gg)).mono ?_); rintro q w5 ⟨rfl, g5⟩)
      go_ret
      exact ⟨rfl, bstep gg g5⟩
  · clear HFA HFB
    go_wp2_with (go_at_call 20; (with_reducible refine (awake15_any _ (hw.below gg)).mono ?_); rintro q w5 ⟨rfl, g5⟩)
    go_ret
    exact ⟨rfl, bstep gg g5⟩
end Go.Proofs.YtdkgdjdhmonccaaDoor
