/-
  Contracts of the document's own answers on mails: a frame is put.
-/
import Derived.Test.YtffbkcjkmhjfnaaB10w
import Derived.Test.YtffbkcjkmhjfnaaRt
namespace Go.Proofs.Ytffbkcjkmhjfnaa
open Go.RowKit Go.Sort
set_option linter.unusedVariables false
set_option linter.unusedSimpArgs false

section
variable {B : Nat} {w w1 w3 w4 w5 w' : World} {a a' : Option Addr} {c c' room wire last r : Nat} {L L' : List Sl} {S T T' : Nat → Prop}

theorem sm_boxes3 (w : World) (cs fs : Array Value) : ∃ x r w1, Hid (((w.alloc (.cells cs 30)).alloc (.cells fs 34)).alloc (.cells smZ 30) = w1) ∧ Hid (w.heap.size + 1 = x) ∧ Hid (w.heap.size + 1 + 1 = r) ∧
    w1.heap[w.heap.size]? = some (.cells cs 30 (0, 0)) ∧ w1.heap[x]? = some (.cells fs 34 (0, 0)) ∧ w1.heap[r]? = some (.cells smZ 30 (0, 0)) ∧ Below w.heap.size w w1 ∧ w.heap.size < x ∧ x < r ∧ r < w1.heap.size :=
  ⟨_, _, _, rfl, rfl, rfl, bx_alloc _ (bx_alloc _ (heap_alloc_new w _)), bx_alloc _ (by have := heap_alloc_new (w.alloc (.cells cs 30)) (.cells fs 34); rwa [heap_size_alloc] at this), by have := heap_alloc_new ((w.alloc (.cells cs 30)).alloc (.cells fs 34)) (.cells smZ 30); rwa [heap_size_alloc, heap_size_alloc] at this,
    bnew (bnew (bnew0 w _) _) _, by show _ < _; omega, by show _ < _; omega, by rw [heap_size_alloc, heap_size_alloc, heap_size_alloc]; show _ < _; omega⟩

theorem RmR.drew {f : Value → Ending} {e : Ending} (h : RmR B w room L' wire last T f e w') : RmR B w room L' wire last T f e w'.drew := by
  obtain ⟨a1, c1, T1, he, hl, hg, ht⟩ := h
  exact ⟨a1, c1, T1, he, hl.below (Below.refl _ _).drew, hg.drew, ht⟩

set_option maxRecDepth 100000 in
set_option maxHeartbeats 4000000 in
theorem rput_wrong (w : World) (F : Fr) (fa : Option Addr) (fc : Nat) (h : LmO B w a c L T) (hi : F.id < 4294967296) (hd : F.dlc < 256) (hri : riF F.id F.ext F.rem F.dlc F.data.length = false) :
    Calls Try.prog 22 #[.agg (smV room a c L wire last), .agg (frV F fa fc)] w (RmR B w room L wire last T fun v => .returned (.tuple #[v, .int .i64 0, .int .i64 40])) := by
  obtain ⟨x, r, w1, hw1, HX, HR, b1, f1, r1, g1, hx0, hr0, hr1⟩ := sm_boxes3 w (smV room a c L wire last) (frV F fa fc)
  have hR := refRight_any w1 F.id F.ext F.rem F.dlc fa F.data.length fc hi hd
  rw [hri] at hR
  have HRi := hid hR
  clear hR hri
  go_enter Try.func22, Try.ntmps22
  go_wp2_with (first
    | (rw [hw1.out, HR.out, HX.out])
    | (with_reducible refine wpList_loadR rowF rfl _ rfl _ rfl f1 rfl ?_)
    | (go_at_call 35; (with_reducible refine Calls.mono HRi.out ?_); rintro e w2 ⟨rfl, g2⟩; have b2 := bx_below b1 g2; have r2 := bx_below r1 g2)
    | (with_reducible refine wpList_loadR rowSm rfl _ rfl _ rfl b2 rfl ?_)
    | (with_reducible refine wpList_storeR rowSm rfl _ _ rfl _ _ rfl rfl r2 rfl rfl (sm_ones _ _ _ _ _ _) ?_))
  exact bodyPost_ret (v := .tuple #[.agg (smV room a c L wire last), .int .i64 0, .int .i64 40]) (results_row12 rowSm rfl _ _ _ rfl rfl rfl (setRow_heap _ _ _ _ _ _ r2) rfl) rfl
    (rm_lay (fun v => Ending.returned (.tuple #[v, .int .i64 0, .int .i64 40])) h.tL g1 (by omega) hr1 ((h.below g1).below g2) g2 (fun k hk => .inl hk) _)

set_option maxRecDepth 100000 in
set_option maxHeartbeats 4000000 in
theorem rput_full (w : World) (F : Fr) (fa : Option Addr) (fc : Nat) (h : LmO B w a c L T) (hi : F.id < 4294967296) (hd : F.dlc < 256) (hri : riF F.id F.ext F.rem F.dlc F.data.length = true) (hl : room ≤ L.length) :
    Calls Try.prog 22 #[.agg (smV room a c L wire last), .agg (frV F fa fc)] w (RmR B w room L wire last T fun v => .returned (.tuple #[v, .int .i64 0, .int .i64 5])) := by
  obtain ⟨x, r, w1, hw1, HX, HR, b1, f1, r1, g1, hx0, hr0, hr1⟩ := sm_boxes3 w (smV room a c L wire last) (frV F fa fc)
  have hR := refRight_any w1 F.id F.ext F.rem F.dlc fa F.data.length fc hi hd
  rw [hri] at hR
  have HRi := hid hR
  have hld : decide (room ≤ L.length) = true := decide_eq_true hl
  clear hR hri
  go_enter Try.func22, Try.ntmps22
  go_wp2_with (first
    | (rw [hw1.out, HR.out, HX.out])
    | (with_reducible refine wpList_loadR rowF rfl _ rfl _ rfl f1 rfl ?_)
    | (go_at_call 35; (with_reducible refine Calls.mono HRi.out ?_); rintro e w2 ⟨rfl, g2⟩; have b2 := bx_below b1 g2; have r2 := bx_below r1 g2; obtain ⟨x0, x1, x2, x3⟩ := bx4m b2)
    | (with_reducible refine wpList_loadR rowSm rfl _ rfl _ rfl b2 rfl ?_)
    | (with_reducible refine wpList_storeR rowSm rfl _ _ rfl _ _ rfl rfl r2 rfl rfl (sm_ones _ _ _ _ _ _) ?_))
  exact bodyPost_ret (v := .tuple #[.agg (smV room a c L wire last), .int .i64 0, .int .i64 5]) (results_row12 rowSm rfl _ _ _ rfl rfl rfl (setRow_heap _ _ _ _ _ _ r2) rfl) rfl
    (rm_lay (fun v => Ending.returned (.tuple #[v, .int .i64 0, .int .i64 5])) h.tL g1 (by omega) hr1 ((h.below g1).below g2) g2 (fun k hk => .inl hk) _)

set_option maxRecDepth 100000 in
set_option maxHeartbeats 8000000 in
theorem rput_any (w : World) (F : Fr) (fa : Option Addr) (fc : Nat) (h : LmO B w a c L T) (hB : B ≤ w.heap.size) (hi : F.id < 4294967296) (hd : F.dlc < 256) (hri : riF F.id F.ext F.rem F.dlc F.data.length = true) (hl : L.length < room) (hn : L.length ≤ 1000)
    (hp : WtR w ((F, (fa, fc)), last + 1)) (hpT : ∀ q, fa = some q → T q.block) :
    Calls Try.prog 22 #[.agg (smV room a c L wire last), .agg (frV F fa fc)] w (RmR B w room (L ++ [(((F, (fa, fc)), last + 1), false)]) wire (last + 1) T fun v => .returned (.tuple #[v, .int .i64 ((last + 1 : Nat) : Int), .int .i64 0])) := by
  obtain ⟨x, r, w1, hw1, HX, HR, b1, f1, r1, g1, hx0, hr0, hr1⟩ := sm_boxes3 w (smV room a c L wire last) (frV F fa fc)
  have hR := refRight_any w1 F.id F.ext F.rem F.dlc fa F.data.length fc hi hd
  rw [hri] at hR
  have HRi := hid hR
  have hld : decide (room ≤ L.length) = false := by rw [decide_eq_false_iff_not]; omega
  have hnum := hp.num
  obtain ⟨M, hM⟩ : ∃ M, last + 1 = M := ⟨_, rfl⟩
  have hMi : (last : Int) + 1 = (M : Int) := by omega
  have hMw : IntKind.i64.wrap ((last : Int) + 1) = (M : Int) := by rw [hMi]; exact IntWalk.i64_in _ (by dsimp only at hnum; omega)
  rw [hM] at hp ⊢
  have hM62 : M < 4611686018427387904 := hp.num
  obtain ⟨p, hpd⟩ : ∃ p : Sl, p = (((F, (fa, fc)), M), false) := ⟨_, rfl⟩
  rw [← hpd]
  have HM := hid hM
  have hHL := hid hl
  clear hR hri hnum hM hl
  go_enter Try.func22, Try.ntmps22
  go_upto_region 6 with (first
    | (rw [hw1.out, HR.out, HX.out])
    | (with_reducible refine wpList_loadR rowF rfl _ rfl _ rfl f1 rfl ?_)
    | (go_at_call 35; (with_reducible refine Calls.mono HRi.out ?_); rintro e w2 ⟨rfl, g2⟩; have b2 := bx_below b1 g2; have r2 := bx_below r1 g2; have f2 := bx_below f1 g2; obtain ⟨x0, x1, x2, x3⟩ := bx4m b2; have fz := bx_thaw b2))
  -- REGION 6
  have b3 : (w2.setCell ⟨w.heap.size, 3, none⟩ (.int .i64 (M : Int))).heap[w.heap.size]? = some (.cells (smV room a c L wire M) 30 (0, 0)) := heap_setCell_same w2 w.heap.size 3 _ _ _ b2
  have f3 : (w2.setCell ⟨w.heap.size, 3, none⟩ (.int .i64 (M : Int))).heap[x]? = some (.cells (frV F fa fc) 34 (0, 0)) := (Below.heap_setCell _ _ _ _ (Nat.ne_of_gt hx0)).trans f2
  have r3 : (w2.setCell ⟨w.heap.size, 3, none⟩ (.int .i64 (M : Int))).heap[r]? = some (.cells smZ 30 (0, 0)) := (Below.heap_setCell _ _ _ _ (Nat.ne_of_gt (Nat.lt_trans hx0 hr0))).trans r2
  have g3 : Below w.heap.size w (w2.setCell ⟨w.heap.size, 3, none⟩ (.int .i64 (M : Int))) := (bstep g1 g2).setCell (Nat.le_refl _) _
  have hr3 : r < (w2.setCell ⟨w.heap.size, 3, none⟩ (.int .i64 (M : Int))).heap.size := bx_lt r3
  clear hw1 HX HR HRi b1 f1 r1 g1 hr1 g2 b2 r2 f2 x0 x1 x2 x3 fz hMi hMw
  generalize w2.setCell ⟨w.heap.size, 3, none⟩ (.int .i64 (M : Int)) = W at *
  obtain ⟨n, hnL⟩ : ∃ n, L.length = n := ⟨_, rfl⟩
  have HN := hid hnL
  have hL := h.row.below g3
  rw [hnL] at hL hn
  rw [show smV room a c L wire M = #[.int .i64 (room : Int), .slice a n c, .int .i64 (wire : Int), .int .i64 (M : Int)] by rw [← hnL]] at b3
  clear hnL hld
  have hd1 : Below W.heap.size W W.drew := (Below.refl _ _).drew
  have HS : Below W.heap.size W W.drew := hd1
  have hq0 : ∀ w', Below W.heap.size W w' → w'.cell? ⟨w.heap.size, 1, none⟩ = some (.slice a n c) := fun w' hw => (hw.cell (p := ⟨w.heap.size, 1, none⟩) (bx_lt b3)).trans (bx4m b3).2.1
  have hq3 : ∀ w', Below W.heap.size W w' → w'.cell? ⟨w.heap.size, 3, none⟩ = some (.int .i64 (M : Int)) := fun w' hw => (hw.cell (p := ⟨w.heap.size, 3, none⟩) (bx_lt b3)).trans (bx4m b3).2.2.2
  have hfinA : ∀ (w6 : World) (a6 : Option Addr) (c6 : Nat), Below W.heap.size W w6 → OK enS 7 70 W.heap.size w6 a6 (n + 1) c6 (L ++ [p]) → RmR B w room (L ++ [p]) wire M T (fun v => .returned (.tuple #[v, .int .i64 (M : Int), .int .i64 0])) (.returned (.tuple #[.agg #[.int .i64 (room : Int), .slice a6 (n + 1) c6, .int .i64 (wire : Int), .int .i64 (M : Int)], .int .i64 (M : Int), .int .i64 0])) ((w6.setCell ⟨w.heap.size, 1, none⟩ (.slice a6 (n + 1) c6)).setRow r #[.int .i64 (room : Int), .slice a6 (n + 1) c6, .int .i64 (wire : Int), .int .i64 (M : Int)]) := fun w6 a6 c6 g6 o6 => by
    have hf := sm_fin (room := room) (wire := wire) (last := M) (r := r) (fun v => .returned (.tuple #[v, .int .i64 (M : Int), .int .i64 0])) h hB g3 g6 o6 (by rw [List.length_append, HN.out]; rfl) (fun q hq => by
      rcases List.mem_append.1 hq with h1 | h1
      · exact ⟨((h.below g3).below g6).dat q h1, h.td q h1⟩
      · have : q = p := by simpa using h1
        subst this
        subst hpd
        exact ⟨(hp.below g3).below g6, hpT⟩) (Nat.lt_trans hx0 hr0) hr3 #[.int .i64 (room : Int), .slice a6 (n + 1) c6, .int .i64 (wire : Int), .int .i64 (M : Int)]
    rw [show smV room a6 c6 (L ++ [p]) wire M = #[.int .i64 (room : Int), .slice a6 (n + 1) c6, .int .i64 (wire : Int), .int .i64 (M : Int)] by show (#[_, Value.slice _ (L ++ [p]).length _, _, _] : Array Value) = _; rw [List.length_append, HN.out]; rfl] at hf
    exact hf
  have HFA := hid hfinA
  have hpv : slV p = #[.int .i64 (M : Int), .int .u32 (F.id : Int), .bool F.ext, .bool F.rem, .int .u8 (F.dlc : Int), .slice fa F.data.length fc, .bool false] := by rw [hpd]
  clear hfinA hp hpT h hB g3 hpd
  have HPV := hid hpv
  clear hpv
  refine Rest.begin (S := fun w' => Below W.heap.size W w') (X := [3, 7, 8, 9]) (by kernel_rfl) ?_
  change Rest _ _ _ _ _ _ _ _ _ W.drew
  refine Rest.take (i := 1) (v := .pointer (some ⟨w.heap.size, 1, none⟩)) rfl (by kernel_rfl) (by kernel_rfl) (by kernel_rfl) (by kernel_rfl) (fun _ _ _ h => h) (.inl HS) (Or.inl ⟨by simp [Region.wanted], ?_⟩) ?_
  · intro w; go_simp
  refine Rest.take (i := 4) (v := .pointer (some ⟨w.heap.size, 3, none⟩)) rfl (by kernel_rfl) (by kernel_rfl) (by kernel_rfl) (by kernel_rfl) (fun _ _ _ h => h) (.inl HS) (Or.inl ⟨by simp [Region.wanted], ?_⟩) ?_
  · intro w; go_simp
  refine Rest.takeS (i := 2) (v := .slice a n c) rfl (by kernel_rfl) (by kernel_rfl) (by kernel_rfl) (by kernel_rfl) (fun _ _ _ h => h) HS (.inl ⟨by simp [Region.wanted], ?_⟩) ?_
  · intro w hw; have q0 := hq0 w hw; go_simp
  refine Rest.takeS (i := 5) (v := .int .i64 (M : Int)) rfl (by kernel_rfl) (by kernel_rfl) (by kernel_rfl) (by kernel_rfl) (fun _ _ _ h => h) HS (.inl ⟨by simp [Region.wanted], ?_⟩) ?_
  · intro w hw; have q0 := hq3 w hw; go_simp
  refine Rest.takeS (i := 6) (v := .agg (frV F fa fc)) rfl (by kernel_rfl) (by kernel_rfl) (by kernel_rfl) (by kernel_rfl) (fun _ _ _ h => h) HS (yields_loadR rowF (by simp [Region.wanted]) _ rfl x (by simp [Act.eval, Act.put]) _ rfl (fun w' hw => ⟨_, _, bx_below f3 hw⟩)) ?_
  refine Rest.takeS (i := 7) (v := .agg #[.int .i64 (M : Int), .int .u32 (F.id : Int), .bool F.ext, .bool F.rem, .int .u8 (F.dlc : Int), .slice fa F.data.length fc, .bool false]) rfl (by kernel_rfl) (by kernel_rfl) (by kernel_rfl) (by kernel_rfl) (fun _ _ _ h => h) HS (.inl ⟨by simp [Region.wanted], ?_⟩) ?_
  · intro w hw; go_simp
  rw [← HPV.out]
  refine Rest.two (i := 0) (j := 8) (by kernel_rfl) rfl rfl (fun K hK => ?_) (fun K hK => ?_)
  · rw [if_pos (by simp [Region.wanted])]
    go_simp
    have oe := ok_lit enS_k 70 W.heap.size W.drew [] #[] 0 rfl rfl (by omega) hd1.size
    have ge : Below W.heap.size W (W.drew.alloc (.cells #[] 70)) := hd1.alloc hd1.size _
    refine hK _ _ ⟨.inl ge, ?_⟩; clear hK K
    refine Rest.two (i := 3) (j := 8) (by kernel_rfl) rfl rfl (fun K hK => ?_) (fun K hK => ?_)
    · rw [if_pos (by simp [Region.wanted])]
      refine wp_app0K elS enS_k (.tmp 22) (.tmp 24) rfl rfl oe rfl (hL.below ge) (by omega) (by omega) ge.size ?_
      intro w3 a3 c3 o3 g3
      have gg3 : Below W.heap.size W w3 := bstep ge g3
      refine hK _ _ ⟨.inl gg3, ?_⟩; clear hK K
      refine Rest.one (i := 8) (by kernel_rfl) rfl (fun K hK => ?_)
      rw [if_pos (by simp [Region.wanted])]
      go_simp
      have sX := (ok_lit enS_k 70 0 w3 [p] (slV p) 1 (by simp [enS]) rfl (by omega) (Nat.zero_le _)).rk enS_k
      have gX : Below W.heap.size W (w3.alloc (.cells (slV p) 70)) := gg3.alloc gg3.size _
      refine hK _ _ ⟨.inl gX, ?_⟩; clear hK K
      refine Rest.one (i := 9) (by kernel_rfl) rfl (fun K hK => ?_)
      rw [if_pos (by simp [Region.wanted])]
      refine wp_appK elS enS_k (.tmp 25) (.tmp 30) rfl rfl (o3.alloc (.cells (slV p) 70)) rfl sX (by omega) (by omega) gX.size ?_
      intro w6 a6 c6 o6 g6
      have gg6 : Below W.heap.size W w6 := gX.trans g6
      refine hK _ _ ⟨.inr (thru_of (by kernel_rfl)), Rest.of_any _ _ _ _ (thru_of (by kernel_rfl)) ?_⟩; clear hK K
      have HFin := hid (HFA.out w6 a6 c6 gg6 o6)
      have b6 := bx_below b3 gg6
      have r6 := bx_below r3 gg6
      obtain ⟨x0, x1, x2, x3⟩ := bx4m b6
      have f6 := bx_thaw b6
      have b7 : (w6.setCell ⟨w.heap.size, 1, none⟩ (.slice a6 (n + 1) c6)).heap[w.heap.size]? = some (.cells #[.int .i64 (room : Int), .slice a6 (n + 1) c6, .int .i64 (wire : Int), .int .i64 (M : Int)] 30 (0, 0)) := heap_setCell_same w6 w.heap.size 1 _ _ _ b6
      have r7 : (w6.setCell ⟨w.heap.size, 1, none⟩ (.slice a6 (n + 1) c6)).heap[r]? = some (.cells smZ 30 (0, 0)) := (Below.heap_setCell _ _ _ _ (Nat.ne_of_gt (Nat.lt_trans hx0 hr0))).trans r6
      clear hq0 hq3 hL HS hd1 o6 gg6 g6 x0 x2 x3 b6 r6
      refine wpAny_take (i := 10) (v := .pointer (some ⟨w.heap.size, 1, none⟩)) rfl (by kernel_rfl) (by kernel_rfl) (by kernel_rfl) (fun _ _ _ h => h) (Or.inl ⟨by simp [Region.wanted], ?_⟩) ?_
      · intro w; go_simp
      refine wpAny_ready (rs := [11]) (by kernel_rfl) (by simp) ?_
      refine AllReady.cons rfl (fun K hK => ?_) AllReady.nil
      rw [if_pos (by simp [Region.wanted])]
      go_simp
      refine hK _ _ ?_; clear hK K
      refine wpAny_done (by kernel_rfl) ?_ _
      generalize w6.setCell ⟨w.heap.size, 1, none⟩ (.slice a6 (n + 1) c6) = W7 at *
      clear x1 f6
      go_wp2
      have HS : W7.drew.heap[w.heap.size]? = some (.cells #[.int .i64 (room : Int), .slice a6 (n + 1) c6, .int .i64 (wire : Int), .int .i64 (M : Int)] 30 (0, 0)) := b7
      refine Rest.begin (S := fun w' => w'.heap[w.heap.size]? = some (.cells #[.int .i64 (room : Int), .slice a6 (n + 1) c6, .int .i64 (wire : Int), .int .i64 (M : Int)] 30 (0, 0))) (X := [3, 4]) (by kernel_rfl) ?_
      change Rest _ _ _ _ _ _ _ _ _ W7.drew
      refine Rest.take (i := 1) (v := .pointer (some ⟨w.heap.size, 3, none⟩)) rfl (by kernel_rfl) (by kernel_rfl) (by kernel_rfl) (by kernel_rfl) (fun _ _ _ h => h) (.inl HS) (Or.inl ⟨by simp [Region.wanted], ?_⟩) ?_
      · intro w; go_simp
      refine Rest.takeS (i := 0) (v := .agg #[.int .i64 (room : Int), .slice a6 (n + 1) c6, .int .i64 (wire : Int), .int .i64 (M : Int)]) rfl (by kernel_rfl) (by kernel_rfl) (by kernel_rfl) (by kernel_rfl) (fun _ _ _ h => h) HS (yields_loadR rowSm (by simp [Region.wanted]) _ rfl w.heap.size (by simp [Act.eval, Act.put]) _ rfl (fun w' hw => ⟨_, _, hw⟩)) ?_
      refine Rest.takeS (i := 2) (v := .int .i64 (M : Int)) rfl (by kernel_rfl) (by kernel_rfl) (by kernel_rfl) (by kernel_rfl) (fun _ _ _ h => h) HS (.inl ⟨by simp [Region.wanted], ?_⟩) ?_
      · intro w hw; have q3 := (bx4m hw).2.2.2; go_simp
      refine Rest.one (i := 3) (by kernel_rfl) rfl (fun K hK => ?_)
      refine draw_storeR rowSm rfl _ _ rfl r #[.int .i64 (room : Int), .slice a6 (n + 1) c6, .int .i64 (wire : Int), .int .i64 (M : Int)] rfl rfl (show W7.drew.heap[r]? = _ from r7) rfl rfl (sm_onesV _ _ _ _ _ _) ?_
      refine hK _ _ ⟨.inl ((setRow_other _ _ _ _ (Nat.ne_of_lt (Nat.lt_trans hx0 hr0))).trans HS), ?_⟩; clear hK K
      refine Rest.one (i := 4) (by kernel_rfl) rfl (fun K hK => ?_)
      rw [if_pos (by simp [Region.wanted])]
      go_simp
      refine hK _ _ ⟨.inr (thru_of (by kernel_rfl)), Rest.of_any _ _ _ _ (thru_of (by kernel_rfl)) ?_⟩; clear hK K
      refine wpAny_take (i := 5) (v := .int .i64 0) rfl (by kernel_rfl) (by kernel_rfl) (by kernel_rfl) (fun _ _ _ h => h) (Or.inl ⟨by simp [Region.wanted], ?_⟩) ?_
      · intro w; go_simp
      refine wpAny_done (by kernel_rfl) ?_ _
      go_wp2
      exact bodyPost_ret (v := .tuple #[.agg #[.int .i64 (room : Int), .slice a6 (n + 1) c6, .int .i64 (wire : Int), .int .i64 (M : Int)], .int .i64 (M : Int), .int .i64 0]) (results_row12 rowSm rfl _ _ _ rfl rfl rfl (setRow_heap _ _ _ _ _ _ (show W7.drew.heap[r]? = _ from r7)) rfl) rfl (RmR.drew HFin.out)
    · rw [if_pos (by simp [Region.wanted])]
      go_simp
      have sX := (ok_lit enS_k 70 0 (W.drew.alloc (.cells #[] 70)) [p] (slV p) 1 (by simp [enS]) rfl (by omega) (Nat.zero_le _)).rk enS_k
      rw [show (W.drew.alloc (.cells #[] 70)).heap.size = W.heap.size + 1 by rw [heap_size_alloc]; rfl] at sX
      have gX : Below W.heap.size W ((W.drew.alloc (.cells #[] 70)).alloc (.cells (slV p) 70)) := ge.alloc ge.size _
      refine hK _ _ ⟨.inl gX, ?_⟩; clear hK K
      refine Rest.one (i := 3) (by kernel_rfl) rfl (fun K hK => ?_)
      rw [if_pos (by simp [Region.wanted])]
      refine wp_app0K elS enS_k (.tmp 22) (.tmp 24) rfl rfl (oe.alloc (.cells (slV p) 70)) rfl (hL.below gX) (by omega) (by omega) gX.size ?_
      intro w3 a3 c3 o3 g3
      have gg3 : Below W.heap.size W w3 := bstep gX g3
      refine hK _ _ ⟨.inl gg3, ?_⟩; clear hK K
      refine Rest.one (i := 9) (by kernel_rfl) rfl (fun K hK => ?_)
      rw [if_pos (by simp [Region.wanted])]
      refine wp_appK elS enS_k (.tmp 25) (.tmp 30) rfl rfl o3 rfl (sX.below g3) (by omega) (by omega) gg3.size ?_
      intro w6 a6 c6 o6 g6
      have gg6 : Below W.heap.size W w6 := gg3.trans g6
      refine hK _ _ ⟨.inr (thru_of (by kernel_rfl)), Rest.of_any _ _ _ _ (thru_of (by kernel_rfl)) ?_⟩; clear hK K
      have HFin := hid (HFA.out w6 a6 c6 gg6 o6)
      have b6 := bx_below b3 gg6
      have r6 := bx_below r3 gg6
      obtain ⟨x0, x1, x2, x3⟩ := bx4m b6
      have f6 := bx_thaw b6
      have b7 : (w6.setCell ⟨w.heap.size, 1, none⟩ (.slice a6 (n + 1) c6)).heap[w.heap.size]? = some (.cells #[.int .i64 (room : Int), .slice a6 (n + 1) c6, .int .i64 (wire : Int), .int .i64 (M : Int)] 30 (0, 0)) := heap_setCell_same w6 w.heap.size 1 _ _ _ b6
      have r7 : (w6.setCell ⟨w.heap.size, 1, none⟩ (.slice a6 (n + 1) c6)).heap[r]? = some (.cells smZ 30 (0, 0)) := (Below.heap_setCell _ _ _ _ (Nat.ne_of_gt (Nat.lt_trans hx0 hr0))).trans r6
      clear hq0 hq3 hL HS hd1 o6 gg6 g6 x0 x2 x3 b6 r6
      refine wpAny_take (i := 10) (v := .pointer (some ⟨w.heap.size, 1, none⟩)) rfl (by kernel_rfl) (by kernel_rfl) (by kernel_rfl) (fun _ _ _ h => h) (Or.inl ⟨by simp [Region.wanted], ?_⟩) ?_
      · intro w; go_simp
      refine wpAny_ready (rs := [11]) (by kernel_rfl) (by simp) ?_
      refine AllReady.cons rfl (fun K hK => ?_) AllReady.nil
      rw [if_pos (by simp [Region.wanted])]
      go_simp
      refine hK _ _ ?_; clear hK K
      refine wpAny_done (by kernel_rfl) ?_ _
      generalize w6.setCell ⟨w.heap.size, 1, none⟩ (.slice a6 (n + 1) c6) = W7 at *
      clear x1 f6
      go_wp2
      have HS : W7.drew.heap[w.heap.size]? = some (.cells #[.int .i64 (room : Int), .slice a6 (n + 1) c6, .int .i64 (wire : Int), .int .i64 (M : Int)] 30 (0, 0)) := b7
      refine Rest.begin (S := fun w' => w'.heap[w.heap.size]? = some (.cells #[.int .i64 (room : Int), .slice a6 (n + 1) c6, .int .i64 (wire : Int), .int .i64 (M : Int)] 30 (0, 0))) (X := [3, 4]) (by kernel_rfl) ?_
      change Rest _ _ _ _ _ _ _ _ _ W7.drew
      refine Rest.take (i := 1) (v := .pointer (some ⟨w.heap.size, 3, none⟩)) rfl (by kernel_rfl) (by kernel_rfl) (by kernel_rfl) (by kernel_rfl) (fun _ _ _ h => h) (.inl HS) (Or.inl ⟨by simp [Region.wanted], ?_⟩) ?_
      · intro w; go_simp
      refine Rest.takeS (i := 0) (v := .agg #[.int .i64 (room : Int), .slice a6 (n + 1) c6, .int .i64 (wire : Int), .int .i64 (M : Int)]) rfl (by kernel_rfl) (by kernel_rfl) (by kernel_rfl) (by kernel_rfl) (fun _ _ _ h => h) HS (yields_loadR rowSm (by simp [Region.wanted]) _ rfl w.heap.size (by simp [Act.eval, Act.put]) _ rfl (fun w' hw => ⟨_, _, hw⟩)) ?_
      refine Rest.takeS (i := 2) (v := .int .i64 (M : Int)) rfl (by kernel_rfl) (by kernel_rfl) (by kernel_rfl) (by kernel_rfl) (fun _ _ _ h => h) HS (.inl ⟨by simp [Region.wanted], ?_⟩) ?_
      · intro w hw; have q3 := (bx4m hw).2.2.2; go_simp
      refine Rest.one (i := 3) (by kernel_rfl) rfl (fun K hK => ?_)
      refine draw_storeR rowSm rfl _ _ rfl r #[.int .i64 (room : Int), .slice a6 (n + 1) c6, .int .i64 (wire : Int), .int .i64 (M : Int)] rfl rfl (show W7.drew.heap[r]? = _ from r7) rfl rfl (sm_onesV _ _ _ _ _ _) ?_
      refine hK _ _ ⟨.inl ((setRow_other _ _ _ _ (Nat.ne_of_lt (Nat.lt_trans hx0 hr0))).trans HS), ?_⟩; clear hK K
      refine Rest.one (i := 4) (by kernel_rfl) rfl (fun K hK => ?_)
      rw [if_pos (by simp [Region.wanted])]
      go_simp
      refine hK _ _ ⟨.inr (thru_of (by kernel_rfl)), Rest.of_any _ _ _ _ (thru_of (by kernel_rfl)) ?_⟩; clear hK K
      refine wpAny_take (i := 5) (v := .int .i64 0) rfl (by kernel_rfl) (by kernel_rfl) (by kernel_rfl) (fun _ _ _ h => h) (Or.inl ⟨by simp [Region.wanted], ?_⟩) ?_
      · intro w; go_simp
      refine wpAny_done (by kernel_rfl) ?_ _
      go_wp2
      exact bodyPost_ret (v := .tuple #[.agg #[.int .i64 (room : Int), .slice a6 (n + 1) c6, .int .i64 (wire : Int), .int .i64 (M : Int)], .int .i64 (M : Int), .int .i64 0]) (results_row12 rowSm rfl _ _ _ rfl rfl rfl (setRow_heap _ _ _ _ _ _ (show W7.drew.heap[r]? = _ from r7)) rfl) rfl (RmR.drew HFin.out)
  · rw [if_pos (by simp [Region.wanted])]
    go_simp
    have sX := (ok_lit enS_k 70 0 W.drew [p] (slV p) 1 (by simp [enS]) rfl (by omega) (Nat.zero_le _)).rk enS_k
    have gX : Below W.heap.size W (W.drew.alloc (.cells (slV p) 70)) := hd1.alloc hd1.size _
    refine hK _ _ ⟨.inl gX, ?_⟩; clear hK K
    refine Rest.one (i := 0) (by kernel_rfl) rfl (fun K hK => ?_)
    rw [if_pos (by simp [Region.wanted])]
    go_simp
    have oe := ok_lit enS_k 70 W.heap.size (W.drew.alloc (.cells (slV p) 70)) [] #[] 0 rfl rfl (by omega) gX.size
    rw [show (W.drew.alloc (.cells (slV p) 70)).heap.size = W.heap.size + 1 by rw [heap_size_alloc]; rfl] at oe
    have ge : Below W.heap.size W ((W.drew.alloc (.cells (slV p) 70)).alloc (.cells #[] 70)) := gX.alloc gX.size _
    refine hK _ _ ⟨.inl ge, ?_⟩; clear hK K
    refine Rest.one (i := 3) (by kernel_rfl) rfl (fun K hK => ?_)
    rw [if_pos (by simp [Region.wanted])]
    refine wp_app0K elS enS_k (.tmp 22) (.tmp 24) rfl rfl oe rfl (hL.below ge) (by omega) (by omega) ge.size ?_
    intro w3 a3 c3 o3 g3
    have gg3 : Below W.heap.size W w3 := bstep ge g3
    refine hK _ _ ⟨.inl gg3, ?_⟩; clear hK K
    refine Rest.one (i := 9) (by kernel_rfl) rfl (fun K hK => ?_)
    rw [if_pos (by simp [Region.wanted])]
    refine wp_appK elS enS_k (.tmp 25) (.tmp 30) rfl rfl o3 rfl ((sX.below (bnew0 _ _)).below g3) (by omega) (by omega) gg3.size ?_
    intro w6 a6 c6 o6 g6
    have gg6 : Below W.heap.size W w6 := gg3.trans g6
    refine hK _ _ ⟨.inr (thru_of (by kernel_rfl)), Rest.of_any _ _ _ _ (thru_of (by kernel_rfl)) ?_⟩; clear hK K
    have HFin := hid (HFA.out w6 a6 c6 gg6 o6)
    have b6 := bx_below b3 gg6
    have r6 := bx_below r3 gg6
    obtain ⟨x0, x1, x2, x3⟩ := bx4m b6
    have f6 := bx_thaw b6
    have b7 : (w6.setCell ⟨w.heap.size, 1, none⟩ (.slice a6 (n + 1) c6)).heap[w.heap.size]? = some (.cells #[.int .i64 (room : Int), .slice a6 (n + 1) c6, .int .i64 (wire : Int), .int .i64 (M : Int)] 30 (0, 0)) := heap_setCell_same w6 w.heap.size 1 _ _ _ b6
    have r7 : (w6.setCell ⟨w.heap.size, 1, none⟩ (.slice a6 (n + 1) c6)).heap[r]? = some (.cells smZ 30 (0, 0)) := (Below.heap_setCell _ _ _ _ (Nat.ne_of_gt (Nat.lt_trans hx0 hr0))).trans r6
    clear hq0 hq3 hL HS hd1 o6 gg6 g6 x0 x2 x3 b6 r6
    refine wpAny_take (i := 10) (v := .pointer (some ⟨w.heap.size, 1, none⟩)) rfl (by kernel_rfl) (by kernel_rfl) (by kernel_rfl) (fun _ _ _ h => h) (Or.inl ⟨by simp [Region.wanted], ?_⟩) ?_
    · intro w; go_simp
    refine wpAny_ready (rs := [11]) (by kernel_rfl) (by simp) ?_
    refine AllReady.cons rfl (fun K hK => ?_) AllReady.nil
    rw [if_pos (by simp [Region.wanted])]
    go_simp
    refine hK _ _ ?_; clear hK K
    refine wpAny_done (by kernel_rfl) ?_ _
    generalize w6.setCell ⟨w.heap.size, 1, none⟩ (.slice a6 (n + 1) c6) = W7 at *
    clear x1 f6
    go_wp2
    have HS : W7.drew.heap[w.heap.size]? = some (.cells #[.int .i64 (room : Int), .slice a6 (n + 1) c6, .int .i64 (wire : Int), .int .i64 (M : Int)] 30 (0, 0)) := b7
    refine Rest.begin (S := fun w' => w'.heap[w.heap.size]? = some (.cells #[.int .i64 (room : Int), .slice a6 (n + 1) c6, .int .i64 (wire : Int), .int .i64 (M : Int)] 30 (0, 0))) (X := [3, 4]) (by kernel_rfl) ?_
    change Rest _ _ _ _ _ _ _ _ _ W7.drew
    refine Rest.take (i := 1) (v := .pointer (some ⟨w.heap.size, 3, none⟩)) rfl (by kernel_rfl) (by kernel_rfl) (by kernel_rfl) (by kernel_rfl) (fun _ _ _ h => h) (.inl HS) (Or.inl ⟨by simp [Region.wanted], ?_⟩) ?_
    · intro w; go_simp
    refine Rest.takeS (i := 0) (v := .agg #[.int .i64 (room : Int), .slice a6 (n + 1) c6, .int .i64 (wire : Int), .int .i64 (M : Int)]) rfl (by kernel_rfl) (by kernel_rfl) (by kernel_rfl) (by kernel_rfl) (fun _ _ _ h => h) HS (yields_loadR rowSm (by simp [Region.wanted]) _ rfl w.heap.size (by simp [Act.eval, Act.put]) _ rfl (fun w' hw => ⟨_, _, hw⟩)) ?_
    refine Rest.takeS (i := 2) (v := .int .i64 (M : Int)) rfl (by kernel_rfl) (by kernel_rfl) (by kernel_rfl) (by kernel_rfl) (fun _ _ _ h => h) HS (.inl ⟨by simp [Region.wanted], ?_⟩) ?_
    · intro w hw; have q3 := (bx4m hw).2.2.2; go_simp
    refine Rest.one (i := 3) (by kernel_rfl) rfl (fun K hK => ?_)
    refine draw_storeR rowSm rfl _ _ rfl r #[.int .i64 (room : Int), .slice a6 (n + 1) c6, .int .i64 (wire : Int), .int .i64 (M : Int)] rfl rfl (show W7.drew.heap[r]? = _ from r7) rfl rfl (sm_onesV _ _ _ _ _ _) ?_
    refine hK _ _ ⟨.inl ((setRow_other _ _ _ _ (Nat.ne_of_lt (Nat.lt_trans hx0 hr0))).trans HS), ?_⟩; clear hK K
    refine Rest.one (i := 4) (by kernel_rfl) rfl (fun K hK => ?_)
    rw [if_pos (by simp [Region.wanted])]
    go_simp
    refine hK _ _ ⟨.inr (thru_of (by kernel_rfl)), Rest.of_any _ _ _ _ (thru_of (by kernel_rfl)) ?_⟩; clear hK K
    refine wpAny_take (i := 5) (v := .int .i64 0) rfl (by kernel_rfl) (by kernel_rfl) (by kernel_rfl) (fun _ _ _ h => h) (Or.inl ⟨by simp [Region.wanted], ?_⟩) ?_
    · intro w; go_simp
    refine wpAny_done (by kernel_rfl) ?_ _
    go_wp2
    exact bodyPost_ret (v := .tuple #[.agg #[.int .i64 (room : Int), .slice a6 (n + 1) c6, .int .i64 (wire : Int), .int .i64 (M : Int)], .int .i64 (M : Int), .int .i64 0]) (results_row12 rowSm rfl _ _ _ rfl rfl rfl (setRow_heap _ _ _ _ _ _ (show W7.drew.heap[r]? = _ from r7)) rfl) rfl (RmR.drew HFin.out)
end
end Go.Proofs.Ytffbkcjkmhjfnaa
