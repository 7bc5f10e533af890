/-
  The walk of the statement CtlTwins: for any two frames it returns true, and nothing that was there has changed.
-/
import Derived.Test.YtaagfaidjihjcaaCtlTwinsLoop
import Derived.Test.YtaagfaidjihjcaaCtlTwoWalk
import Derived.Test.YtaagfaidjihjcaaM8n
import Derived.Lib.QuietBelow
namespace Go.Proofs.Ytaagfaidjihjcaa
open Go.RowKit Go.Sort
set_option linter.unusedVariables false

theorem plain_long : plainFn 21 = true := by kernel_rfl

/-- Wire and Give, whether the frame is right or not. -/
theorem wire_weak (w : World) (id : Nat) (ext rem : Bool) (dlc : Nat) (a : Option Addr) (c : Nat) (l : List UInt8) (hi : id < 4294967296) (hd : dlc < 256) (h : RL bv w a l.length c l) :
    Calls Try.prog 10 #[.agg #[.int .u32 (id : Int), .bool ext, .bool rem, .int .u8 (dlc : Int), .slice a l.length c]] w fun e w' => ∃ a' n' c' k, e = .returned (.tuple #[.slice a' n' c', .int .i64 k]) ∧ Below w.heap.size w w' := by
  cases hr : riF id ext rem dlc l.length
  · exact (wire_wrong w id ext rem dlc a _ c hi hd hr).mono fun e w' ⟨h1, h2⟩ => ⟨_, _, _, _, h1, h2⟩
  · exact (wire_any w id ext rem dlc a _ c l hi hd h hr).mono fun e w' ⟨a', c', h1, _, h2⟩ => ⟨_, _, _, _, h1, h2⟩
theorem give_weak (w : World) (id : Nat) (ext rem : Bool) (dlc : Nat) (a : Option Addr) (c : Nat) (l : List UInt8) (hi : id < 4294967296) (hd : dlc < 256) (h : RL bv w a l.length c l) :
    Calls Try.prog 11 #[.agg ctZ, .agg #[.int .u32 (id : Int), .bool ext, .bool rem, .int .u8 (dlc : Int), .slice a l.length c]] w fun e w' => ∃ c' s' k, e = .returned (.tuple #[.agg (ctA c' s'), .int .i64 k]) ∧ Below w.heap.size w w' := by
  cases hr : riF id ext rem dlc l.length
  · exact (give_wrong id ext rem dlc _ a c w hi hd hr).mono fun e w' ⟨h1, h2⟩ => ⟨c0, sl0, _, h1, h2⟩
  · exact (give_fr _ id ext rem dlc l rfl ((good_iff ⟨id, ext, rem, dlc, l⟩ _ rfl).1 hr) a c w h).mono fun e w' ⟨s', h1, _, h2⟩ => ⟨_, s', _, h1, h2⟩

set_option maxRecDepth 1000000 in
set_option maxHeartbeats 16000000 in
theorem ctlTwins_all (w : World) (id : Nat) (ext rem : Bool) (dlc : Nat) (a : Option Addr) (c : Nat) (l : List UInt8) (id2 : Nat) (ext2 rem2 : Bool) (dlc2 : Nat) (a2 : Option Addr) (c2 : Nat) (l2 : List UInt8) (hi : id < 4294967296) (hd : dlc < 256) (h : RL bv w a l.length c l) (hd2 : dlc2 < 256) (h2 : RL bv w a2 l2.length c2 l2) (m2 : l2.length ≤ 9223372036854775807) :
    Calls Try.prog 9 #[.agg #[.int .u32 (id : Int), .bool ext, .bool rem, .int .u8 (dlc : Int), .slice a l.length c], .agg #[.int .u32 (id2 : Int), .bool ext2, .bool rem2, .int .u8 (dlc2 : Int), .slice a2 l2.length c2]] w fun e w' => e = .returned (.bool true) ∧ Below w.heap.size w w' := by
  obtain ⟨w0, hw0, hbx, hby, gg0⟩ := boxed2 w 25 #[.int .u32 (id : Int), .bool ext, .bool rem, .int .u8 (dlc : Int), .slice a l.length c] #[.int .u32 (id2 : Int), .bool ext2, .bool rem2, .int .u8 (dlc2 : Int), .slice a2 l2.length c2]
  obtain ⟨L, hL⟩ : ∃ L, L = lonF rem dlc2 := ⟨_, rfl⟩
  have hlo := fun (w1 : World) => frLong_any w1 id ext rem dlc2 a2 l2.length c2 hd2
  rw [← hL] at hlo
  have hlong : ∀ (w0 : World) d os, Calls Try.prog 21 #[.agg #[.int .u32 (id : Int), .bool ext, .bool rem, .int .u8 (dlc2 : Int), .slice a2 l2.length c2]] (grow (redrawn w0 d) os) fun e w'' => e = .returned (.int .i64 (L : Int)) ∧ ∃ p : Regrown, w'' = grow (redrawn w0 p.d) p.os := fun w0 d os => Calls.regrown_of (hlo _)
  have HL := hid hL
  clear hL
  go_enter Try.func9, Try.ntmps9
  go_upto_region 1 with fail
  rw [hw0.out]
  obtain ⟨x0, x1, x2, _, _⟩ := bx5 hbx
  obtain ⟨y0, y1, y2, _, _⟩ := bx5 hby
  have f0 := bx_thaw hby 0
  have f1 := bx_thaw hby 1
  have f2 := bx_thaw hby 2
  go_cut [23] (fun s23 wx => wx.heap[w.heap.size]? = some (.cells #[.int .u32 (id : Int), .bool ext, .bool rem, .int .u8 (dlc : Int), .slice a l.length c] 25 (0, 0)) ∧ wx.heap[w.heap.size + 1]? = some (.cells #[.int .u32 (id : Int), .bool ext, .bool rem, .int .u8 (dlc2 : Int), .slice a2 l2.length c2] 25 (0, 0)) ∧ Below w.heap.size w wx)
  case first =>
    have hS0 : w0.drew.cell? ⟨w.heap.size, 0, none⟩ = some (.int .u32 (id : Int)) ∧ w0.drew.cell? ⟨w.heap.size, 1, none⟩ = some (.bool ext) ∧ w0.drew.cell? ⟨w.heap.size, 2, none⟩ = some (.bool rem) := ⟨x0, x1, x2⟩
    have hS1 : ∀ (w' : World) (k : Nat) (v : Value), (w'.cell? ⟨w.heap.size, 0, none⟩ = some (.int .u32 (id : Int)) ∧ w'.cell? ⟨w.heap.size, 1, none⟩ = some (.bool ext) ∧ w'.cell? ⟨w.heap.size, 2, none⟩ = some (.bool rem)) →
        ((w'.setCell ⟨w.heap.size + 1, k, none⟩ v).cell? ⟨w.heap.size, 0, none⟩ = some (.int .u32 (id : Int)) ∧ (w'.setCell ⟨w.heap.size + 1, k, none⟩ v).cell? ⟨w.heap.size, 1, none⟩ = some (.bool ext) ∧ (w'.setCell ⟨w.heap.size + 1, k, none⟩ v).cell? ⟨w.heap.size, 2, none⟩ = some (.bool rem)) := by
      rintro w' k v ⟨h0, h1, h2⟩
      simp [World.cell?_setCell_other, h0, h1, h2]
    go_region_held3 (fun w' => w'.cell? ⟨w.heap.size, 0, none⟩ = some (.int .u32 (id : Int)) ∧ w'.cell? ⟨w.heap.size, 1, none⟩ = some (.bool ext) ∧ w'.cell? ⟨w.heap.size, 2, none⟩ = some (.bool rem)) (first | exact hS0 | exact hS1 _ _ _ hS0 | exact hS1 _ _ _ (hS1 _ _ _ hS0) | exact hS1 _ _ _ (hS1 _ _ _ (hS1 _ _ _ hS0))) (fail)
    have u1 := heap_setCell_same w0.drew (w.heap.size + 1) 0 _ _ (.int .u32 (id : Int)) hby
    have u2 := heap_setCell_same _ (w.heap.size + 1) 1 _ _ (.bool ext) u1
    have u3 := heap_setCell_same _ (w.heap.size + 1) 2 _ _ (.bool rem) u2
    have v3 : (((w0.drew.setCell ⟨w.heap.size + 1, 0, none⟩ (.int .u32 (id : Int))).setCell ⟨w.heap.size + 1, 1, none⟩ (.bool ext)).setCell ⟨w.heap.size + 1, 2, none⟩ (.bool rem)).heap[w.heap.size]? = some (.cells #[.int .u32 (id : Int), .bool ext, .bool rem, .int .u8 (dlc : Int), .slice a l.length c] 25 (0, 0)) :=
      (heap_setCell_other _ _ _ _ (by simp)).trans ((heap_setCell_other _ _ _ _ (by simp)).trans ((heap_setCell_other _ _ _ _ (by simp)).trans hbx))
    have g3 : Below w.heap.size w (((w0.drew.setCell ⟨w.heap.size + 1, 0, none⟩ (.int .u32 (id : Int))).setCell ⟨w.heap.size + 1, 1, none⟩ (.bool ext)).setCell ⟨w.heap.size + 1, 2, none⟩ (.bool rem)) :=
      (((below_drew1 gg0).setCell (by simp) _).setCell (by simp) _).setCell (by simp) _
    clear hS0 hS1 x0 x1 x2 y0 y1 y2 f0 f1 f2 u1 u2 hbx hby gg0
    go_wp2_with fail
    go_meet
    exact ⟨v3, u3, g3⟩
  case rest =>
  clear x0 x1 x2 y0 y1 y2 f0 f1 f2 hbx hby gg0 hw0
  obtain ⟨hbx, hby, gA⟩ := hcut
  go_simp
  go_upto_region 2 with fail
  obtain ⟨y0, y1, y2, y3, y4⟩ := bx5 hby
  go_cut [36] (fun s36 wx => s36 = .bool (decide (L < l2.length)) ∧ Below wc.heap.size wc wx)
  case first =>
    have r0 := cell_regrown y0
    have r1 := cell_regrown y1
    have r2 := cell_regrown y2
    have r3 := cell_regrown y3
    have r4 := cell_regrown y4
    clear y0 y1 y2 y3 y4
    refine wp_region_quiet_below (by kernel_rfl) (by kernel_rfl) ?_
    repeat (go_big_quiet_step (first
      | (go_at_call 21; exact hlong _ _ _)))
    refine wpQuiet_nil ?_
    intro w9 hw9
    have gg : Below wc.heap.size wc w9 := by obtain ⟨p9, rfl⟩ := hw9; exact below_regrown _ _ _
    clear hw9
    go_wp2_with fail
    go_meet
    exact ⟨rfl, gg⟩
  case rest =>
  clear y0 y1 y2 y3 y4 hlong
  obtain ⟨rfl, gB⟩ := hcut
  have hbx1 := bx_below hbx gB
  have hby1 := bx_below hby gB
  have gA1 := bstep gA gB
  clear hbx hby gA gB
  go_simp
  go_upto_if 36 with fail
  go_cut [41] (fun s41 wx => ∃ (a3 : Option Addr) (n3 c3 : Nat) (l3 : List UInt8), wx.heap[w.heap.size + 1]? = some (.cells #[.int .u32 (id : Int), .bool ext, .bool rem, .int .u8 (dlc2 : Int), .slice a3 n3 c3] 25 (0, 0)) ∧ RL bv wx a3 n3 c3 l3 ∧ RL bv wx a l.length c l ∧ wx.heap[w.heap.size]? = some (.cells #[.int .u32 (id : Int), .bool ext, .bool rem, .int .u8 (dlc : Int), .slice a l.length c] 25 (0, 0)) ∧ Below w.heap.size w wx)
  case first =>
    by_cases hc : L < l2.length
    · obtain ⟨a3, hcA, hcB, hr3⟩ := run_cutTo tY h2 .i64 L (by omega)
      have tc : decide (L < l2.length) = true := by simp; omega
      go_upto_region 3 with fail
      have hS0 : wc.drew.heap[w.heap.size + 1]? = some (.cells #[.int .u32 (id : Int), .bool ext, .bool rem, .int .u8 (dlc2 : Int), .slice a2 l2.length c2] 25 (0, 0)) := hby1
      refine Rest.begin (S := fun w' => w'.heap[w.heap.size + 1]? = some (.cells #[.int .u32 (id : Int), .bool ext, .bool rem, .int .u8 (dlc2 : Int), .slice a2 l2.length c2] 25 (0, 0))) (X := [3, 4]) (by kernel_rfl) ?_
      change Rest _ _ _ _ _ _ _ _ _ wc.drew
      refine Rest.take (i := 0) (v := .pointer (some ⟨w.heap.size + 1, 4, none⟩)) rfl (by kernel_rfl) (by kernel_rfl) (by kernel_rfl) (by kernel_rfl) (fun _ _ _ h => h) (.inl hS0) (Or.inl ⟨by simp [Region.wanted], ?_⟩) ?_
      · intro w; go_simp
      refine Rest.takeS (i := 1) (v := .slice a2 l2.length c2) rfl (by kernel_rfl) (by kernel_rfl) (by kernel_rfl) (by kernel_rfl) (fun _ _ _ h => h) hS0 (Or.inl ⟨by simp [Region.wanted], ?_⟩) ?_
      · intro w hw
        have k := (bx5 hw).2.2.2.2
        go_simp
      refine Rest.takeS (i := 2) (v := .agg #[.int .u32 (id : Int), .bool ext, .bool rem, .int .u8 (dlc2 : Int), .slice a2 l2.length c2]) rfl (by kernel_rfl) (by kernel_rfl) (by kernel_rfl) (by kernel_rfl) (fun _ _ _ h => h) hS0 (yields_loadR rowF (by simp [Region.wanted]) _ rfl (w.heap.size + 1) (by simp [Act.eval, Act.put]) _ rfl (fun w h => ⟨_, _, h⟩)) ?_
      refine Rest.one (i := 3) (by kernel_rfl) rfl (fun K hK => ?_)
      refine draw_callF 21 plain_long (by simp [Region.wanted]) _ _ _ rfl (by simp [Act.eval]) _ (by simp [Act.eval, Act.put]) _ (hlo wc.drew) ?_
      rintro e w4 ⟨rfl, g4⟩
      refine ⟨_, rfl, ?_⟩
      have hS4 := bx_below hS0 g4
      have z4 := (bx5 hS4).2.2.2.2
      have fz := bx_thaw hS4 4
      refine hK _ _ ⟨.inl hS4, ?_⟩; clear hK K
      refine Rest.one (i := 4) (by kernel_rfl) rfl (fun K hK => ?_)
      go_simp
      refine hK _ _ ⟨.inl hS4, Rest.of_any _ _ _ _ (thru_of (by kernel_rfl)) ?_⟩; clear hK K
      refine wpAny_take (i := 5) (v := .pointer (some ⟨w.heap.size + 1, 4, none⟩)) rfl (by kernel_rfl) (by kernel_rfl) (by kernel_rfl) (fun _ _ _ h => h) (Or.inl ⟨by simp [Region.wanted], ?_⟩) ?_
      · intro w; go_simp
      refine wpAny_ready (rs := [6]) (by kernel_rfl) (by simp) ?_
      refine AllReady.cons rfl (fun K hK => ?_) AllReady.nil
      go_simp
      refine hK _ _ ?_; clear hK K
      refine wpAny_done (by kernel_rfl) ?_ _
      go_simp
      have u1 := heap_setCell_same w4 (w.heap.size + 1) 4 _ _ (.slice a3 L c2) hS4
      have v1 : (w4.setCell ⟨w.heap.size + 1, 4, none⟩ (.slice a3 L c2)).heap[w.heap.size]? = _ := (heap_setCell_other _ _ _ _ (by simp)).trans (bx_below (show wc.drew.heap[w.heap.size]? = _ from hbx1) g4)
      have g5 : Below w.heap.size w (w4.setCell ⟨w.heap.size + 1, 4, none⟩ (.slice a3 L c2)) := (bstep (below_drew1 gA1) g4).setCell (by simp) _
      go_wp2_with fail
      go_meet
      exact ⟨a3, L, c2, l2.take L, u1, hr3.below g5, h.below g5, v1, g5⟩
    · have tc : decide (L < l2.length) = false := by simp; omega
      go_wp2_with fail
      go_meet
      exact ⟨a2, l2.length, c2, l2, hby1, h2.below gA1, h.below gA1, hbx1, gA1⟩
  case rest =>
  clear hbx1 hby1 gA1 h2 h hlo m2 HL
  obtain ⟨a3, n3, c3, l3, hby, hl3, hl1, hbx, gA⟩ := hcut
  obtain rfl : l3.length = n3 := hl3.len
  obtain ⟨x0, x1, x2, x3, x4⟩ := bx5 hbx
  cases hr1 : riF id ext rem dlc l.length
  · have hW1 := fun w1 => wire_wrong w1 id ext rem dlc a l.length c hi hd hr1
    have hG1 := fun w1 => give_wrong id ext rem dlc l.length a c w1 hi hd hr1
    have hW2 := fun w1 (h1 : RL bv w1 a3 l3.length c3 l3) => wire_weak w1 id ext rem dlc2 a3 c3 l3 hi hd2 h1
    have hG2 := fun w1 (h1 : RL bv w1 a3 l3.length c3 l3) => give_weak w1 id ext rem dlc2 a3 c3 l3 hi hd2 h1
    clear hr1 hi hd hd2
    go_wp2_with (first
      | (go_at_call 10; (with_reducible refine (hW1 _).mono ?_); rintro e w1 ⟨rfl, g1⟩; clear x0 x1 x2 x3 x4; have hby1 := bx_below hby g1; have hbx1 := bx_below hbx g1; have hl31 := hl3.below g1; have gg1 := bstep gA g1; obtain ⟨y0, y1, y2, y3, y4⟩ := bx5 hby1)
      | (go_at_call 10; (with_reducible refine (hW2 _ hl31).mono ?_); rintro e w2 ⟨a', n', c', k', rfl, g2⟩; clear y0 y1 y2 y3 y4; have hby2 := bx_below hby1 g2; have hbx2 := bx_below hbx1 g2; have hl32 := hl31.below g2; have gg2 := bstep gg1 g2; obtain ⟨x0, x1, x2, x3, x4⟩ := bx5 hbx2)
      | (go_at_call 11; (with_reducible refine (hG1 _).mono ?_); rintro e w3 ⟨rfl, g3⟩; clear x0 x1 x2 x3 x4; have gg3 := bstep gg2 g3; have hz3 := heap_alloc_new w3 (.cells ctZ 37)
         have gg4 : Below w.heap.size w ((w3.alloc (.cells ctZ 37)).setRow w3.heap.size ctZ) := below_new gg3 gg3.size c0 sl0
         have gz : Below w2.heap.size w2 ((w3.alloc (.cells ctZ 37)).setRow w3.heap.size ctZ) := below_new g3 g3.size c0 sl0
         have hl33 := hl32.below gz
         obtain ⟨y0, y1, y2, y3, y4⟩ := bx5 (bx_below hby2 gz))
      | (with_reducible refine wpList_storeR rowC rfl _ _ rfl _ _ rfl rfl hz3 rfl rfl (by kernel_rfl) ?_)
      | (go_at_call 11; (with_reducible refine (hG2 _ hl33).mono ?_); rintro e w5 ⟨c', s', k', rfl, g5⟩; have gg5 := bstep gg4 g5; have hz5 := heap_alloc_new w5 (.cells ctZ 37)
         have gg6 : Below w.heap.size w ((w5.alloc (.cells ctZ 37)).setRow w5.heap.size (ctA c' s')) := below_new gg5 gg5.size c' s')
      | (with_reducible refine wpList_storeR rowC rfl _ _ rfl _ _ rfl rfl hz5 rfl rfl (ct_ones _ _) ?_)
      | (go_at_call 12; (with_reducible refine (awake8_any _).mono ?_); rintro e w9 ⟨rfl, g9⟩))
    go_ret
    exact ⟨rfl, bstep gg6 g9⟩
  cases hr2 : riF id ext rem dlc2 l3.length
  · have hgF : Good ⟨id, ext, rem, dlc, l⟩ := (good_iff ⟨id, ext, rem, dlc, l⟩ _ rfl).1 hr1
    have hW1 := fun w1 (h1 : RL bv w1 a l.length c l) => wire_any w1 id ext rem dlc a l.length c l hi hd h1 hr1
    have hG1 := fun w1 (h1 : RL bv w1 a l.length c l) => give_fr _ id ext rem dlc l rfl hgF a c w1 h1
    have hW2 := fun w1 => wire_wrong w1 id ext rem dlc2 a3 l3.length c3 hi hd2 hr2
    have hG2 := fun w1 => give_wrong id ext rem dlc2 l3.length a3 c3 w1 hi hd2 hr2
    generalize (putL (boL ⟨id, ext, rem, dlc, l⟩)).length + 10 = N1 at hW1
    generalize wiL ⟨id, ext, rem, dlc, l⟩ = W at hW1
    generalize giC ⟨id, ext, rem, dlc, l⟩ = cF at hG1
    clear hr1 hr2 hgF hi hd hd2
    go_wp2_with (first
      | (go_at_call 10; (with_reducible refine (hW1 _ hl1).mono ?_); rintro e w1 ⟨a', c', rfl, _, g1⟩; clear x0 x1 x2 x3 x4; have hby1 := bx_below hby g1; have hbx1 := bx_below hbx g1; have hl11 := hl1.below g1; have gg1 := bstep gA g1; obtain ⟨y0, y1, y2, y3, y4⟩ := bx5 hby1)
      | (go_at_call 10; (with_reducible refine (hW2 _).mono ?_); rintro e w2 ⟨rfl, g2⟩; clear y0 y1 y2 y3 y4; have hby2 := bx_below hby1 g2; have hbx2 := bx_below hbx1 g2; have hl12 := hl11.below g2; have gg2 := bstep gg1 g2; obtain ⟨x0, x1, x2, x3, x4⟩ := bx5 hbx2)
      | (go_at_call 11; (with_reducible refine (hG1 _ hl12).mono ?_); rintro e w3 ⟨s3, rfl, o3, g3⟩; clear x0 x1 x2 x3 x4; have gg3 := bstep gg2 g3; have hz3 := heap_alloc_new w3 (.cells ctZ 37)
         have gg4 : Below w.heap.size w ((w3.alloc (.cells ctZ 37)).setRow w3.heap.size (ctA cF s3)) := below_new gg3 gg3.size cF s3
         have gz : Below w2.heap.size w2 ((w3.alloc (.cells ctZ 37)).setRow w3.heap.size (ctA cF s3)) := below_new g3 g3.size cF s3
         obtain ⟨y0, y1, y2, y3, y4⟩ := bx5 (bx_below hby2 gz))
      | (with_reducible refine wpList_storeR rowC rfl _ _ rfl _ _ rfl rfl hz3 rfl rfl (ct_ones _ _) ?_)
      | (go_at_call 11; (with_reducible refine (hG2 _).mono ?_); rintro e w5 ⟨rfl, g5⟩; have gg5 := bstep gg4 g5; have hz5 := heap_alloc_new w5 (.cells ctZ 37)
         have gg6 : Below w.heap.size w ((w5.alloc (.cells ctZ 37)).setRow w5.heap.size ctZ) := below_new gg5 gg5.size c0 sl0)
      | (with_reducible refine wpList_storeR rowC rfl _ _ rfl _ _ rfl rfl hz5 rfl rfl (by kernel_rfl) ?_)
      | (go_at_call 12; (with_reducible refine (awake8_any _).mono ?_); rintro e w9 ⟨rfl, g9⟩))
    go_ret
    exact ⟨rfl, bstep gg6 g9⟩
  have hgF : Good ⟨id, ext, rem, dlc, l⟩ := (good_iff ⟨id, ext, rem, dlc, l⟩ _ rfl).1 hr1
  have hgG : Good ⟨id, ext, rem, dlc2, l3⟩ := (good_iff ⟨id, ext, rem, dlc2, l3⟩ _ rfl).1 hr2
  have hWF := fun (w1 : World) (h1 : RL bv w1 a l.length c l) => wire_any w1 id ext rem dlc a l.length c l hi hd h1 hr1
  have hWG := fun (w1 : World) (h1 : RL bv w1 a3 l3.length c3 l3) => wire_any w1 id ext rem dlc2 a3 l3.length c3 l3 hi hd2 h1 hr2
  have hSF := fun (w1 : World) (h1 : RL bv w1 a l.length c l) (h2 : RL bv w1 a3 l3.length c3 l3) => sameFrame_any w1 id ext rem dlc a l.length c l id ext rem dlc2 a3 l3.length c3 l3 h1 h2
  have hor := twins_or hgF hgG rfl rfl rfl
  obtain ⟨F, hF⟩ : ∃ F : Fr, F = ⟨id, ext, rem, dlc, l⟩ := ⟨_, rfl⟩
  obtain ⟨G, hG⟩ : ∃ G : Fr, G = ⟨id, ext, rem, dlc2, l3⟩ := ⟨_, rfl⟩
  simp only [← hF] at hgF hWF hSF hor
  simp only [← hG] at hgG hWG hSF hor
  have hGF := fun (w1 : World) (h1 : RL bv w1 a l.length c l) => give_fr F id ext rem dlc l hF hgF a c w1 h1
  have hGG := fun (w1 : World) (h1 : RL bv w1 a3 l3.length c3 l3) => give_fr G id ext rem dlc2 l3 hG hgG a3 c3 w1 h1
  have hP150 := P_top hgF
  have hQ150 := P_top hgG
  obtain ⟨dd, ⟨hdd1, hddF, hddG⟩, hpre, hE⟩ := hor
  obtain ⟨P, hP⟩ : ∃ P, P = (putL (boL F)).length := ⟨_, rfl⟩
  obtain ⟨Q, hQ⟩ : ∃ Q, Q = (putL (boL G)).length := ⟨_, rfl⟩
  simp only [← hP, ← hQ] at hWF hWG hP150 hQ150 hddF hddG hE
  obtain ⟨W, hWe⟩ : ∃ W, W = wiL F := ⟨_, rfl⟩
  obtain ⟨V, hVe⟩ : ∃ V, V = wiL G := ⟨_, rfl⟩
  simp only [← hWe, ← hVe] at hWF hWG hpre hE
  obtain ⟨N1, hN1⟩ : ∃ N1, N1 = P + 10 := ⟨_, rfl⟩
  obtain ⟨N2, hN2⟩ : ∃ N2, N2 = Q + 10 := ⟨_, rfl⟩
  simp only [← hN1] at hWF hddF hE
  simp only [← hN2] at hWG hddG
  have bN1 : N1 ≤ 160 := by omega
  have bN2 : N2 ≤ 160 := by omega
  have HN := hid (And.intro hN1 hN2)
  have HE := hid hE
  have HPre := hid hpre
  clear hF hG hgF hgG hP hQ hWe hVe hN1 hN2 hE hpre hr1 hr2 hi hd hd2 hP150 hQ150
  go_upto_region 6 with (first
    | (go_at_call 10; (with_reducible refine (hWF _ hl1).mono ?_); rintro e w1 ⟨a5, c5, rfl, o5, g1⟩; clear x0 x1 x2 x3 x4; have hby1 := bx_below hby g1; have hl31 := hl3.below g1; obtain ⟨y0, y1, y2, y3, y4⟩ := bx5 hby1)
    | (go_at_call 10; (with_reducible refine (hWG _ hl31).mono ?_); rintro e w2 ⟨a7, c7, rfl, o7, g2⟩; clear y0 y1 y2 y3 y4))
  have hW := o5.rl.below g2
  have hV := o7.rl
  have gg2 := bstep (bstep gA g1) g2
  have hbx2 := bx_below (bx_below hbx g1) g2
  have hby2 := bx_below hby1 g2
  have hl12 := (hl1.below g1).below g2
  have hl32 := hl31.below g2
  obtain ⟨x0, x1, x2, x3, x4⟩ := bx5 hbx2
  clear hWF hWG o5 o7 g1 g2 hby1 hl31 hby hbx hl1 hl3 gA
  go_upto_region 7 with (first
    | (go_at_call 11; (with_reducible refine (hGF _ hl12).mono ?_); rintro e w3 ⟨s3, rfl, o3, g3⟩; have hz3 := heap_alloc_new w3 (.cells ctZ 37))
    | (with_reducible refine wpList_storeR rowC rfl _ _ rfl _ _ rfl rfl hz3 rfl rfl (ct_ones _ _) ?_))
  have g4 : Below w2.heap.size w2 ((w3.alloc (.cells ctZ 37)).setRow w3.heap.size (ctA (giC F) s3)) := below_new g3 g3.size _ _
  have C4 := cb_new o3
  have lA : w2.heap.size ≤ w3.heap.size := g3.size
  clear x0 x1 x2 x3 x4 hz3 g3 o3 hGF
  change Code.wp _ _ _ _ ((w3.alloc (.cells ctZ 37)).setRow w3.heap.size (ctA (giC F) s3))
  generalize (w3.alloc (.cells ctZ 37)).setRow w3.heap.size (ctA (giC F) s3) = w4 at *
  have hl34 := hl32.below g4
  obtain ⟨x0, x1, x2, x3, x4⟩ := bx5 (bx_below hby2 g4)
  go_upto_region 8 with (first
    | (go_at_call 11; (with_reducible refine (hGG _ hl34).mono ?_); rintro e w5 ⟨s5, rfl, o5, g5⟩; have hz5 := heap_alloc_new w5 (.cells ctZ 37))
    | (with_reducible refine wpList_storeR rowC rfl _ _ rfl _ _ rfl rfl hz5 rfl rfl (ct_ones _ _) ?_))
  have g6 : Below w4.heap.size w4 ((w5.alloc (.cells ctZ 37)).setRow w5.heap.size (ctA (giC G) s5)) := below_new g5 g5.size _ _
  have C6 := cb_new o5
  have A6 := C4.below g6
  have l45 : w4.heap.size ≤ w5.heap.size := g5.size
  have l3 := C4.lt
  have NA : NBs s3 w5.heap.size := C4.o.fresh l45
  have NB : NBs s5 w3.heap.size := o5.nbs l3
  have gg6 := bstep g4 g6
  clear x0 x1 x2 x3 x4 hz5 g5 o5 hGG hl34 C4
  change Code.wp _ _ _ _ ((w5.alloc (.cells ctZ 37)).setRow w5.heap.size (ctA (giC G) s5))
  generalize (w5.alloc (.cells ctZ 37)).setRow w5.heap.size (ctA (giC G) s5) = w6 at *
  have lB : w2.heap.size ≤ w5.heap.size := by omega
  have lAB : w3.heap.size < w5.heap.size := by omega
  generalize w3.heap.size = pa at *
  generalize w5.heap.size = pb at *
  clear g4 g6 l45 l3
  go_wp2
  go_loopg [13] dd (fun gn s13 wr => ∃ k : Nat, k ≤ dd ∧ gn = dd - k ∧ s13 = .int .i64 (k : Int) ∧ Below w6.heap.size w6 wr)
  case atStart => exact ⟨0, by omega, by omega, rfl, Below.refl _ _⟩
  case round =>
    obtain ⟨k, hk, rfl, rfl, gk⟩ := hrel
    have gw := bstep gg6 gk
    by_cases hlt : k < dd
    · obtain ⟨bw, ow, yw, hbw, hyw, hcw⟩ := (hW.below gw).at (k := k) (by omega)
      obtain ⟨bz, oz, yz, hbz, hyz, hcz⟩ := (hV.below gw).at (k := k) (by omega)
      have ey : yw = yz := by have := HPre.out k hlt; rw [hyw, hyz] at this; simpa using this
      subst hbw hbz ey
      have k1 : k < N1 := by omega
      have k2 : k < N2 := by omega
      clear hyw hyz HE HPre HN hSF
      go_upto_region 11 with fail
      go_quiet (fail)
      have gn := below_drewN gk nq
      clear gk gw hcw hcz
      generalize wr.drewN nq = wd at *
      go_wp2
      go_roundg (dd - (k + 1))
      case measure => go_light; omega
      case rel => go_light; exact ⟨k + 1, by omega, rfl, by go_num, gn⟩
    · obtain rfl : k = dd := by omega
      clear hlt
      have t0 : ((k : Int) == 0) = false := by simp; omega
      rcases HE.out with ⟨hFG, hkN⟩ | ⟨hne, ⟨hkP, hkQ⟩, sw, e, T, ⟨he1, he2⟩, ⟨hw1, hv1⟩, hT0, hT1, hT2, hT3⟩
      · have t1 : decide (k < N1) = false := by simp; omega
        have hS1 := hSF
        rw [decide_eq_true hFG] at hS1
        clear HE HPre HN hSF hFG hkN
        go_upto_region 11 with fail
        go_quiet (fail)
        have gn := below_drewN gk nq
        have gn2 := bstep gg6 gn
        clear gk gw
        generalize wr.drewN nq = wd at *
        have q1 := hl12.below gn2
        have q2 := hl32.below gn2
        obtain ⟨x0, x1, x2, x3, x4⟩ := bx5 (bx_below hbx2 gn2)
        obtain ⟨y0, y1, y2, y3, y4⟩ := bx5 (bx_below hby2 gn2)
        go_wp2_with (first
          | (go_at_call 18; (with_reducible refine (hS1 _ q1 q2).mono ?_); rintro e w8 ⟨rfl, g8⟩)
          | (go_at_call 12; (with_reducible refine (awake8_any _).mono ?_); rintro e w9 ⟨rfl, g9⟩))
        go_ret
        exact ⟨rfl, bstep (bstep (bstep gg2 gn2) g8) g9⟩
      · have k1 : k + 1 < N1 := by have := HN.out.1; omega
        have k2 : k + 1 < N2 := by have := HN.out.2; omega
        have k3 : k < N1 := by omega
        have k4 : k < N2 := by omega
        obtain ⟨bw, ow, yw, hbw, hyw, hcw⟩ := (hW.below gw).at (k := k) k3
        obtain ⟨bz, oz, yz, hbz, hyz, hcz⟩ := (hV.below gw).at (k := k) k4
        have ew : yw = !sw := by rw [hyw] at hw1; simpa using hw1
        have ez : yz = sw := by rw [hyz] at hv1; simpa using hv1
        have ee : (yw == yz) = false := by rw [ew, ez]; cases sw <;> rfl
        obtain ⟨D, hD⟩ : ∃ D, D = k + 60 := ⟨_, rfl⟩
        have tD : (k : Int) + 60 = (D : Int) := by omega
        have hS1 := hSF
        rw [decide_eq_false hne] at hS1
        have HK := hid (show D = k + 60 ∧ W[k]? = some (!sw) ∧ V[k]? = some sw from ⟨hD, hw1, hv1⟩)
        have HT := hid hT1
        have HP := hid hT2
        have HE2 := hid hT3
        have HS := hid hT0
        subst hbw hbz
        clear HE HPre HN hSF hne hw1 hv1 hT0 hT1 hT2 hT3 hD hyw hyz ew ez hkP hkQ
        go_upto_region 11 with fail
        go_quiet (fail)
        have gn := below_drewN gk nq
        have gn2 := bstep gg6 gn
        clear gk gw hcw hcz ee
        generalize wr.drewN nq = wd at *
        have q1 := hl12.below gn2
        have q2 := hl32.below gn2
        obtain ⟨x0, x1, x2, x3, x4⟩ := bx5 (bx_below hbx2 gn2)
        obtain ⟨y0, y1, y2, y3, y4⟩ := bx5 (bx_below hby2 gn2)
        go_wp2_with (go_at_call 18; (with_reducible refine (hS1 _ q1 q2).mono ?_); rintro e8 w8 ⟨rfl, g8⟩)
        have gX := bstep gn g8
        have CA := A6.below gX
        have CB := C6.below gX
        have gg8 := bstep gg6 gX
        clear x0 x1 x2 x3 x4 y0 y1 y2 y3 y4 q1 q2 gn2 gn g8 A6 C6 gX hl12 hl32 hbx2 hby2 hS1
        refine Code.wp_mono (fun _ _ _ h => noP_imp h) (ctlTwins_loop (Q0 := noP _) e W V sw s3 s5 (giC F) (giC G) w2 T bN1 bN2 k1 k2 he1 he2 HK HT HP HE2 HS hW hV lA lB lAB CA CB NA NB gg8 (fun _ _ _ _ h => h) ?_)
        clear HK HT HP HE2 HS hW hV CA CB NA NB gg8 lA lB lAB
        iterate 144 intro _
        intro w9 g9
        unfold noP
        dsimp only
        go_wp2
        go_ret
        exact ⟨rfl, bstep gg2 g9⟩

theorem ctlTwins_walk (w : World) (id : Nat) (ext rem : Bool) (dlc : Nat) (a : Option Addr) (n c : Nat) (l : List UInt8) (id2 : Nat) (ext2 rem2 : Bool) (dlc2 : Nat) (a2 : Option Addr) (n2 c2 : Nat) (l2 : List UInt8) (hi : id < 4294967296) (hd : dlc < 256) (h : RL bv w a n c l) (hi2 : id2 < 4294967296) (hd2 : dlc2 < 256) (h2 : RL bv w a2 n2 c2 l2) (m1 : n ≤ 9223372036854775807) (m2 : n2 ≤ 9223372036854775807) :
    Calls Try.prog 9 #[.agg #[.int .u32 (id : Int), .bool ext, .bool rem, .int .u8 (dlc : Int), .slice a n c], .agg #[.int .u32 (id2 : Int), .bool ext2, .bool rem2, .int .u8 (dlc2 : Int), .slice a2 n2 c2]] w fun e w' => e = .returned (.bool true) ∧ Below w.heap.size w w' := by
  obtain rfl : l.length = n := h.len
  obtain rfl : l2.length = n2 := h2.len
  exact ctlTwins_all w id ext rem dlc a c l id2 ext2 rem2 dlc2 a2 c2 l2 hi hd h hd2 h2 m2
end Go.Proofs.Ytaagfaidjihjcaa
