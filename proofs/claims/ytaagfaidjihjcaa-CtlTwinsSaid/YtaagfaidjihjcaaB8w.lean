/-
  The chapter's examples, in the statements of layer 8 (awake).
-/
import Derived.Test.YtaagfaidjihjcaaM8j
import Derived.Test.YtaagfaidjihjcaaB6f
namespace Go.Proofs.Ytaagfaidjihjcaa
open Go.RowKit Go.Sort
set_option linter.unusedVariables false

theorem good1 : Good F1 := ⟨by decide, by decide, rfl⟩

theorem aw8_give (w : World) : Calls Try.prog 11 #[.agg ctZ, .agg #[.int .u32 1, .bool false, .bool false, .int .u8 0, .slice none 0 0]] w fun e w' => ∃ s', e = .returned (.tuple #[.agg (ctA (giC F1) s'), .int .i64 0]) ∧
    CtO w.heap.size w' (giC F1) s' ∧ Below w.heap.size w w' :=
  give_yes w c0 sl0 F1 good1 none 0 (CtO.zero 0 w).r (RL.nil _ _ _ _) rfl (by simp [c0]) (by simp [c0, s0])

theorem aw8_drive0 (w : World) : Calls Try.prog 13 #[.agg ctZ] w fun e w' => e = .returned (.bool true) ∧ Below w.heap.size w w' :=
  drive_any w c0 sl0 (CtO.zero 0 w).r (by decide) (fun e => by cases e)
theorem aw8_drive1 (w : World) (s : Sl) (h : CtR w (giC F1) s) : Calls Try.prog 13 #[.agg (ctA (giC F1) s)] w fun e w' => e = .returned (.bool false) ∧ Below w.heap.size w w' :=
  drive_any w (giC F1) s h (by decide) (fun e => by cases e)

theorem aw8_hears_a (w : World) (s : Sl) (h : CtO 0 w (giC F1) s) : Calls Try.prog 26 #[.agg (ctA (giC F1) s), .int .i64 47, .bool false] w fun e w' => ∃ A s', e = .returned (.tuple #[.agg (ctA A s'), .int .u8 1]) ∧ Hid (A.ph = 7 ∧ A.has = false) ∧ Below w.heap.size w w' :=
  (hears_any w (giC F1) s 47 false h (fun k hk => ok_of (range_all aw8_a k hk)) (by omega)).mono fun e w' ⟨s', h1, h2⟩ => ⟨_, s', by rw [h1, aw8_c.1]; rfl, aw8_c.2, h2⟩
theorem aw8_hears_b (w : World) (s : Sl) (h : CtO 0 w (giC F1) s) : Calls Try.prog 26 #[.agg (ctA (giC F1) s), .int .i64 39, .bool true] w fun e w' => ∃ A s', e = .returned (.tuple #[.agg (ctA A s'), .int .u8 7]) ∧ Hid (A.ph = 2 ∧ A.has = true ∧ A.cf.t = 8) ∧ Below w.heap.size w w' :=
  (hears_any w (giC F1) s 39 true h (fun k hk => ok_of (range_all aw8_b k hk)) (by omega)).mono fun e w' ⟨s', h1, h2⟩ => ⟨_, s', by rw [h1, aw8_d.1]; rfl, aw8_d.2, h2⟩

set_option maxRecDepth 100000 in
set_option maxHeartbeats 4000000 in
theorem awake8_any (w : World) : Calls Try.prog 12 #[] w fun e w' => e = .returned (.bool true) ∧ Below w.heap.size w w' := by
  have g0 := bnew0 w (.cells #[.int .u32 1, .bool false, .bool false, .int .u8 0, .slice none 0 0] 25)
  have hf0 := heap_alloc_new w (.cells #[.int .u32 1, .bool false, .bool false, .int .u8 0, .slice none 0 0] 25)
  go_enter Try.func12, Try.ntmps12
  go_upto_region 4 with (first
    | (go_at_call 10; (with_reducible refine (aw_wire _).mono ?_); rintro e w1 ⟨a1, c1, rfl, o1, g1⟩; have hf1 := bx_below hf0 g1; have gg1 := bstep g0 g1; have kf := bx5 hf1; obtain ⟨k0, k1, k2, k3, k4⟩ := kf)
    | (go_at_call 11; (with_reducible refine (aw8_give _).mono ?_); rintro e w2 ⟨s2, rfl, o2, g2⟩; have gg2 := bstep gg1 g2; have hz2 := heap_alloc_new w2 (.cells ctZ 37))
    | (with_reducible refine wpList_storeR rowC rfl _ _ rfl _ _ rfl rfl hz2 rfl rfl (ct_ones _ _) ?_))
  clear k0 k1 k2 k3 k4 hf0 hf1 g0 g1 gg1 o1
  have C3 : Cb ((w2.alloc (.cells ctZ 37)).setRow w2.heap.size (ctA (giC F1) s2)) w2.heap.size (giC F1) s2 := Cb.put (c := c0) (s := sl0) hz2 (o2.alloc _) (o2.fresh (Nat.le_refl _))
  have g3 : Below w.heap.size w ((w2.alloc (.cells ctZ 37)).setRow w2.heap.size (ctA (giC F1) s2)) := below_setRow (bnew gg2 _) gg2.size _
  generalize (w2.alloc (.cells ctZ 37)).setRow w2.heap.size (ctA (giC F1) s2) = w3 at *
  have hb3 := C3.box
  go_upto_region 10 with (first
    | (with_reducible refine wpList_loadR rowC rfl _ rfl _ rfl hb3 rfl ?_)
    | (with_reducible refine wpList_loadW rowC (by simp [Region.wanted, yielded]) _ rfl _ rfl hb3 rfl ?_)
    | (go_at_call 13; (with_reducible refine (aw8_drive1 _ _ C3.r).mono ?_); rintro e w4 ⟨rfl, g4⟩; have C4 := C3.below g4; have gg4 := bstep g3 g4)
    | (go_at_call 13; (with_reducible refine (aw8_drive0 _).mono ?_); rintro e w5 ⟨rfl, g5⟩; have C5 := C4.below g5; have gg5 := bstep gg4 g5; have hb5 := C5.box)
    | (with_reducible refine wpList_loadR rowC rfl _ rfl _ rfl hb5 rfl ?_)
    | (go_at_call 26; (with_reducible refine (aw8_hears_a _ _ C5.o).mono ?_); rintro e w6 ⟨A, s6, rfl, HA, g6⟩; have C6 := C5.below g6; have gg6 := bstep gg5 g6; have hz6 := heap_alloc_new w6 (.cells ctZ 37)
       have hA7 : ((w6.alloc (.cells ctZ 37)).setRow w6.heap.size (ctA A s6)).heap[w6.heap.size]? = some (.cells (ctA A s6) 37 (0, 0)) := setRow_heap _ _ _ _ _ _ hz6
       have C7 : Cb ((w6.alloc (.cells ctZ 37)).setRow w6.heap.size (ctA A s6)) w2.heap.size (giC F1) s2 := (C6.alloc _).other (by have := C6.lt; omega) (C6.o.fresh (Nat.le_refl _)) _
       have gg7 : Below w.heap.size w ((w6.alloc (.cells ctZ 37)).setRow w6.heap.size (ctA A s6)) := below_setRow (bnew gg6 _) gg6.size _
       have hb7 := C7.box)
    | (with_reducible refine wpList_storeR rowC rfl _ _ rfl _ _ rfl rfl hz6 rfl rfl (ct_ones _ _) ?_)
    | (with_reducible refine wpList_loadR rowC rfl _ rfl _ rfl hb7 rfl ?_)
    | (go_at_call 26; (with_reducible refine (aw8_hears_b _ _ C7.o).mono ?_); rintro e w8 ⟨D, s8, rfl, HD, g8⟩; have hA8 := bx_below hA7 g8; have gg8 := bstep gg7 g8; have hz8 := heap_alloc_new w8 (.cells ctZ 37))
    | (with_reducible refine wpList_storeR rowC rfl _ _ rfl _ _ rfl rfl hz8 rfl rfl (ct_ones _ _) ?_))
  have n8 : w6.heap.size ≠ w8.heap.size := by have := bx_lt hA8; omega
  have hA9 := (setRow_other (w8.alloc (.cells ctZ 37)) w8.heap.size w6.heap.size (ctA D s8) n8).trans (bx_alloc _ hA8)
  have hD9 : ((w8.alloc (.cells ctZ 37)).setRow w8.heap.size (ctA D s8)).heap[w8.heap.size]? = some (.cells (ctA D s8) 37 (0, 0)) := setRow_heap _ _ _ _ _ _ hz8
  have lg : w.heap.size ≤ w8.heap.size := gg8.size
  have gg9 : Below w.heap.size w ((w8.alloc (.cells ctZ 37)).setRow w8.heap.size (ctA D s8)) := below_setRow (bnew gg8 _) gg8.size _
  clear C3 C4 C5 C6 C7 hb3 hb5 hb7 hA7 hA8 hz2 hz6 hz8 g4 g5 g6 g8 gg2 gg4 gg5 gg6 gg7 gg8 g3
  have z9 : ((w8.alloc (.cells ctZ 37)).setRow w8.heap.size (ctA D s8)).heap.size = w8.heap.size + 1 := by simp
  change Code.wp _ _ _ _ ((((w8.alloc (.cells ctZ 37)).setRow w8.heap.size (ctA D s8)).alloc (.cells ctZ 37)).alloc (.cells hap0 44))
  generalize (w8.alloc (.cells ctZ 37)).setRow w8.heap.size (ctA D s8) = w9 at *
  have hcz : ((w9.alloc (.cells ctZ 37)).alloc (.cells hap0 44)).heap[w8.heap.size + 1]? = some (.cells ctZ 37 (0, 0)) := by
    rw [← z9]; exact bx_alloc _ (heap_alloc_new w9 _)
  have hhz : ((w9.alloc (.cells ctZ 37)).alloc (.cells hap0 44)).heap[w8.heap.size + 1 + 1]? = some (.cells hap0 44 (0, 0)) := by
    have := heap_alloc_new (w9.alloc (.cells ctZ 37)) (.cells hap0 44); rwa [heap_size_alloc, z9] at this
  have hA10 := bx_alloc (.cells hap0 44) (bx_alloc (.cells ctZ 37) hA9)
  have hD10 := bx_alloc (.cells hap0 44) (bx_alloc (.cells ctZ 37) hD9)
  have gg10 : Below w.heap.size w ((w9.alloc (.cells ctZ 37)).alloc (.cells hap0 44)) := bnew (bnew gg9 _) _
  have C10 : Cb ((w9.alloc (.cells ctZ 37)).alloc (.cells hap0 44)) (w8.heap.size + 1) c0 sl0 := ⟨hcz, CtO.zero _ _, nbs0 _⟩
  have lA : w6.heap.size < w9.heap.size := bx_lt hA9
  clear hA9 hD9 gg9 hcz
  go_wp2
  go_loopg [54] 6 (fun gn i wr => ∃ (k : Nat) (s : Sl) (a : Option Addr) (n : Nat), k ≤ 6 ∧ gn = 6 - k ∧ i = .int .i64 (k : Int) ∧ Cb wr (w8.heap.size + 1) (doL k).1 s ∧ NBs s (w8.heap.size + 1 + 1) ∧
    wr.heap[w8.heap.size + 1 + 1]? = some (.cells (hapA (doL k).2 a n) 44 (0, 0)) ∧ wr.heap[w6.heap.size]? = some (.cells (ctA A s6) 37 (0, 0)) ∧ wr.heap[w8.heap.size]? = some (.cells (ctA D s8) 37 (0, 0)) ∧ Below w.heap.size w wr)
  case atStart => exact ⟨0, sl0, none, 0, by omega, rfl, rfl, C10, nbs0 _, hhz, hA10, hD10, gg10⟩
  case round =>
    clear C10 hhz hA10 hD10 gg10
    obtain ⟨k, s, a, n, hk, rfl, rfl, hC, hN, hH, hA, hD, gg⟩ := hrel
    by_cases hlt : k < 6
    · have hok : StepOK (doL k).1 := ok_of (range_all aw8_e k hlt)
      have hS := fun (w1 : World) (h1 : CtR w1 (doL k).1 s) => step_any w1 (doL k).1 s false h1 hok
      have HX := hid (show doL (k + 1) = stC (doL k).1 false from rfl)
      generalize stC (doL k).1 false = r at hS HX
      generalize (doL k).1 = d at *
      have hC1 := hC.box
      go_wp2_with (first
        | (with_reducible refine wpList_loadR rowC rfl _ rfl _ rfl hC1 rfl ?_)
        | (go_at_call 15; (with_reducible refine (hS _ hC.r).mono ?_); rintro e w11 ⟨s11, a11, n11, rfl, o11, y11, g11⟩
           have hC2 := bx_below hC1 g11
           have hH2 := (setRow_other w11 (w8.heap.size + 1) (w8.heap.size + 1 + 1) (ctA r.1 s11) (by omega)).trans (bx_below hH g11)
           have gg11 := bstep gg g11)
        | (with_reducible refine wpList_storeR rowC rfl _ _ rfl _ _ rfl rfl hC2 rfl rfl (ct_ones _ _) ?_)
        | (with_reducible refine wpList_storeR rowH rfl _ _ rfl _ _ rfl rfl hH2 rfl rfl (hap_ones _ _ _) ?_))
      have lC := hC.lt
      have lH := bx_lt hH
      have C12 : Cb ((w11.setRow (w8.heap.size + 1) (ctA r.1 s11)).setRow (w8.heap.size + 1 + 1) (hapA r.2 a11 n11)) (w8.heap.size + 1) r.1 s11 := (Cb.put hC2 o11 (o11.nbs lC)).other (by omega) (o11.nbs lH) _
      have H12 := setRow_heap _ (w8.heap.size + 1 + 1) _ (hapA r.2 a11 n11) _ _ hH2
      have e12 : ∀ q, q ≠ w8.heap.size + 1 → q ≠ w8.heap.size + 1 + 1 → ((w11.setRow (w8.heap.size + 1) (ctA r.1 s11)).setRow (w8.heap.size + 1 + 1) (hapA r.2 a11 n11)).heap[q]? = w11.heap[q]? := fun q h1 h2 => (setRow_other _ _ _ _ h2).trans (setRow_other _ _ _ _ h1)
      have A12 := (e12 w6.heap.size (by omega) (by omega)).trans (bx_below hA g11)
      have D12 := (e12 w8.heap.size (by omega) (by omega)).trans (bx_below hD g11)
      have g12 : Below w.heap.size w ((w11.setRow (w8.heap.size + 1) (ctA r.1 s11)).setRow (w8.heap.size + 1 + 1) (hapA r.2 a11 n11)) := below_setRow (below_setRow gg11 (by omega) _) (by omega) _
      have N12 := o11.nbs lH
      clear hS hC hN hH hA hD gg hC1 o11 y11 g11 hC2 hH2 gg11 e12
      go_roundg (6 - (k + 1))
      case measure => go_light; omega
      case rel => go_light; exact ⟨k + 1, s11, a11, n11, by omega, rfl, by go_num, by rw [HX.out]; exact C12, N12, by rw [HX.out]; exact H12, A12, D12, g12⟩
    · obtain rfl : k = 6 := by omega
      have x3 : wr.cell? ⟨w8.heap.size + 1, 3, none⟩ = some (.int .i64 1) := (bxC hC.box 3).trans (by show some (Value.int .i64 (doL 6).1.cf.r) = _; rw [aw8_f.2])
      have x0 : wr.cell? ⟨w8.heap.size + 1 + 1, 0, none⟩ = some (.int .u8 5) := (cell_of_row _ _ 0 _ _ _ hH).trans (by show some (Value.int .u8 ((doL 6).2.1 : Int)) = _; rw [aw8_f.1]; rfl)
      have y0 : wr.cell? ⟨w6.heap.size, 0, none⟩ = some (.int .u8 7) := (bxC hA 0).trans (by show some (Value.int .u8 (A.ph : Int)) = _; rw [HA.out.1]; rfl)
      have y7 : wr.cell? ⟨w6.heap.size, 7, none⟩ = some (.bool false) := (bxC hA 7).trans (by show some (Value.bool A.has) = _; rw [HA.out.2])
      have z0 : wr.cell? ⟨w8.heap.size, 0, none⟩ = some (.int .u8 2) := (bxC hD 0).trans (by show some (Value.int .u8 (D.ph : Int)) = _; rw [HD.out.1]; rfl)
      have z7 : wr.cell? ⟨w8.heap.size, 7, none⟩ = some (.bool true) := (bxC hD 7).trans (by show some (Value.bool D.has) = _; rw [HD.out.2.1])
      have z2 : wr.cell? ⟨w8.heap.size, 2, none⟩ = some (.int .i64 8) := (bxC hD 2).trans (by show some (Value.int .i64 D.cf.t) = _; rw [HD.out.2.2])
      clear hC hH hA hD hN lA lg
      go_wp2
      go_ret
      exact ⟨rfl, gg⟩
end Go.Proofs.Ytaagfaidjihjcaa
