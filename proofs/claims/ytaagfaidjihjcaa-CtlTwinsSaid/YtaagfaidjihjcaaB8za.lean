/-
  Laws for calls in a region that draws its order; the statement CtlOverload's own function (run).
-/
import Derived.Test.YtaagfaidjihjcaaB8z
namespace Go.Proofs.Ytaagfaidjihjcaa
open Go.RowKit Go.Sort
set_option linter.unusedVariables false


theorem plain_step : plainFn 15 = true := by kernel_rfl

/-- A controller behind so many bits of one kind, and what happened last. -/
def ruC (c : Ct) (x : Bool) : Nat → Ct × Nat
  | 0 => (c, 0)
  | n + 1 => ((stC (ruC c x n).1 x).1, (stC (ruC c x n).1 x).2.1)

set_option maxRecDepth 100000 in
set_option maxHeartbeats 4000000 in
theorem run_any (w : World) (pa : Nat) (c : Ct) (s : Sl) (n : Nat) (x : Bool) (h : Cb w pa c s) (hok : ∀ k, k < n → StepOK (ruC c x k).1) (hn : n ≤ 1000000) :
    Calls Try.prog 20 #[.bool x, .int .i64 (n : Int), .pointer (some ⟨pa, 0, none⟩)] w fun e w' => e = .returned (.int .u8 ((ruC c x n).2 : Int)) ∧ (∃ s', Cb w' pa (ruC c x n).1 s') ∧ Wr pa w w' := by
  have g0 := Wr.refl pa w
  go_enter Try.func20, Try.ntmps20
  go_wp2
  go_loopg [6, 10] n (fun gn s6 i wr => ∃ (k : Nat) (sk : Sl), k ≤ n ∧ gn = n - k ∧ i = .int .i64 (k : Int) ∧ s6 = .int .u8 ((ruC c x k).2 : Int) ∧ Cb wr pa (ruC c x k).1 sk ∧ Wr pa w wr)
  case atStart => exact ⟨0, s, by omega, by omega, rfl, rfl, h, g0⟩
  case round =>
    obtain ⟨k, sk, hk, rfl, rfl, rfl, hC, gg⟩ := hrel
    clear h g0
    by_cases hlt : k < n
    rotate_left
    · obtain rfl : k = n := by omega
      clear hlt
      go_wp2
      go_ret
      exact ⟨rfl, ⟨sk, hC⟩, gg⟩
    · have hk1 := hok k hlt
      have hnext : ruC c x (k + 1) = ((stC (ruC c x k).1 x).1, (stC (ruC c x k).1 x).2.1) := rfl
      obtain ⟨d, hd⟩ : ∃ d, d = (ruC c x k).1 := ⟨_, rfl⟩
      rw [← hd] at hC hk1 hnext
      have hS := fun (w1 : World) (h1 : CtR w1 d sk) => step_any w1 d sk x h1 hk1
      have HX := hid hnext
      generalize stC d x = r at hS HX
      clear hd hnext hok hk1
      have hC4b := hC.box
      have hr4 := hC.r
      go_upto_region 5 with (first
        | (with_reducible refine wpList_loadR rowC rfl _ rfl _ rfl hC4b rfl ?_)
        | (go_at_call 15; (with_reducible refine (hS _ hr4).mono ?_); rintro e w5 ⟨s5, a5, n5, rfl, o5, y5, g5⟩; have T := two8 w5 r s5 a5 n5; obtain ⟨tz, tz1, th1, tc2, th2, tb⟩ := T; have hC5 := hC.below g5)
        | (with_reducible refine wpList_storeR rowC rfl _ _ rfl _ _ rfl rfl tz1 rfl rfl (ct_ones _ _) ?_)
        | (with_reducible refine wpList_storeR rowH rfl _ _ rfl _ _ rfl rfl th1 rfl rfl (hap_ones _ _ _) ?_))
      have C7 := hC5.below tb
      have hb7 := C7.box
      have gg7 := (gg.call g5).call tb
      have o7 := o5.below tb
      have hc7 := tc2
      have z4 := hC.lt
      have z5 := g5.size
      clear tz tz1 th1 tc2 hC5 o5 y5 g5 hC gg hC4b hr4 hS C7
      have qh := cell_of_row _ _ 0 _ _ _ th2
      have tb2 := tb.size
      clear tb
      change Code.wp _ _ _ _ ((((w5.alloc (.cells ctZ 37)).alloc (.cells hap0 44)).setRow w5.heap.size (ctA r.1 s5)).setRow (w5.heap.size + 1) (hapA r.2 a5 n5))
      generalize ((((w5.alloc (.cells ctZ 37)).alloc (.cells hap0 44)).setRow w5.heap.size (ctA r.1 s5)).setRow (w5.heap.size + 1) (hapA r.2 a5 n5)) = W at *
      have qh : W.drew.cell? ⟨w5.heap.size + 1, 0, none⟩ = some (.int .u8 (r.2.1 : Int)) := qh
      have qh2 : (W.drew.setRow pa (ctA r.1 s5)).cell? ⟨w5.heap.size + 1, 0, none⟩ = some (.int .u8 (r.2.1 : Int)) := (cell_setRow_other _ _ _ _ (by show w5.heap.size + 1 ≠ pa; omega)).trans qh
      have C8 : Cb (W.drew.setRow pa (ctA r.1 s5)) pa r.1 s5 := Cb.put (w := W.drew) hb7 ⟨o7.da, o7.wi, o7.ti⟩ (o7.nbs z4)
      have g8 : Wr pa w (W.drew.setRow pa (ctA r.1 s5)) := (Wr.drew gg7).setRow (.inl rfl) _
      clear gg7 o7 th2
      refine wp_region_any (by kernel_rfl) ?_
      change wpAny _ _ _ _ _ _ _ W.drew
      refine wpAny_take (i := 1) (v := .pointer (some ⟨w5.heap.size + 1, 0, none⟩)) rfl (by kernel_rfl) (by kernel_rfl) (by kernel_rfl) (fun _ _ _ h => h) (Or.inl ⟨by rfl, ?_⟩) ?_
      · intro w; go_simp
      refine wpAny_ready (rs := [0, 2]) (by kernel_rfl) (by simp) ?_
      refine AllReady.cons rfl (fun K hK => ?_) (AllReady.cons rfl (fun K hK => ?_) AllReady.nil)
      · refine draw_loadR rowC rfl _ rfl w5.heap.size rfl (w := W.drew) hc7 rfl ?_
        refine hK _ _ ?_; clear hK K
        refine wpAny_ready (rs := [2, 3]) (by kernel_rfl) (by simp) ?_
        refine AllReady.cons rfl (fun K hK => ?_) (AllReady.cons rfl (fun K hK => ?_) AllReady.nil)
        · go_simp
          refine hK _ _ ?_; clear hK K
          refine wpAny_ready (rs := [3]) (by kernel_rfl) (by simp) ?_
          refine AllReady.cons rfl (fun K hK => ?_) AllReady.nil
          refine draw_storeR rowC rfl _ _ rfl pa _ rfl rfl (w := W.drew) hb7 rfl rfl (ct_ones _ _) ?_
          refine hK _ _ ?_; clear hK K
          refine wpAny_ready (rs := [4]) (by kernel_rfl) (by simp) ?_
          refine AllReady.cons rfl (fun K hK => ?_) AllReady.nil
          go_simp
          refine hK _ _ ?_; clear hK K
          refine wpAny_done (by kernel_rfl) ?_ _
          go_wp2
          go_roundg (n - (k + 1))
          case measure => go_light; omega
          case rel => go_light; exact ⟨k + 1, s5, by omega, rfl, by go_num, by rw [HX.out], by rw [HX.out]; exact C8, g8⟩
        · refine draw_storeR rowC rfl _ _ rfl pa _ rfl rfl (w := W.drew) hb7 rfl rfl (ct_ones _ _) ?_
          refine hK _ _ ?_; clear hK K
          refine wpAny_ready (rs := [2]) (by kernel_rfl) (by simp) ?_
          refine AllReady.cons rfl (fun K hK => ?_) AllReady.nil
          go_simp
          refine hK _ _ ?_; clear hK K
          refine wpAny_ready (rs := [4]) (by kernel_rfl) (by simp) ?_
          refine AllReady.cons rfl (fun K hK => ?_) AllReady.nil
          go_simp
          refine hK _ _ ?_; clear hK K
          refine wpAny_done (by kernel_rfl) ?_ _
          go_wp2
          go_roundg (n - (k + 1))
          case measure => go_light; omega
          case rel => go_light; exact ⟨k + 1, s5, by omega, rfl, by go_num, by rw [HX.out], by rw [HX.out]; exact C8, g8⟩
      · go_simp
        refine hK _ _ ?_; clear hK K
        refine wpAny_ready (rs := [0]) (by kernel_rfl) (by simp) ?_
        refine AllReady.cons rfl (fun K hK => ?_) AllReady.nil
        refine draw_loadR rowC rfl _ rfl w5.heap.size rfl (w := W.drew) hc7 rfl ?_
        refine hK _ _ ?_; clear hK K
        refine wpAny_ready (rs := [3]) (by kernel_rfl) (by simp) ?_
        refine AllReady.cons rfl (fun K hK => ?_) AllReady.nil
        refine draw_storeR rowC rfl _ _ rfl pa _ rfl rfl (w := W.drew) hb7 rfl rfl (ct_ones _ _) ?_
        refine hK _ _ ?_; clear hK K
        refine wpAny_ready (rs := [4]) (by kernel_rfl) (by simp) ?_
        refine AllReady.cons rfl (fun K hK => ?_) AllReady.nil
        go_simp
        refine hK _ _ ?_; clear hK K
        refine wpAny_done (by kernel_rfl) ?_ _
        go_wp2
        go_roundg (n - (k + 1))
        case measure => go_light; omega
        case rel => go_light; exact ⟨k + 1, s5, by omega, rfl, by go_num, by rw [HX.out], by rw [HX.out]; exact C8, g8⟩
end Go.Proofs.Ytaagfaidjihjcaa
