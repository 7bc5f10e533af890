/-
  Contracts: the best of those that wait (slices.MinFunc); find, made, first.
  Contracts: find, made, first.
  Contracts: one of those that wait is struck (slices.Delete, remove).
-/
import Derived.Test.YtffbkcjkmhjfnaaB10d
import Derived.LaidEqlPtr
import Derived.Deep.RegionLaw
import Derived.Lib.SliceRun
namespace Go.Proofs.Ytffbkcjkmhjfnaa
open Go.RowKit Go.Sort
set_option linter.unusedVariables false

theorem rg6r {w : World} {b o : Nat} {p : Wt} (h : w.rangeAt b o (enW p)) :
    (∀ d os, (grow (redrawn w d) os).cell? ⟨b, o, none⟩ = some (.int .u32 (p.1.1.id : Int))) ∧ (∀ d os, (grow (redrawn w d) os).cell? ⟨b, o + 1, none⟩ = some (.bool p.1.1.ext)) ∧ (∀ d os, (grow (redrawn w d) os).cell? ⟨b, o + 2, none⟩ = some (.bool p.1.1.rem)) ∧
    (∀ d os, (grow (redrawn w d) os).cell? ⟨b, o + 3, none⟩ = some (.int .u8 (p.1.1.dlc : Int))) ∧ (∀ d os, (grow (redrawn w d) os).cell? ⟨b, o + 4, none⟩ = some (.slice p.1.2.1 p.1.1.data.length p.1.2.2)) ∧ (∀ d os, (grow (redrawn w d) os).cell? ⟨b, o + 5, none⟩ = some (.int .i64 (p.2 : Int))) := by
  have k0 := h 0 _ rfl
  rw [Nat.add_zero] at k0
  exact ⟨fun d os => cell_regrown k0 d os, fun d os => cell_regrown (h 1 _ rfl) d os, fun d os => cell_regrown (h 2 _ rfl) d os, fun d os => cell_regrown (h 3 _ rfl) d os, fun d os => cell_regrown (h 4 _ rfl) d os, fun d os => cell_regrown (h 5 _ rfl) d os⟩

theorem cmpV_lt {a b : Nat} (h : a < b) : cmpV a b < 0 := by unfold cmpV; rw [if_pos h]; omega
theorem cmpV_ge {a b : Nat} (h : ¬ a < b) : ¬ cmpV a b < 0 := by unfold cmpV; rw [if_neg h]; split <;> omega

set_option maxRecDepth 100000 in
set_option maxHeartbeats 4000000 in
theorem minFunc_any (w : World) (a : Option Addr) (n c : Nat) (hd : Wt) (tl : List Wt) (h : RK enW 6 w a n c (hd :: tl)) (hn : n ≤ 100000) (hid' : ∀ p ∈ hd :: tl, p.1.1.id < 4294967296) :
    Calls Try.prog 37 #[.slice a n c, .func (.func 38) #[] #[]] w fun e w' => e = .returned (.agg (wtV (miW tl hd))) ∧ Below w.heap.size w w' := by
  have HL := hid h.len
  have HI := hid hid'; clear hid'
  have hn1 : 1 ≤ n := by rw [← HL.out]; simp
  obtain ⟨R, hR⟩ : ∃ R, R = miW tl hd := ⟨_, rfl⟩
  rw [← hR]
  have HR := hid hR; clear hR
  have z0 : ((w.alloc (.cells wtZ 65)).alloc (.cells wtZ 65)).heap.size = w.heap.size + 2 := by simp
  have b1 : ((w.alloc (.cells wtZ 65)).alloc (.cells wtZ 65)).heap[w.heap.size]? = some (.cells wtZ 65 (0, 0)) := bx_alloc _ (heap_alloc_new w _)
  have b2 : ((w.alloc (.cells wtZ 65)).alloc (.cells wtZ 65)).heap[w.heap.size + 1]? = some (.cells wtZ 65 (0, 0)) := by
    have := heap_alloc_new (w.alloc (.cells wtZ 65)) (.cells wtZ 65); rwa [heap_size_alloc] at this
  obtain ⟨gb0, off0, ha0, hgb0, hr0⟩ := (h.below (bnew0 w (.cells wtZ 65))).range (i := 0) (x := hd) (by simp)
  rw [Nat.zero_mul, Nat.add_zero] at hr0
  subst ha0
  go_enter Try.func37, Try.ntmps37
  go_wp2_with (first
    | (with_reducible refine wpList_loadM rowW rfl _ rfl _ _ rfl (wtV hd) hr0 rfl ?_)
    | (with_reducible refine wpList_storeR rowW rfl _ _ rfl _ _ rfl rfl b2 rfl rfl (wt_ones _) ?_))
  have b3 := setRow_heap _ _ _ (wtV hd) _ _ b2
  have b4 := (setRow_other _ (w.heap.size + 1) w.heap.size (wtV hd) (by omega)).trans b1
  have gg : Below w.heap.size w (((w.alloc (.cells wtZ 65)).alloc (.cells wtZ 65)).setRow (w.heap.size + 1) (wtV hd)) := below_setRow (bnew (bnew0 w _) _) (by omega) _
  clear hr0 hgb0 b1 b2 z0
  go_loopg [6] (n - 1) (fun gn vi wr => ∃ (k : Nat) (p : Wt), 1 ≤ k ∧ k ≤ n ∧ gn = n - k ∧ vi = .int .i64 (k : Int) ∧ Hid (miW ((hd :: tl).drop k) p = R) ∧ p.1.1.id < 4294967296 ∧ wr.heap[w.heap.size + 1]? = some (.cells (wtV p) 65 (0, 0)) ∧ wr.heap[w.heap.size]? = some (.cells wtZ 65 (0, 0)) ∧ Below w.heap.size w wr)
  case atStart => exact ⟨1, hd, by omega, by omega, by omega, rfl, HR.out.symm, HI.out hd (by simp), b3, b4, gg⟩
  case round =>
    obtain ⟨k, p, hk1, hk, rfl, rfl, HM, hpi, c1, c2, hb⟩ := hrel
    clear b3 b4 gg
    by_cases hlt : k < n
    · obtain ⟨x, hx⟩ : ∃ x, (hd :: tl)[k]? = some x := ⟨(hd :: tl)[k]'(by rw [HL.out]; exact hlt), by simp⟩
      obtain ⟨gb, off, ha, hgb, hr⟩ := (h.below hb).range hx
      simp only [Option.some.injEq, Addr.mk.injEq, and_true] at ha
      obtain ⟨rfl, rfl⟩ := ha
      have hxi : x.1.1.id < 4294967296 := HI.out x (List.mem_of_getElem? hx)
      have hdr : (hd :: tl).drop k = x :: (hd :: tl).drop (k + 1) := by
        have := List.getElem?_eq_some_iff.1 hx
        rw [← this.2]; exact List.drop_eq_getElem_cons this.1
      have HX := hid hx; clear hx
      obtain ⟨x0, x1, x2, x3, x4, x5⟩ := rg6r hr
      obtain ⟨y0, y1, y2, y3, y4, y5⟩ := bx6r c1
      have kC : ∀ d os, Calls Try.prog 38 #[.agg (wtV x), .agg (wtV p)] (grow (redrawn wr d) os) fun e w'' => e = .returned (.int .i64 (cmpV (kyW x) (kyW p))) ∧ ∃ r : Regrown, w'' = grow (redrawn wr r.d) r.os := fun d os =>
        Calls.regrown_of (compare_any _ x p hxi hpi)
      by_cases hc : kyW x < kyW p
      · have hcv := cmpV_lt hc
        have HM2 : Hid (miW ((hd :: tl).drop (k + 1)) x = R) := by
          have := HM.out; rw [hdr] at this; unfold miW at this; rw [if_pos hc] at this; exact this
        clear hc hdr HM
        generalize cmpV (kyW x) (kyW p) = cv at *
        go_wp2
        refine wp_region_quiet_below (by kernel_rfl) (by kernel_rfl) ?_
        repeat (go_big_quiet_step (first | (go_at_call 38; with_reducible exact kC _ _)))
        refine wpQuiet_nil ?_
        intro w9 hw9
        have g9 : Below wr.heap.size wr w9 := by obtain ⟨p9, rfl⟩ := hw9; exact below_regrown _ _ _
        clear hw9 kC x0 x1 x2 x3 x4 x5 y0 y1 y2 y3 y4 y5
        have hr9 : w9.rangeAt gb0 (off0 + k * 6) (enW x) := fun j v hj => (g9.cell (p := ⟨gb0, _, none⟩) hgb).trans (hr j v hj)
        have d1 := bx_below c1 g9
        have d2 := bx_below c2 g9
        go_wp2_with (first
          | (with_reducible refine wpList_loadM rowW rfl _ rfl _ _ rfl (wtV x) hr9 rfl ?_)
          | (with_reducible refine wpList_storeR rowW rfl _ _ rfl _ _ rfl rfl d1 rfl rfl (wt_ones _) ?_))
        go_roundg (n - (k + 1))
        case measure => omega
        case rel => exact ⟨k + 1, x, by omega, by omega, rfl, by go_num, HM2, hxi, setRow_heap _ _ _ _ _ _ d1, (setRow_other _ _ _ _ (by omega)).trans d2, below_setRow (bstep hb g9) (by omega) _⟩
      · have hcv := cmpV_ge hc
        have HM2 : Hid (miW ((hd :: tl).drop (k + 1)) p = R) := by
          have := HM.out; rw [hdr] at this; unfold miW at this; rw [if_neg hc] at this; exact this
        clear hc hdr HM
        have hcv' : decide (cmpV (kyW x) (kyW p) < 0) = false := decide_eq_false hcv
        clear hcv
        generalize cmpV (kyW x) (kyW p) = cv at *
        go_wp2
        refine wp_region_quiet_below (by kernel_rfl) (by kernel_rfl) ?_
        repeat (go_big_quiet_step (first | (go_at_call 38; with_reducible exact kC _ _)))
        refine wpQuiet_nil ?_
        intro w9 hw9
        have g9 : Below wr.heap.size wr w9 := by obtain ⟨p9, rfl⟩ := hw9; exact below_regrown _ _ _
        clear hw9 kC x0 x1 x2 x3 x4 x5 y0 y1 y2 y3 y4 y5
        have d1 := bx_below c1 g9
        have d2 := bx_below c2 g9
        go_wp2
        go_roundg (n - (k + 1))
        case measure => omega
        case rel => exact ⟨k + 1, p, by omega, by omega, rfl, by go_num, HM2, hpi, d1, d2, bstep hb g9⟩
    · obtain rfl : k = n := by omega
      have hRp : R = p := by
        have := HM.out; rw [List.drop_eq_nil_of_le (by rw [HL.out]; exact Nat.le_refl _)] at this; exact this.symm
      subst hRp
      clear HM
      go_wp2_with (first
        | (with_reducible refine wpList_loadR rowW rfl _ rfl _ rfl c1 rfl ?_)
        | (with_reducible refine wpList_storeR rowW rfl _ _ rfl _ _ rfl rfl c2 rfl rfl (wt_ones _) ?_))
      exact bodyPost_ret (v := .agg (wtV R)) (results_row rowW rfl _ _ _ rfl (setRow_heap _ _ _ _ _ _ c2) rfl) rfl ⟨rfl, below_setRow hb (Nat.le_refl _) _⟩

end Go.Proofs.Ytffbkcjkmhjfnaa

namespace Go.Proofs.Ytffbkcjkmhjfnaa
open Go.RowKit Go.Sort
set_option linter.unusedVariables false

theorem mfind_any {B : Nat} {w : World} {g : Nat} {m : Ml} {a : Option Addr} {c : Nat} {S : Nat → Prop} (h : MlO B w g m a c S) (N : Int) :
    Calls Try.prog 31 #[.pointer (some ⟨g, 0, none⟩), .int .i64 N] w fun e w' => e = .returned (.int .i64 (fiW N m.ws)) ∧ Below w.heap.size w w' := by
  have h0 := h.alloc (.cells #[.int .i64 N] 3)
  have q3 := (bx6 h0.box).2.2.2.1
  have hx : (w.alloc (.cells #[.int .i64 N] 3)).cell? ⟨w.heap.size, 0, none⟩ = some (.int .i64 N) := by rw [cell_of_row _ _ 0 _ _ _ (heap_alloc_new w _)]; rfl
  have hn : m.ws.length ≤ 100000 := by have := h.rm; have := h.le; omega
  have hrow := h0.row.rk enW_k
  clear h0
  go_enter Try.func31, Try.ntmps31
  go_wp2_with (go_at_call 40; (with_reducible refine (mlIndex_any _ _ _ _ _ _ _ hrow hn (by simp) hx).mono ?_); rintro e w1 ⟨rfl, g1⟩)
  go_ret
  exact ⟨rfl, (bnew0 w _).trans (g1.mono (by simp))⟩

theorem eqMl (w : World) (g : Nat) : (binOp .eql 23 (.pointer (some ⟨g, 0, none⟩)) (.pointer (some ⟨g, 0, none⟩))).run Try.prog w = .ok (.bool true) w := by
  obtain ⟨j, hj⟩ := Option.isSome_iff_exists.1 (show (Try.prog.info? 49).isSome = true by kernel_rfl)
  exact run_eql_ptr_same w _ (by kernel_rfl) hj

set_option maxRecDepth 100000 in
theorem mlMade_any {B : Nat} {w : World} {g : Nat} {m : Ml} {a : Option Addr} {c : Nat} {S : Nat → Prop} (h : MlO B w g m a c S) :
    Calls Try.prog 27 #[.pointer (some ⟨g, 0, none⟩)] w fun e w' => e = .returned (.bool true) ∧ w = w' := by
  have q0 := (bx6 h.box).1
  have qe := fun w => eqMl w g
  go_enter Try.func27, Try.ntmps27
  go_wp2
  go_ret
  exact ⟨rfl, rfl⟩

theorem find_fi {ws : List Wt} {W : Nat} {p : Wt} (hpe : ws.find? (fun q => decide (q.2 = W)) = some p) : ∃ k : Nat, ws[k]? = some p ∧ p.2 = W ∧ fiW (W : Int) ws = (k : Int) := by
  rcases fiW_or (W : Int) ws with ⟨_, h2⟩ | ⟨k, q, h1, h2, h3, h4⟩
  · have := List.find?_some hpe
    have h5 := h2 p (List.mem_of_find?_eq_some hpe)
    simp at this; omega
  · have e : p = q := by
      obtain ⟨h6, l1, l2, h7, h8⟩ := List.find?_eq_some_iff_append.1 hpe
      have hk : k = l1.length := by
        rcases Nat.lt_trichotomy k l1.length with hlt | he | hgt
        · rw [h7, List.getElem?_append_left hlt] at h1
          have := h8 q (List.mem_of_getElem? h1)
          simp at this; omega
        · exact he
        · have := h4 l1.length p hgt (by rw [h7]; simp)
          simp at h6; omega
      rw [hk, h7] at h1
      simpa using h1
    subst e
    exact ⟨k, h1, by omega, h3⟩

/-- A box of six cells, all stored. -/
theorem set6_same {w1 : World} {g : Nat} {T : TypeId} {u0 u1 u2 u3 u4 u5 : Value} (h : w1.heap[g]? = some (.cells #[u0, u1, u2, u3, u4, u5] T (0, 0))) (v0 v1 v2 v3 v4 v5 : Value) :
    ((((((w1.setCell ⟨g, 0, none⟩ v0).setCell ⟨g, 1, none⟩ v1).setCell ⟨g, 2, none⟩ v2).setCell ⟨g, 3, none⟩ v3).setCell ⟨g, 4, none⟩ v4).setCell ⟨g, 5, none⟩ v5).heap[g]? = some (.cells #[v0, v1, v2, v3, v4, v5] T (0, 0)) :=
  heap_setCell_same _ g 5 _ _ _ (heap_setCell_same _ g 4 _ _ _ (heap_setCell_same _ g 3 _ _ _ (heap_setCell_same _ g 2 _ _ _ (heap_setCell_same _ g 1 _ _ _ (heap_setCell_same _ g 0 _ _ _ h)))))
theorem set6_below {B : Nat} {w w1 : World} {g : Nat} (h : Below B w w1) (hg : B ≤ g) (v0 v1 v2 v3 v4 v5 : Value) :
    Below B w ((((((w1.setCell ⟨g, 0, none⟩ v0).setCell ⟨g, 1, none⟩ v1).setCell ⟨g, 2, none⟩ v2).setCell ⟨g, 3, none⟩ v3).setCell ⟨g, 4, none⟩ v4).setCell ⟨g, 5, none⟩ v5) :=
  (((((h.setCell hg _).setCell hg _).setCell hg _).setCell hg _).setCell hg _).setCell hg _

/-- What a region that looks for one of those that wait reads. -/
theorem heldM {B : Nat} {w w' : World} {g : Nat} {m : Ml} {a : Option Addr} {c : Nat} {S : Nat → Prop} {b o : Nat} {p : Wt} (h : MlO B w g m a c S) (hb : b < w.heap.size) (hr : w.rangeAt b o (enW p)) (k : Below w.heap.size w w') :
    w'.cell? ⟨g, 3, none⟩ = some (.slice a m.ws.length c) ∧ w'.cell? ⟨g, 4, none⟩ = some (.int .i64 (m.wire : Int)) ∧
    w'.cell? ⟨b, o, none⟩ = some (.int .u32 (p.1.1.id : Int)) ∧ w'.cell? ⟨b, o + 1, none⟩ = some (.bool p.1.1.ext) ∧ w'.cell? ⟨b, o + 2, none⟩ = some (.bool p.1.1.rem) ∧ w'.cell? ⟨b, o + 3, none⟩ = some (.int .u8 (p.1.1.dlc : Int)) ∧ w'.cell? ⟨b, o + 4, none⟩ = some (.slice p.1.2.1 p.1.1.data.length p.1.2.2) ∧ w'.cell? ⟨b, o + 5, none⟩ = some (.int .i64 (p.2 : Int)) ∧ Below w.heap.size w w' := by
  have hr' : w'.rangeAt b o (enW p) := fun j v hj => (k.cell (p := ⟨b, _, none⟩) hb).trans (hr j v hj)
  have k0 := hr' 0 _ rfl
  rw [Nat.add_zero] at k0
  obtain ⟨_, _, _, q3, q4, _⟩ := bx6 (h.below k).box
  exact ⟨q3, q4, k0, hr' 1 _ rfl, hr' 2 _ rfl, hr' 3 _ rfl, hr' 4 _ rfl, hr' 5 _ rfl, k⟩

set_option maxRecDepth 100000 in
set_option maxHeartbeats 4000000 in
theorem first_any {B : Nat} {w : World} {g : Nat} {m : Ml} {a : Option Addr} {c : Nat} {S : Nat → Prop} (h : MlO B w g m a c S) (p : Wt) (hp : beM m = some p) :
    Calls Try.prog 28 #[.pointer (some ⟨g, 0, none⟩)] w fun e w' => e = .returned (.agg (wtV p)) ∧ Below w.heap.size w w' := by
  obtain ⟨w0, hw0, h0, hb, gg⟩ : ∃ w0, Hid (w.alloc (.cells wtZ 65) = w0) ∧ MlO B w0 g m a c S ∧ w0.heap[w.heap.size]? = some (.cells wtZ 65 (0, 0)) ∧ Below w.heap.size w w0 := ⟨_, rfl, h.alloc _, heap_alloc_new w _, bnew0 w _⟩
  obtain ⟨q0, q1, q2, q3, q4, q5⟩ := bx6 h0.box
  have hn : m.ws.length ≤ 100000 := by have := h.rm; have := h.le; omega
  cases hw : m.ws with
  | nil => unfold beM at hp; rw [hw] at hp; cases hp
  | cons x l =>
    by_cases h00 : m.wire = 0
    · have hpe : p = miW l x := by unfold beM at hp; rw [hw] at hp; simp only [h00, if_true, Option.some.injEq] at hp; exact hp.symm
      have hi : ∀ q ∈ x :: l, q.1.1.id < 4294967296 := fun q hq => (h.wt q (by rw [hw]; exact hq)).id
      have hrow := h0.row.rk enW_k
      rw [hw] at hrow
      rw [hw] at q3
      have q4' : w0.cell? ⟨g, 4, none⟩ = some (.int .i64 0) := by rw [q4, h00]; rfl
      rw [hw] at hn
      have hmin := minFunc_any w0 a _ c x l hrow hn hi
      rw [← hpe] at hmin
      clear hw hp hpe h00 q4 h0 h
      go_enter Try.func28, Try.ntmps28
      go_wp2_with (first
        | (rw [hw0.out])
        | (go_at_call 37; (refine hmin.mono ?_); rintro e w1 ⟨rfl, g1⟩; have hb1 := bx_below hb g1)
        | (with_reducible refine wpList_storeR rowW rfl _ _ rfl _ _ rfl rfl hb1 rfl rfl (wt_ones _) ?_))
      exact bodyPost_ret (v := .agg (wtV p)) (results_row rowW rfl _ _ _ rfl (setRow_heap _ _ _ _ _ _ hb1) rfl) rfl ⟨rfl, below_setRow (bstep gg g1) (Nat.le_refl _) _⟩
    · have hpe : (x :: l).find? (fun q => decide (q.2 = m.wire)) = some p := by unfold beM at hp; rw [hw] at hp; simp only [h00, if_false] at hp; exact hp
      rw [← hw] at hpe
      obtain ⟨k, hk⟩ := find_fi hpe
      obtain ⟨hk1, hk2, hk3⟩ := hk
      obtain ⟨gb, off, ha, hgb, hr⟩ := (h.row.rk enW_k).range hk1
      subst ha
      have hkl : (k : Int) < (m.ws.length : Int) := by have := (List.getElem?_eq_some_iff.1 hk1).1; omega
      have hne : ((m.wire : Int) != 0) = true := by rw [bne_iff_ne]; omega
      have hd1 : Below w0.heap.size w0 w0.drew := (Below.refl _ _).drew
      have hd0 : Below w.heap.size w w0.drew := gg.drew
      have hfd := fun w1 (g1 : Below w0.heap.size w0 w1) => mfind_any (h0.below g1) (m.wire : Int)
      rw [hk3] at hfd
      clear hw hp hpe hk3 hk1 hk2
      have H0 := hid h00; clear h00
      go_enter Try.func28, Try.ntmps28
      go_wp2_with (rw [hw0.out])
      clear q0 q1 q2 q3 q4 q5 hw0
      go_region_held3 (fun w' => w'.cell? ⟨g, 3, none⟩ = some (.slice (some ⟨gb, off, none⟩) m.ws.length c) ∧ w'.cell? ⟨g, 4, none⟩ = some (.int .i64 (m.wire : Int)) ∧
        w'.cell? ⟨gb, off + k * 6, none⟩ = some (.int .u32 (p.1.1.id : Int)) ∧ w'.cell? ⟨gb, off + k * 6 + 1, none⟩ = some (.bool p.1.1.ext) ∧ w'.cell? ⟨gb, off + k * 6 + 2, none⟩ = some (.bool p.1.1.rem) ∧ w'.cell? ⟨gb, off + k * 6 + 3, none⟩ = some (.int .u8 (p.1.1.dlc : Int)) ∧ w'.cell? ⟨gb, off + k * 6 + 4, none⟩ = some (.slice p.1.2.1 p.1.1.data.length p.1.2.2) ∧ w'.cell? ⟨gb, off + k * 6 + 5, none⟩ = some (.int .i64 (p.2 : Int)) ∧ Below w.heap.size w w')
        (first
          | with_reducible exact heldM h hgb hr hd0
          | with_reducible exact heldM h hgb hr gg5
          | with_reducible exact heldM h hgb hr (set6_below gg5 (Nat.le_refl _) _ _ _ _ _ _))
        (first
          | (go_simp; go_at_call 31; refine Calls.mono (hfd w0.drew hd1) ?_; rintro e w5 ⟨rfl, g5⟩; have g15 : Below w0.heap.size w0 w5 := hd1.trans g5; have hb5 := bx_below hb g15; have hf5 := bx_thaw hb5; have gg5 := bstep gg g15; obtain ⟨c0, c1, c2, c3, c4, c5⟩ := bx6 hb5))
      all_goals
        go_wp2
        exact bodyPost_ret (v := .agg (wtV p)) (results_row rowW rfl _ _ _ rfl (set6_same hb5 _ _ _ _ _ _) rfl) rfl ⟨rfl, set6_below gg5 (Nat.le_refl _) _ _ _ _ _ _⟩
end Go.Proofs.Ytffbkcjkmhjfnaa

namespace Go.Proofs.Ytffbkcjkmhjfnaa
open Go.RowKit Go.Sort
set_option linter.unusedVariables false

theorem run_clearW (w : World) (ty : TypeId) (b o c : Nat) (hc : ∀ j, j < 6 → (w.cell? ⟨b, o + j, none⟩).isSome = true) (hf : ∀ j, j < 6 → w.frozen? ⟨b, o + j, none⟩ = false) :
    (Builtin.clear_ #[47] ty #[.slice (some ⟨b, o, none⟩) 1 c]).run Try.prog w = .ok (.tuple #[]) (w.setCells b o (enW w0W)) := by
  obtain ⟨i, hi, hz0, hz1, hz2⟩ := info_parts elW.info
  have hst := run_storeCells_cells (P := Try.prog) b o (enW w0W) 0 w (by simpa [enW, w0W] using hc) (by simpa [enW, w0W] using hf) (fun v hv => enW_k.one _ v hv)
  simp only [Nat.add_zero] at hst
  have hzc : (Builtin.zeroCells (Value.agg wtZ).cells 1).toList = enW w0W := by kernel_rfl
  simp [Builtin.clear_, run_underlying elW.und, zeroValue, typeInfo, hi, hz0, hzc, hst]

theorem flat_take {α : Type} {enc : α → List Value} {k : Nat} (hk : EnK enc k) (l : List α) (i : Nat) (hi : i ≤ l.length) : (l.flatMap enc).take (i * k) = (l.take i).flatMap enc := by
  have h1 : l.flatMap enc = (l.take i).flatMap enc ++ (l.drop i).flatMap enc := by rw [← List.flatMap_append, List.take_append_drop]
  have h2 : ((l.take i).flatMap enc).length = i * k := by rw [flat_len hk, List.length_take, Nat.min_eq_left hi]
  rw [h1, ← h2, List.take_left]

theorem del_list {cur : List Value} {ws : List Wt} {n c k : Nat} (hl : ws.length = n) (hk : k < n) (hnc : n ≤ c) (hcl : cur.length = c * 6) (ht : cur.take (n * 6) = ws.flatMap enW) (Z : List Value) (rest : List Value) :
    ((cur.take (k * 6) ++ (ws.drop (k + 1)).flatMap enW ++ rest).take ((n - 1) * 6) ++ Z).take ((n - 1) * 6) = (ws.take k ++ ws.drop (k + 1)).flatMap enW := by
  have h1 : cur.take (k * 6) = (ws.take k).flatMap enW := by
    rw [← flat_take enW_k ws k (by omega), ← ht, List.take_take, Nat.min_eq_left (by omega)]
  have h2 : ((ws.take k ++ ws.drop (k + 1)).flatMap enW).length = (n - 1) * 6 := by
    rw [flat_len enW_k, List.length_append, List.length_take, List.length_drop, hl, Nat.min_eq_left (by omega)]; omega
  rw [h1, ← List.flatMap_append, List.take_append_of_le_length (by rw [List.length_take, List.length_append, h2]; omega), ← h2, List.take_left, List.take_of_length_le (Nat.le_refl _)]

set_option maxRecDepth 100000 in
set_option maxHeartbeats 4000000 in
theorem delete_any (w : World) (B : Nat) (g n c : Nat) (ws : List Wt) (k : Nat) (hk : k < n) (hO : OK enW 6 65 B w (some ⟨g, 0, none⟩) n c ws) (hn : n ≤ 100000) :
    Calls Try.prog 42 #[.slice (some ⟨g, 0, none⟩) n c, .int .i64 (k : Int), .int .i64 ((k : Int) + 1)] w fun e w' => e = .returned (.slice (some ⟨g, 0, none⟩) (n - 1) c) ∧ OK enW 6 65 B w' (some ⟨g, 0, none⟩) (n - 1) c (ws.take k ++ ws.drop (k + 1)) ∧ Wr g w w' := by
  have hcap := hO.cap
  have hlen := hO.len
  rcases hO.ex with ⟨h0, _⟩ | ⟨g', cur, hg, hBg, hh, hcs, htk, hcm⟩
  · cases h0
  simp only [Option.some.injEq, Addr.mk.injEq, and_true] at hg
  subst hg
  -- the cells that are moved to the left
  obtain ⟨news, hnews⟩ : ∃ news, news = (ws.drop (k + 1)).flatMap enW := ⟨_, rfl⟩
  have hnl : news.length = (n - (k + 1)) * 6 := by rw [hnews, flat_len enW_k, List.length_drop, hlen]
  have hone : Hid (∀ u ∈ news, u.oneCell' = true) := by rw [hnews]; exact flat_one enW_k _
  have hcell : ∀ p, p < c * 6 → (w.cell? ⟨g, p, none⟩).isSome = true ∧ w.frozen? ⟨g, p, none⟩ = false := fun p hp => by
    refine ⟨?_, frozen_of_row w g p _ _ hh⟩
    rw [cell_of_row w g p _ _ _ hh, Array.getElem?_eq_getElem (by omega)]; rfl
  obtain ⟨A, hA, hsrc⟩ : ∃ A : Addr, (if c = k + 1 then some (⟨g, 0, none⟩ : Addr) else some ⟨g, (k + 1) * 6, none⟩) = some A ∧ Hid (∀ t u, news[t]? = some u → w.drew.cell? (A.add t) = some u) := by
    by_cases h : c = k + 1
    · refine ⟨⟨g, 0, none⟩, by simp [h], fun t u hu => ?_⟩
      have h0 : news.length = 0 := by rw [hnl]; omega
      rw [List.length_eq_zero_iff.1 h0] at hu
      simp at hu
    · refine ⟨⟨g, (k + 1) * 6, none⟩, by simp [h], fun t u hu => ?_⟩
      rw [hnews] at hu
      obtain ⟨i, j, x, h1, h2, h3⟩ := flat_back enW_k _ t u hu
      rw [List.getElem?_drop] at h1
      have := hO.range enW_k h1
      rw [Addr.add_lit]
      have h4 := this j u h2
      show w.cell? _ = _
      rw [← h4]; congr 2; omega
  have s1 : Hid (news.length = (n - (k + 1)) * 6) := hnl
  have s3 : Hid (∀ t, t < news.length → (w.drew.cell? ⟨g, 0 + k * 6 + t, none⟩).isSome = true ∧ w.drew.frozen? ⟨g, 0 + k * 6 + t, none⟩ = false) := fun t ht => by
    have := hcell (0 + k * 6 + t) (by rw [hnl] at ht; omega)
    exact this
  obtain ⟨W1, hW1⟩ : ∃ W1, W1 = w.drew.setCells g (0 + k * 6) news := ⟨_, rfl⟩
  have hW : Hid (W1 = w.drew.setCells g (0 + k * 6) news) := hW1
  have hkc : k ≤ c := by omega
  have hkc1 : k + 1 ≤ c := by omega
  have hi1 : 0 ≤ (k : Int) + 1 := by omega
  have hi2 : (k : Int) + 1 ≤ (n : Int) := by omega
  obtain ⟨i0, hi0, hz0, hz1, hz2⟩ := info_parts elW.info
  have hh1 : W1.heap[g]? = some (.cells (wrC cur (0 + k * 6) news) 65 (0, 0)) := by rw [hW1]; exact heap_setCells_same g _ news _ w.drew cur hh
  have hs1 : (wrC cur (0 + k * 6) news).size = c * 6 := by rw [wrC_size, hcs]
  have hcl : ∀ ty, (Builtin.clear_ #[47] ty #[.slice (some ⟨g, (k + (n - (k + 1))) * 6, none⟩) (n - (k + (n - (k + 1)))) (c - (k + (n - (k + 1))))]).run Try.prog W1 = .ok (.tuple #[]) (W1.setCells g ((k + (n - (k + 1))) * 6) (enW w0W)) := fun ty => by
    rw [show n - (k + (n - (k + 1))) = 1 by omega]
    refine run_clearW W1 ty g _ _ (fun j hj => ?_) (fun j hj => frozen_of_row W1 g _ _ _ hh1)
    rw [cell_of_row W1 g _ _ _ _ hh1, Array.getElem?_eq_getElem (by rw [hs1]; omega)]; rfl
  obtain ⟨W2, hW2⟩ : ∃ W2, W2 = W1.setCells g ((k + (n - (k + 1))) * 6) (enW w0W) := ⟨_, rfl⟩
  rw [← hW2] at hcl
  have hh2 : W2.heap[g]? = some (.cells (wrC (wrC cur (0 + k * 6) news) ((k + (n - (k + 1))) * 6) (enW w0W)) 65 (0, 0)) := by rw [hW2]; exact heap_setCells_same g _ _ _ W1 _ hh1
  have hwr : Wr g w W2 := by
    have h1 : Wr g w.drew W1 := by rw [hW1]; exact wr_setCells g news _ _
    have h2 : Wr g W1 W2 := by rw [hW2]; exact wr_setCells g _ _ _
    exact ((Wr.refl g w).drew.trans h1).trans h2
  have hfin : OK enW 6 65 B W2 (some ⟨g, 0, none⟩) (n - 1) c (ws.take k ++ ws.drop (k + 1)) := by
    refine ⟨by rw [List.length_append, List.length_take, List.length_drop, hlen, Nat.min_eq_left (by omega)]; omega, by omega, ?_⟩
    refine ⟨by rw [flat_len enW_k, List.length_append, List.length_take, List.length_drop, hlen, Nat.min_eq_left (by omega)]; omega, .inr ⟨g, c, _, rfl, hBg, hh2, by omega, hcm, by rw [wrC_size, hs1], ?_⟩⟩
    have e1 : (k + (n - (k + 1))) * 6 = (n - 1) * 6 := by omega
    have e2 : (enW w0W).length = 6 := rfl
    rw [wrC_list _ _ _ (by rw [hs1, e2]; omega), wrC_list _ _ _ (by rw [hnl, hcs]; omega), e1, Nat.zero_add, hnews, List.append_assoc]
    exact del_list hlen hk hcap (by rw [Array.length_toList, hcs]) htk _ _
  have HF := hid hfin
  have HW := hid hwr
  have hi3 : (k : Int) + ((n - (k + 1) : Nat) : Int) ≤ (n : Int) := by omega
  clear hW1 hnews hnl hO hlen htk hcm hcs hh hcell hh1 hs1 hh2 hwr hfin hW2
  go_enter Try.func42, Try.ntmps42
  go_wp2_with fail
  go_region_law (refine step_append_room rfl (.tmp 22) (.tmp 25) 47 rfl 65 i0 6 elW.und hi0 hz1 g 0 k c (by simp [Act.eval, Act.put]) A (n - (k + 1)) (c - (k + 1)) news (by simp [Act.eval, Act.put]) s1.out hsrc.out hone.out (by omega) s3.out ?_; rw [← hW.out])
  go_wp2
  go_ret
  exact ⟨by rw [show n - 1 = k + (n - (k + 1)) by omega]; rfl, HF.out, HW.out⟩
end Go.Proofs.Ytffbkcjkmhjfnaa
