/-
  Contract of Parse at a body (the program's).
-/
import Derived.Test.YthpgcgkgokfnpaaB4q
import Derived.Deep.RegionLaw
namespace Go.Proofs.Ythpgcgkgokfnpaa
open Go.RowKit Go.Sort
set_option linter.unusedVariables false

/-- The state of Parse's loop: the row that is read, the boxes of the result and of the frame, the bytes so far. -/
structure Pl (w wr : World) (g q : Nat) (l : List Bool) (v0 v1 v2 v3 : Value) (a : Option Addr) (k c : Nat) (out : List UInt8) : Prop where
  row : Rw w wr g l
  bel : Below w.heap.size w wr
  b2 : wr.heap[w.heap.size]? = some (.cells #[.int .u32 0, .bool false, .bool false, .int .u8 0, .slice none 0 0] 36 (0, 0))
  b3 : wr.heap[q]? = some (.cells #[v0, v1, v2, v3, .slice a k c] 36 (0, 0))
  own : OL bv 5 (q + 1) wr a k c out

section
variable {w wr w' : World} {g q : Nat} {l l' : List Bool} {v0 v1 v2 v3 : Value} {a a' : Option Addr} {k c k' c' : Nat} {out out' : List UInt8}
theorem Pl.call (h : Pl w wr g q l v0 v1 v2 v3 a k c out) (hg : w.heap.size < g) (hq : g < q) (hr : Rw w w' g l') (hgr : wr.grownBy w' (some g)) : Pl w w' g q l' v0 v1 v2 v3 a k c out :=
  ⟨hr, h.bel.grown hgr h.bel.size (fun k hk => by simp at hk; omega), grow_box hgr h.b2 (by omega), grow_box hgr h.b3 (by omega), h.own.kept fun j hj => by
    have h1 := h.own.ltB hj
    exact hgr.block j h1.1 (by simp; have := h1.2; dsimp only at this; omega)⟩
theorem Pl.drew (h : Pl w wr g q l v0 v1 v2 v3 a k c out) : Pl w wr.drew g q l v0 v1 v2 v3 a k c out := ⟨h.row, h.bel.drew, h.b2, h.b3, h.own.drew⟩
theorem Pl.size (h : Pl w wr g q l v0 v1 v2 v3 a k c out) : q < wr.heap.size := bx_lt h.b3
theorem Pl.lt (h : Pl w wr g q l v0 v1 v2 v3 a k c out) : g < wr.heap.size := by obtain ⟨_, _, _, h1, _⟩ := h.row; exact bx_lt h1
theorem Pl.app (h : Pl w wr g q l v0 v1 v2 v3 a k c out) (hg : w.heap.size < g) (hq : g < q) (o : Obj) (hol : OL bv 5 (q + 1) w' a' k' c' out') (hb : Below (q + 1) (wr.alloc o) w') :
    Pl w (w'.setCell ⟨q, 4, none⟩ (.slice a' k' c')) g q l v0 v1 v2 v3 a' k' c' out' := by
  have hs := h.size
  have hq' : ∀ j, j ≤ q → w'.heap[j]? = wr.heap[j]? := fun j hj => (hb.block j (by omega)).trans (Below.heap_alloc _ _ _ (by omega))
  refine ⟨h.row.grown ((heap_setCell_other _ _ _ _ (by simp; omega)).trans (hq' g (by omega))), ?_, ?_, ?_, hol.kept fun j hj => heap_setCell_other _ _ _ _ ?_⟩
  · exact ((h.bel.alloc h.bel.size o).trans (hb.mono (by omega))).setCell (by simp; omega) _
  · exact (heap_setCell_other _ _ _ _ (by simp; omega)).trans ((hq' _ (by omega)).trans h.b2)
  · have := heap_setCell_same w' q 4 _ _ (.slice a' k' c') ((hq' q (Nat.le_refl _)).trans h.b3)
    simpa using this
  · have h1 := (hol.ltB hj).2
    dsimp only at h1 ⊢
    omega
end

/-- One byte more of what is read. -/
theorem byL_chunk {l : List Bool} {M k L : Nat} (hk : k < L) (hl : M + 8 * L ≤ l.length) : (byL ((l.drop M).take (8 * L))).take (k + 1) = (byL ((l.drop M).take (8 * L))).take k ++ [UInt8.ofNat (numL ((l.drop (M + 8 * k)).take 8) % 4294967296)] := by
  have hlen : ((l.drop M).take (8 * L)).length = 8 * L := by rw [List.length_take, List.length_drop]; omega
  have h := byL_get ((l.drop M).take (8 * L)) k (by rw [hlen]; omega)
  have hn : numL ((l.drop (M + 8 * k)).take 8) % 4294967296 = numL ((l.drop (M + 8 * k)).take 8) := by
    have := numL_take_lt (l.drop (M + 8 * k)) 8
    exact Nat.mod_eq_of_lt (by omega)
  rw [take_snoc h, hn]
  congr 3
  rw [List.drop_take, List.drop_drop, List.take_take, Nat.min_eq_left (by omega)]

theorem byL_done {l : List Bool} {M L : Nat} (hl : M + 8 * L ≤ l.length) : (byL ((l.drop M).take (8 * L))).length = L := by
  rw [byL_length, List.length_take, List.length_drop]; omega

theorem lit1V (w : World) (v : Nat) (hv : v < 256) : RL bv (w.alloc (.cells #[.int .u8 (v : Int)] 5)) (some ⟨w.heap.size, 0, none⟩) 1 1 [UInt8.ofNat v] := by
  have h := ol_lit bv 5 w.heap.size w [UInt8.ofNat v] #[bv (UInt8.ofNat v)] 1 rfl rfl (by omega) (Nat.le_refl _)
  have e : bv (UInt8.ofNat v) = .int .u8 (v : Int) := by
    show Value.int .u8 ((UInt8.ofNat v).toNat : Int) = _
    rw [UInt8.toNat_ofNat_of_lt' (by simpa using hv)]
  rw [e] at h
  exact h.rl

set_option maxHeartbeats 2000000 in
theorem parse_own (w : World) (a : Option Addr) (n c : Nat) (l : List Bool) (h : RL .bool w a n c l) (hk : paK l = true) (hs : suV l = 0#15) :
    Calls Try.prog 28 #[.slice a n c] w fun e w' => ∃ a' c', e = .returned (.tuple #[.agg #[.int .u32 ((reF l).id : Int), .bool (reF l).ext, .bool (reF l).rem, .int .u8 ((reF l).dlc : Int), .slice a' (lonF (reF l).rem (reF l).dlc) c'], .int .i64 0]) ∧ OL bv 5 w.heap.size w' a' (lonF (reF l).rem (reF l).dlc) c' (paD l) ∧ Below w.heap.size w w' := by
  have hmf : ∀ (fn : Fn) (first cap : Array Value) (w : World), (Instr.makeFunc fn first cap).run Try.prog w = .ok (.func fn first cap) w := fun _ _ _ _ => rfl
  obtain ⟨hd, hx, hlN⟩ := paK_parts hk
  have hN2 := hdN_le l
  obtain ⟨w1, hw1, hb1, g1⟩ := zero_new w
  have h1 := h.below g1
  have hs1 : w.heap.size < w1.heap.size := bx_lt hb1
  have hH := fhead_any w1 a n c l h1 (by rw [← h.len]; omega) hd
  rw [← hlN, h.len] at hH hN2
  obtain ⟨b, off, x, rfl, hx', hck⟩ := h1.at (k := 0) (by omega)
  obtain rfl : x = false := by rw [hx'] at hx; simpa using hx
  have hlt : b < w1.heap.size := by obtain ⟨b', off', e, hl, _⟩ := h1.cell (by omega); cases e; exact hl
  obtain ⟨E, hE⟩ : ∃ E, n = E + 15 := ⟨n - 15, by omega⟩
  have hst := (sum_tail (l := l) (E := E) (by rw [h.len]; exact hE)).1 hs
  obtain ⟨a1, c1, p1, p2, hq1⟩ := run_cutFrom tB h1 .i64 E (by omega)
  obtain ⟨a2, p3, p4, hq2⟩ := run_cutTo tB h1 .i64 E (by omega)
  obtain ⟨v1, hv1⟩ : ∃ v1, v1 = numL (l.drop E) % 4294967296 := ⟨_, rfl⟩
  have hv1' : v1 < 32768 := by rw [hv1, hst]; exact (suV (l.take E)).isLt
  have k1 : ∀ w2, Below w1.heap.size w1 w2 → ∀ d os, Calls Try.prog 48 #[.slice a1 (n - E) c1] (grow (redrawn w2 d) os) fun e w'' => e = .returned (.int .u32 (v1 : Int)) ∧ ∃ p : Regrown, w'' = grow (redrawn w2 p.d) p.os := fun w2 g2 d os => by
    rw [hv1]
    exact Calls.regrown_of ((number_any _ a1 _ c1 _ ((hq1.below g2).below (below_regrown _ _ _)) (by omega)).mono fun e w' he => ⟨he.1, by rw [← he.2]; exact Below.refl _ _⟩)
  have k2 : ∀ w2, Below w1.heap.size w1 w2 → ∀ d os, Calls Try.prog 35 #[.slice a2 E c] (grow (redrawn w2 d) os) fun e w'' => e = .returned (.int .u16 (v1 : Int)) ∧ ∃ p : Regrown, w'' = grow (redrawn w2 p.d) p.os := fun w2 g2 d os => by
    rw [hv1, hst]
    exact Calls.regrown_of (sum_any _ a2 E c _ ((hq2.below g2).below (below_regrown _ _ _)) (by omega))
  have hEi : (n : Int) - 15 = (E : Int) := by omega
  have i0 : 0 < n := by omega
  have hE0 : (0 : Int) ≤ (E : Int) := by omega
  have hML : heM l + 8 * lonF (reF l).rem (reF l).dlc + 15 = l.length := by rw [hlN]; rfl
  have HD : Hid (paD l = byL ((l.drop (heM l)).take (8 * lonF (reF l).rem (reF l).dlc))) := by show _ = _; rfl
  rw [HD.out]
  have hf : ∀ w9, Below w.heap.size w w9 → Calls Try.prog 50 #[.func (.func 49) #[.pointer (some ⟨w9.heap.size, 0, none⟩)] #[]] (w9.alloc (.cells #[.slice (some ⟨b, off, none⟩) n c] 77)) fun e w' => e = .returned (.agg #[.int .u32 ((reF l).id : Int), .bool (reF l).ext, .bool (reF l).rem, .int .u8 ((reF l).dlc : Int), .slice none 0 0]) ∧ Rw w w' w9.heap.size (l.drop (heM l)) ∧ (w9.alloc (.cells #[.slice (some ⟨b, off, none⟩) n c] 77)).grownBy w' (some w9.heap.size) := fun w9 g9 =>
    fields_any w _ _ l g9.size (by simp) (g9.alloc g9.size _) ⟨_, n, c, heap_alloc_new w9 _, h⟩ hd
  obtain ⟨q1, q2⟩ := reF_lt l
  have hq8 := lonF_le (reF l).rem (reF l).dlc
  have hlo := fun w0 => frLong_any w0 (reF l).id (reF l).ext (reF l).rem (reF l).dlc none 0 0 (by omega)
  obtain ⟨L, hL⟩ : ∃ L, L = lonF (reF l).rem (reF l).dlc := ⟨_, rfl⟩
  obtain ⟨M, hM⟩ : ∃ M, M = heM l := ⟨_, rfl⟩
  rw [← hL] at hlo hq8 hML ⊢
  rw [← hM] at hML
  simp only [← hM] at hf ⊢
  obtain ⟨fr, hfr⟩ : ∃ fr, fr = reF l := ⟨_, rfl⟩
  simp only [← hfr] at hf hlo ⊢
  clear hL hM hfr q1 q2 HD
  obtain ⟨id, ext, rem, dlc, dat⟩ := fr
  dsimp only at hf hlo ⊢
  have hlen := h.len
  have hML2 : M + 8 * L ≤ l.length := by omega
  have HE := hid hE
  clear hk hs hd hx hx' hlN hst hv1 hq1 hq2 h1 hE hML
  go_enter Try.func28, Try.ntmps28
  go_wp2_with (go_at_call 47; rw [hw1.out]; (with_reducible refine hH.mono ?_); rintro e w2 ⟨rfl, g2⟩; have hb2 := bx_below hb1 g2; have c0 : w2.cell? ⟨b, off, none⟩ = some (.bool false) := (by rw [g2.cell (p := ⟨b, off, none⟩) hlt]; exact hck))
  have k1' := k1 w2 g2
  have k2' := k2 w2 g2
  clear k1 k2 c0 hck
  refine wp_region_quiet_below (by kernel_rfl) (by kernel_rfl) ?_
  repeat (go_big_quiet_step (first
    | (go_at_call 48; with_reducible exact k1' _ _)
    | (go_at_call 35; with_reducible exact k2' _ _)))
  refine wpQuiet_nil ?_
  intro w9 hw9
  have g9 : Below w2.heap.size w2 w9 := by obtain ⟨p9, rfl⟩ := hw9; exact below_regrown _ _ _
  clear hw9 k1' k2' p1 p2 p3 p4
  have hb9 := bx_below hb2 g9
  have gg9 := bstep (bstep g1 g2) g9
  have hs9 : w.heap.size < w9.heap.size := bx_lt hb9
  have hf' := hf w9 gg9
  clear hf hb2 hb1 g1 g2 g9 hH hw1 HE hEi hE0 hlt
  go_wp2_with (first
    | (go_at_call 50; (with_reducible refine hf'.mono ?_); rintro e w3 ⟨rfl, r3, g3⟩; have gg3 : Below w.heap.size w w3 := (gg9.alloc (Nat.le_of_lt hs9) _).grown g3 (by simp; omega) (fun q hq => by simp at hq; omega); have hb3 := grow_box g3 (bx_alloc _ hb9) (by omega); have hlt3 : w9.heap.size < w3.heap.size := Nat.lt_of_lt_of_le (by simp) g3.size)
    | (go_at_call 51; refine (hlo _).mono ?_; rintro e w4 ⟨rfl, g4⟩; have pl4 : Pl w w4 w9.heap.size w3.heap.size (l.drop (M + 8 * 0)) (.int .u32 (id : Int)) (.bool ext) (.bool rem) (.int .u8 (dlc : Int)) none 0 0 [] := ⟨r3.grown ((g4.block _ (by simp; omega)).trans (Below.heap_alloc _ _ _ hlt3)), bstep (bnew gg3 _) g4, bx_below (bx_alloc _ hb3) g4, bx_below (heap_alloc_new w3 _) g4, OL.nil _ _ _ _⟩))
  clear r3 g3 gg3 hb3 g4 hf' hlo hb9 gg9 h hlen
  generalize hgg : w9.heap.size = g at *
  generalize hqq : w3.heap.size = q at *
  clear hgg hqq
  have hln := byL_done hML2
  go_loopw [49] (fun i wr => ∃ (k : Nat) (a' : Option Addr) (c' : Nat), k ≤ L ∧ i = .int .i64 (k : Int) ∧ Pl w wr g q (l.drop (M + 8 * k)) (.int .u32 (id : Int)) (.bool ext) (.bool rem) (.int .u8 (dlc : Int)) a' k c' ((byL ((l.drop M).take (8 * L))).take k)) (fun i _ => L - (intOf i).toNat)
  case atStart => exact ⟨0, none, 0, Nat.zero_le _, rfl, pl4⟩
  case round =>
    clear pl4
    obtain ⟨k, a', c', hk, rfl, pl⟩ := hrel
    by_cases hlt : k < L
    · obtain ⟨v, hv⟩ : ∃ v, v = numL ((l.drop (M + 8 * k)).take 8) % 4294967296 := ⟨_, rfl⟩
      have hv2 : v < 256 := by have := numL_take_lt (l.drop (M + 8 * k)) 8; omega
      have hnext : Hid ((byL ((l.drop M).take (8 * L))).take (k + 1) = (byL ((l.drop M).take (8 * L))).take k ++ [UInt8.ofNat v]) := by
        show _ = _
        rw [byL_chunk hlt hML2, ← Nat.mod_eq_of_lt (show v < 4294967296 by omega), hv, Nat.mod_mod]
      have pld := pl.drew
      have kt : Calls Try.prog 49 #[.pointer (some ⟨g, 0, none⟩), .int .i64 8] wr.drew fun e w' => e = .returned (.int .u32 (v : Int)) ∧ Pl w w' g q (l.drop (M + 8 * (k + 1))) (.int .u32 (id : Int)) (.bool ext) (.bool rem) (.int .u8 (dlc : Int)) a' k c' ((byL ((l.drop M).take (8 * L))).take k) := by
        have := rtake_any w wr.drew g (l.drop (M + 8 * k)) 8 (Nat.le_of_lt hs9) pld.bel pld.row (by rw [List.length_drop]; omega) (by omega)
        rw [← hv] at this
        refine this.mono fun e w' ⟨he, h2, h3⟩ => ⟨he, pld.call hs9 hlt3 ?_ h3⟩
        rw [List.drop_drop] at h2
        exact h2
      obtain ⟨e0, e1, e2, e3, e4⟩ := bx5 pld.b3
      have hwr : IntKind.u8.wrap (v : Int) = (v : Int) := IntWalk.u8_in _ (by omega)
      clear hv e0 e1 e2 e3
      go_wp2_with fail
      have hk8 : (byL ((l.drop M).take (8 * L))).length = L := hln
      go_region_law
        (first
          | (go_simp; go_at_call 49; (with_reducible refine Calls.mono kt ?_); rintro e w6 ⟨rfl, pl6⟩; have p6 := (bx5 pl6.b3).2.2.2.2; have hs6 := pl6.size)
          | (refine step_app (f := bv) (B := q + 1) (w := w6.alloc (.cells #[.int .u8 (v : Int)] 5)) (a := a') (n := k) (c := c') (l := (byL ((l.drop M).take (8 * L))).take k) (a2 := some ⟨w6.heap.size, 0, none⟩) (n2 := 1) (c2 := 1) (m := [UInt8.ofNat v]) tY rfl (.tmp 52) (.tmp 56) rfl rfl (pl6.own.alloc _) rfl (lit1V w6 v hv2) (fun _ => rfl) ?_ ?_ ?_ ?_; omega; omega; (simp; omega); intro w7 a7 c7 hol7 g7; have pl7 := pl6.app hs9 hlt3 _ hol7 g7; have b7 : w7.heap[q]? = some (.cells #[.int .u32 (id : Int), .bool ext, .bool rem, .int .u8 (dlc : Int), .slice a' k c'] 36 (0, 0)) := (by rw [g7.block _ (by omega)]; exact bx_alloc _ pl6.b3); have c7' := (bx5 b7).2.2.2.2; have f7 := bx_thaw b7 4))
      all_goals
        clear kt e4 p6
        go_wp2
        go_roundw
        case rel => exact ⟨k + 1, a7, c7, by omega, by go_num, by rw [hnext.out]; exact pl7⟩
        case measure => simp [intOf]; omega
    · obtain rfl : k = L := by omega
      rw [List.take_of_length_le (by omega)] at pl
      obtain ⟨e0, e1, e2, e3, e4⟩ := bx5 pl.b3
      obtain ⟨d0, d1, d2, d3, d4⟩ := bx5 pl.b2
      have f8 := bx_thaw pl.b2
      have hset := below_five pl.bel
      have hown := pl.own
      clear pl
      go_wp2
      refine bodyPost_ret (v := .tuple #[.agg #[.int .u32 (id : Int), .bool ext, .bool rem, .int .u8 (dlc : Int), .slice a' k c'], .int .i64 0]) (by simp [results, Try.results28, go_sem, d0, d1, d2, d3, d4]) rfl ⟨a', c', rfl, (hown.kept fun j hj => ?_).mono (by omega), hset _ _ _ _ _⟩
      have h1 := (hown.ltB hj).2
      have hn : j ≠ w.heap.size := by dsimp only at h1; omega
      rw [heap_setCell_other _ _ _ _ hn, heap_setCell_other _ _ _ _ hn, heap_setCell_other _ _ _ _ hn, heap_setCell_other _ _ _ _ hn, heap_setCell_other _ _ _ _ hn]

theorem parse_ok (w : World) (a : Option Addr) (n c : Nat) (l : List Bool) (h : RL .bool w a n c l) (hk : paK l = true) (hs : suV l = 0#15) :
    Calls Try.prog 28 #[.slice a n c] w fun e w' => ∃ a' c', e = .returned (.tuple #[.agg #[.int .u32 ((reF l).id : Int), .bool (reF l).ext, .bool (reF l).rem, .int .u8 ((reF l).dlc : Int), .slice a' (lonF (reF l).rem (reF l).dlc) c'], .int .i64 0]) ∧ RL bv w' a' (lonF (reF l).rem (reF l).dlc) c' (paD l) ∧ Below w.heap.size w w' :=
  (parse_own w a n c l h hk hs).mono fun e w' ⟨a', c', h1, h2, h3⟩ => ⟨a', c', h1, h2.rl, h3⟩
end Go.Proofs.Ythpgcgkgokfnpaa
