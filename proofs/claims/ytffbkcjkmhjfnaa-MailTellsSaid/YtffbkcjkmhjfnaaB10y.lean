/-
  Contracts of the document's own answers on mails: the best one, and its start.
-/
import Derived.Test.YtffbkcjkmhjfnaaB10x
import Derived.Test.YtffbkcjkmhjfnaaB10t
namespace Go.Proofs.Ytffbkcjkmhjfnaa
open Go.RowKit Go.Sort
set_option linter.unusedVariables false
set_option linter.unusedSimpArgs false

/-- The frame of a slot, in its row. -/
theorem sl_frame {w : World} {b o : Nat} {p : Sl} (h : w.rangeAt b o (enS p)) : w.rangeAt b (o + 1) (frV p.1.1.1 p.1.1.2.1 p.1.1.2.2).toList := fun j v hj => by
  have := h (1 + j) v (by
    match j, hj with
    | 0, hj => simpa [enS] using hj
    | 1, hj => simpa [enS] using hj
    | 2, hj => simpa [enS] using hj
    | 3, hj => simpa [enS] using hj
    | 4, hj => simpa [enS] using hj
    | j + 5, hj => simp at hj)
  rw [← Nat.add_assoc] at this
  exact this

theorem yields_loadM {T : TypeId} {n : Nat} {o : Oper} {ops : Array Oper} {a : Act} {S : World → Prop} (hT : RowT Try.prog T n) (hw : Region.wanted o (yielded ops a.tmps) = true) (x : Operand) (ho : o.op = .load T x) (b off : Nat) (hx : a.eval x = .pointer (some ⟨b, off, none⟩)) (cs : Array Value) (hn : cs.size = n)
    (hS : ∀ w, S w → w.rangeAt b off cs.toList) : YieldsIf Try.prog ops S o (.agg cs) a := by
  obtain ⟨d, hu, hd⟩ := hT.und
  refine .inl ⟨hw, fun w h => ?_⟩
  have e := run_loadVar_mid (P := Try.prog) w b off T cs.toList d (hS w h) hu (by cases d <;> simp_all) (by rw [hT.size, Array.length_toList, hn])
  rw [Array.toArray_toList] at e
  unfold execOp
  simp only [ho, hx, Instr.loadAt, Instr.sureAddr, Sem.run_bind, Sem.run_pure, Result.andThen_ok, e]

theorem best_boxes (w : World) (cs : Array Value) : ∃ r w1, Hid ((w.alloc (.cells cs 30)).alloc (.cells frZr 34) = w1) ∧ Hid (w.heap.size + 1 = r) ∧
    w1.heap[w.heap.size]? = some (.cells cs 30 (0, 0)) ∧ w1.heap[r]? = some (.cells frZr 34 (0, 0)) ∧ Below w.heap.size w w1 ∧ w.heap.size < r ∧ r < w1.heap.size :=
  ⟨_, _, rfl, rfl, bx_alloc _ (heap_alloc_new w _), by have := heap_alloc_new (w.alloc (.cells cs 30)) (.cells frZr 34); rwa [heap_size_alloc] at this, bnew (bnew0 w _) _, by show _ < _; omega, by rw [heap_size_alloc, heap_size_alloc]; show _ < _; omega⟩

section
variable {B : Nat} {w w1 w3 w4 w5 w' : World} {a a' : Option Addr} {c c' room wire last r : Nat} {L L' : List Sl} {S T T' : Nat → Prop}

set_option maxRecDepth 100000 in
set_option maxHeartbeats 4000000 in
theorem rbest_wire (w : World) (h : LmO B w a c L T) (hn : L.length ≤ 1000) (k : Nat) (p : Sl) (hk : L[k]? = some p) (hf : fiL (wire : Int) L = (k : Int)) (hw : 0 < wire) :
    Calls Try.prog 8 #[.agg (smV room a c L wire last)] w fun e w' => e = .returned (.tuple #[.int .i64 (p.1.2 : Int), .agg (frV p.1.1.1 p.1.1.2.1 p.1.1.2.2), .bool true]) ∧ Below w.heap.size w w' := by
  obtain ⟨r, w1, hw1, HR, b1, r1, g1, hr0, hr1⟩ := best_boxes w (smV room a c L wire last)
  have hfd := rfind_any (w := w1) (room := room) (wire := wire) (last := last) (wire : Int) (h.below g1).row (by omega)
  rw [hf] at hfd
  have HF := hid hfd
  obtain ⟨gb, off, rfl, hgb, hr⟩ := h.row.range hk
  have hkn : k < L.length := (List.getElem?_eq_some_iff.1 hk).1
  obtain ⟨n, hnL⟩ : ∃ n, L.length = n := ⟨_, rfl⟩
  have HN := hid hnL
  have hne : ((wire : Int) == 0) = false := by rw [beq_eq_false_iff_ne]; omega
  rw [hnL] at hkn hn
  clear hfd hf hk
  go_enter Try.func8, Try.ntmps8
  obtain ⟨x0, x1, x2, x3⟩ := bx4m b1
  go_wp2_with (first
    | (rw [hw1.out, HR.out])
    | (with_reducible refine wpList_loadR rowSm rfl _ rfl _ rfl b1 rfl ?_)
    | (go_at_call 30; (with_reducible refine Calls.mono HF.out ?_); rintro e w2 ⟨rfl, g2⟩))
  clear x0 x1 x2 x3 HF hw1
  have b9 := bx_below b1 g2
  have r9 := bx_below r1 g2
  have gg9 := bstep g1 g2
  have hr9 : w2.rangeAt gb (off + k * 7) (enS p) := fun j v hj => by
    rw [gg9.cell (p := ⟨gb, off + k * 7 + j, none⟩) hgb]; exact hr j v hj
  rw [show smV room (some ⟨gb, off, none⟩) c L wire last = #[.int .i64 (room : Int), .slice (some ⟨gb, off, none⟩) n c, .int .i64 (wire : Int), .int .i64 (last : Int)] by rw [← hnL]] at b9
  clear b1 r1 g1 g2 hr hnL h hr1
  generalize w2 = W9 at *
  have x1 := (bx4m b9).2.1
  have x2 := (bx4m b9).2.2.1
  go_loopg [5, 6] 0 (fun gn s5 s6 wr => gn = 0 ∧ s5 = .int .i64 (k : Int) ∧ s6 = .int .i64 0 ∧ wr = W9)
  case atStart => exact ⟨rfl, rfl, rfl, rfl⟩
  case round =>
    obtain ⟨rfl, rfl, rfl, rfl⟩ := hrel
    have hk0 : ¬ ((k : Int) < 0) := by omega
    go_wp2
    have hc0 := hr9 0 (.int .i64 (p.1.2 : Int)) rfl
    rw [Nat.add_zero] at hc0
    have hc1 : wr.rangeAt gb (off + k * 7 + 1) (frV p.1.1.1 p.1.1.2.1 p.1.1.2.2).toList := sl_frame hr9
    have HS : wr.heap[w.heap.size]? = some (.cells #[.int .i64 (room : Int), .slice (some ⟨gb, off, none⟩) n c, .int .i64 (wire : Int), .int .i64 (last : Int)] 30 (0, 0)) ∧ wr.cell? ⟨gb, off + k * 7, none⟩ = some (.int .i64 (p.1.2 : Int)) ∧ wr.rangeAt gb (off + k * 7 + 1) (frV p.1.1.1 p.1.1.2.1 p.1.1.2.2).toList := ⟨b9, hc0, hc1⟩
    have hkn : (k : Int) < (n : Int) := by omega
    refine Rest.begin (S := fun w' => w'.heap[w.heap.size]? = some (.cells #[.int .i64 (room : Int), .slice (some ⟨gb, off, none⟩) n c, .int .i64 (wire : Int), .int .i64 (last : Int)] 30 (0, 0)) ∧ w'.cell? ⟨gb, off + k * 7, none⟩ = some (.int .i64 (p.1.2 : Int)) ∧ w'.rangeAt gb (off + k * 7 + 1) (frV p.1.1.1 p.1.1.2.1 p.1.1.2.2).toList) (X := [3, 4, 5, 9, 10, 11, 12, 13]) (by kernel_rfl) ?_
    change Rest _ _ _ _ _ _ _ _ _ wr.drew
    have HS : wr.drew.heap[w.heap.size]? = some (.cells #[.int .i64 (room : Int), .slice (some ⟨gb, off, none⟩) n c, .int .i64 (wire : Int), .int .i64 (last : Int)] 30 (0, 0)) ∧ wr.drew.cell? ⟨gb, off + k * 7, none⟩ = some (.int .i64 (p.1.2 : Int)) ∧ wr.drew.rangeAt gb (off + k * 7 + 1) (frV p.1.1.1 p.1.1.2.1 p.1.1.2.2).toList := HS
    refine Rest.take (i := 0) (v := .pointer (some ⟨w.heap.size, 1, none⟩)) rfl (by kernel_rfl) (by kernel_rfl) (by kernel_rfl) (by kernel_rfl) (fun _ _ _ h => h) (.inl HS) (Or.inl ⟨by simp [Region.wanted], ?_⟩) ?_
    · intro w; go_simp
    refine Rest.take (i := 2) (v := .int .i64 (k : Int)) rfl (by kernel_rfl) (by kernel_rfl) (by kernel_rfl) (by kernel_rfl) (fun _ _ _ h => h) (.inl HS) (Or.inl ⟨by simp [Region.wanted], ?_⟩) ?_
    · intro w; go_simp
    refine Rest.take (i := 6) (v := .pointer (some ⟨w.heap.size, 1, none⟩)) rfl (by kernel_rfl) (by kernel_rfl) (by kernel_rfl) (by kernel_rfl) (fun _ _ _ h => h) (.inl HS) (Or.inl ⟨by simp [Region.wanted], ?_⟩) ?_
    · intro w; go_simp
    refine Rest.take (i := 8) (v := .int .i64 (k : Int)) rfl (by kernel_rfl) (by kernel_rfl) (by kernel_rfl) (by kernel_rfl) (fun _ _ _ h => h) (.inl HS) (Or.inl ⟨by simp [Region.wanted], ?_⟩) ?_
    · intro w; go_simp
    refine Rest.takeS (i := 1) (v := .slice (some ⟨gb, off, none⟩) n c) rfl (by kernel_rfl) (by kernel_rfl) (by kernel_rfl) (by kernel_rfl) (fun _ _ _ h => h) HS (.inl ⟨by simp [Region.wanted], ?_⟩) ?_
    · intro w' hw; have q := (bx4m hw.1).2.1; go_simp
    refine Rest.takeS (i := 7) (v := .slice (some ⟨gb, off, none⟩) n c) rfl (by kernel_rfl) (by kernel_rfl) (by kernel_rfl) (by kernel_rfl) (fun _ _ _ h => h) HS (.inl ⟨by simp [Region.wanted], ?_⟩) ?_
    · intro w' hw; have q := (bx4m hw.1).2.1; go_simp
    refine Rest.takeS (i := 3) (v := .pointer (some ⟨gb, off + k * 7, none⟩)) rfl (by kernel_rfl) (by kernel_rfl) (by kernel_rfl) (by kernel_rfl) (fun _ _ _ h => h) HS (.inl ⟨by simp [Region.wanted], ?_⟩) ?_
    · intro w' hw; go_simp
    refine Rest.takeS (i := 9) (v := .pointer (some ⟨gb, off + k * 7, none⟩)) rfl (by kernel_rfl) (by kernel_rfl) (by kernel_rfl) (by kernel_rfl) (fun _ _ _ h => h) HS (.inl ⟨by simp [Region.wanted], ?_⟩) ?_
    · intro w' hw; go_simp
    refine Rest.takeS (i := 4) (v := .pointer (some ⟨gb, off + k * 7, none⟩)) rfl (by kernel_rfl) (by kernel_rfl) (by kernel_rfl) (by kernel_rfl) (fun _ _ _ h => h) HS (.inl ⟨by simp [Region.wanted], ?_⟩) ?_
    · intro w' hw; go_simp
    refine Rest.takeS (i := 10) (v := .pointer (some ⟨gb, off + k * 7 + 1, none⟩)) rfl (by kernel_rfl) (by kernel_rfl) (by kernel_rfl) (by kernel_rfl) (fun _ _ _ h => h) HS (.inl ⟨by simp [Region.wanted], ?_⟩) ?_
    · intro w' hw; go_simp
    refine Rest.takeS (i := 5) (v := .int .i64 (p.1.2 : Int)) rfl (by kernel_rfl) (by kernel_rfl) (by kernel_rfl) (by kernel_rfl) (fun _ _ _ h => h) HS (.inl ⟨by simp [Region.wanted], ?_⟩) ?_
    · intro w' hw; have q := hw.2.1; go_simp
    refine Rest.takeS (i := 11) (v := .agg (frV p.1.1.1 p.1.1.2.1 p.1.1.2.2)) rfl (by kernel_rfl) (by kernel_rfl) (by kernel_rfl) (by kernel_rfl) (fun _ _ _ h => h) HS (yields_loadM rowF (by simp [Region.wanted]) _ rfl gb (off + k * 7 + 1) (by simp [Act.eval, Act.put]) _ rfl (fun w' hw => hw.2.2)) ?_
    refine Rest.one (i := 12) (by kernel_rfl) rfl (fun K hK => ?_)
    rw [if_pos (by simp [Region.wanted])]
    go_simp
    refine hK _ _ ⟨.inl HS, ?_⟩; clear hK K
    refine Rest.one (i := 13) (by kernel_rfl) rfl (fun K hK => ?_)
    refine draw_storeR rowF rfl _ _ rfl r (frV p.1.1.1 p.1.1.2.1 p.1.1.2.2) rfl rfl (show wr.drew.heap[r]? = _ from r9) rfl rfl (fr_ones _ _ _) ?_
    refine hK _ _ ⟨.inr (thru_of (by kernel_rfl)), Rest.of_any _ _ _ _ (thru_of (by kernel_rfl)) ?_⟩; clear hK K
    refine wpAny_take (i := 14) (v := .bool true) rfl (by kernel_rfl) (by kernel_rfl) (by kernel_rfl) (fun _ _ _ h => h) (Or.inl ⟨by simp [Region.wanted], ?_⟩) ?_
    · intro w; go_simp
    refine wpAny_done (by kernel_rfl) ?_ _
    go_wp2
    exact bodyPost_ret (v := .tuple #[.int .i64 (p.1.2 : Int), .agg (frV p.1.1.1 p.1.1.2.1 p.1.1.2.2), .bool true]) (results_row_mid rowF rfl _ _ _ rfl rfl rfl (setRow_heap _ _ _ _ _ _ (show wr.drew.heap[r]? = _ from r9)) rfl) rfl ⟨rfl, below_setRow gg9.drew (Nat.le_of_lt hr0) _⟩

/-- The first one of the least key. -/
def miS : List Sl → Sl → Sl
  | x :: l, p => if kyW x.1 < kyW p.1 then miS l x else miS l p
  | [], p => p

theorem miS_step {L : List Sl} {i : Nat} {y q : Sl} (hy : L[i]? = some y) : miS (L.drop i) q = if kyW y.1 < kyW q.1 then miS (L.drop (i + 1)) y else miS (L.drop (i + 1)) q := by
  obtain ⟨hi, rfl⟩ := List.getElem?_eq_some_iff.1 hy
  rw [List.drop_eq_getElem_cons hi]; rfl

theorem rk_at {w : World} {gb off n c i : Nat} {L : List Sl} {p : Sl} (h : RK enS 7 w (some ⟨gb, off, none⟩) n c L) (hk : L[i]? = some p) : w.rangeAt gb (off + i * 7) (enS p) := by
  obtain ⟨b2, o2, e, _, hr⟩ := h.range hk
  cases e
  exact hr

set_option maxRecDepth 100000 in
set_option maxHeartbeats 4000000 in
theorem rbest_none (w : World) : Calls Try.prog 8 #[.agg (smV room a c [] wire last)] w fun e w' => e = .returned (.tuple #[.int .i64 0, .agg frZr, .bool false]) ∧ Below w.heap.size w w' := by
  obtain ⟨r, w1, hw1, HR, b1, r1, g1, hr0, hr1⟩ := best_boxes w (smV room a c [] wire last)
  have hfd := rfind_any (w := w1) (room := room) (wire := wire) (last := last) (a := a) (c := c) (L := []) (wire : Int) ⟨rfl, by simp, fun h => by simp at h⟩ (by simp)
  rw [show fiL (wire : Int) [] = -1 from rfl] at hfd
  have HF := hid hfd
  clear hfd
  go_enter Try.func8, Try.ntmps8
  obtain ⟨x0, x1, x2, x3⟩ := bx4m b1
  go_wp2_with (first
    | (rw [hw1.out, HR.out])
    | (with_reducible refine wpList_loadR rowSm rfl _ rfl _ rfl b1 rfl ?_)
    | (go_at_call 30; (with_reducible refine Calls.mono HF.out ?_); rintro e w2 ⟨rfl, g2⟩))
  clear x0 x1 x2 x3 HF hw1
  have b9 := bx_below b1 g2
  have r9 := bx_below r1 g2
  have gg9 := bstep g1 g2
  clear b1 r1 g1 g2 hr1
  have x1 := (bx4m b9).2.1
  go_loopg [5, 6] 0 (fun gn s5 s6 wr => gn = 0 ∧ s5 = .int .i64 (-1) ∧ s6 = .int .i64 0 ∧ wr = w2)
  case atStart => exact ⟨rfl, rfl, rfl, rfl⟩
  case round =>
    obtain ⟨rfl, rfl, rfl, rfl⟩ := hrel
    go_wp2_with (with_reducible refine wpList_storeR rowF rfl _ _ rfl _ _ rfl rfl r9 rfl rfl (by kernel_rfl) ?_)
    exact bodyPost_ret (v := .tuple #[.int .i64 0, .agg frZr, .bool false]) (results_row_mid rowF rfl _ _ _ rfl rfl rfl (setRow_heap _ _ _ _ _ _ r9) rfl) rfl ⟨rfl, below_setRow gg9 (Nat.le_of_lt hr0) _⟩

set_option maxRecDepth 100000 in
set_option maxHeartbeats 8000000 in
theorem rbest_free (w : World) (hd : Sl) (tl : List Sl) (h : LmO B w a c (hd :: tl) T) (hn : (hd :: tl).length ≤ 1000) (hf : fiL 0 (hd :: tl) = -1) :
    Calls Try.prog 8 #[.agg (smV room a c (hd :: tl) 0 last)] w fun e w' => e = .returned (.tuple #[.int .i64 ((miS tl hd).1.2 : Int), .agg (frV (miS tl hd).1.1.1 (miS tl hd).1.1.2.1 (miS tl hd).1.1.2.2), .bool true]) ∧ Below w.heap.size w w' := by
  obtain ⟨p, hpm⟩ : ∃ p, miS tl hd = p := ⟨_, rfl⟩
  rw [hpm]
  obtain ⟨L, hL⟩ : ∃ L, hd :: tl = L := ⟨_, rfl⟩
  have hL0 : L[0]? = some hd := by rw [← hL]; rfl
  have hM1 : miS (L.drop 1) hd = p := by rw [← hL]; exact hpm
  have hn1 : 1 ≤ L.length := by rw [← hL]; simp
  rw [hL] at h hn hf ⊢
  clear hL hpm
  obtain ⟨r, w1, hw1, HR, b1, r1, g1, hr0, hr1⟩ := best_boxes w (smV room a c L 0 last)
  have hfd := rfind_any (w := w1) (room := room) (wire := 0) (last := last) (0 : Int) (h.below g1).row (by omega)
  rw [hf] at hfd
  have HF := hid hfd
  obtain ⟨gb, off, rfl, hgb, _⟩ := h.row.range hL0
  obtain ⟨n, hnL⟩ : ∃ n, L.length = n := ⟨_, rfl⟩
  have HN := hid hnL
  have HL0 := hid hL0
  have HM1 := hid hM1
  rw [hnL] at hn hn1
  clear hfd hf hL0 hM1
  go_enter Try.func8, Try.ntmps8
  obtain ⟨x0, x1, x2, x3⟩ := bx4m b1
  go_wp2_with (first
    | (rw [hw1.out, HR.out])
    | (with_reducible refine wpList_loadR rowSm rfl _ rfl _ rfl b1 rfl ?_)
    | (go_at_call 30; (with_reducible refine Calls.mono HF.out ?_); rintro e w2 ⟨rfl, g2⟩))
  clear x0 x1 x2 x3 HF hw1
  have b9 := bx_below b1 g2
  have r9 := bx_below r1 g2
  have gg9 := bstep g1 g2
  have h9 := h.below gg9
  rw [show smV room (some ⟨gb, off, none⟩) c L 0 last = #[.int .i64 (room : Int), .slice (some ⟨gb, off, none⟩) n c, .int .i64 0, .int .i64 (last : Int)] by rw [← hnL]; rfl] at b9
  clear b1 r1 g1 g2 hnL h hr1
  go_loopg [5, 6] n (fun gn s5 s6 wr => ∃ i : Nat, i ≤ n ∧ gn = n - i ∧ s6 = .int .i64 (i : Int) ∧ ((i = 0 ∧ s5 = .int .i64 (-1)) ∨ (∃ (j : Nat) (q : Sl), j < i ∧ s5 = .int .i64 (j : Int) ∧ Hid (L[j]? = some q ∧ miS (L.drop i) q = p))) ∧ Below w2.heap.size w2 wr)
  case atStart => exact ⟨0, by omega, by omega, rfl, .inl ⟨rfl, rfl⟩, Below.refl _ _⟩
  case round =>
    obtain ⟨i, hi, rfl, rfl, hc, gr⟩ := hrel
    replace b9 := bx_below b9 gr
    replace r9 := bx_below r9 gr
    replace gg9 := bstep gg9 gr
    replace h9 := h9.below gr
    have x1 := (bx4m b9).2.1
    have x2 := (bx4m b9).2.2.1
    by_cases hlt : i < n
    · obtain ⟨y, hy⟩ : ∃ y, L[i]? = some y := ⟨L[i]'(by rw [HN.out]; exact hlt), by simp⟩
      have hey := rk_at h9.row hy
      have y1 := cell_regrown x1
      rcases hc with ⟨rfl, rfl⟩ | ⟨j, q, hj, rfl, HQ⟩
      · clear hey
        go_wp2
        refine wp_region_quiet_below (by kernel_rfl) (by kernel_rfl) ?_
        repeat (go_big_quiet_step (fail))
        refine wpQuiet_nil ?_
        intro w8 hw8
        have g8 : Below wr.heap.size wr w8 := by obtain ⟨p9, rfl⟩ := hw8; exact below_regrown _ _ _
        clear hw8 y1
        go_wp2
        go_roundg (n - (0 + 1))
        case measure => omega
        case rel => exact ⟨1, by omega, rfl, rfl, .inr ⟨0, hd, by omega, rfl, hid ⟨HL0.out, HM1.out⟩⟩, bstep gr g8⟩
      · have hiy := (h9.dat y (List.mem_of_getElem? hy)).id
        have hiq := (h9.dat q (List.mem_of_getElem? HQ.out.1)).id
        have heq := rk_at h9.row HQ.out.1
        have u1 := cell_regrown (hey 1 _ rfl)
        have v1 := cell_regrown (heq 1 _ rfl)
        have u2 := cell_regrown (hey 2 _ rfl)
        have v2 := cell_regrown (heq 2 _ rfl)
        have u3 := cell_regrown (hey 3 _ rfl)
        have v3 := cell_regrown (heq 3 _ rfl)
        have u4 := cell_regrown (hey 4 _ rfl)
        have v4 := cell_regrown (heq 4 _ rfl)
        have u5 := cell_regrown (hey 5 _ rfl)
        have v5 := cell_regrown (heq 5 _ rfl)
        have kA : ∀ d os, Calls Try.prog 15 #[.agg #[.int .u32 (y.1.1.1.id : Int), .bool y.1.1.1.ext, .bool y.1.1.1.rem, .int .u8 (y.1.1.1.dlc : Int), .slice y.1.1.2.1 y.1.1.1.data.length y.1.1.2.2]] (grow (redrawn wr d) os) fun e w'' => e = .returned (.int .u32 (kyW y.1 : Int)) ∧ ∃ r : Regrown, w'' = grow (redrawn wr r.d) r.os := fun d os => Calls.regrown_of (refKey_any _ _ _ _ _ _ _ _ hiy)
        have kB : ∀ d os, Calls Try.prog 15 #[.agg #[.int .u32 (q.1.1.1.id : Int), .bool q.1.1.1.ext, .bool q.1.1.1.rem, .int .u8 (q.1.1.1.dlc : Int), .slice q.1.1.2.1 q.1.1.1.data.length q.1.1.2.2]] (grow (redrawn wr d) os) fun e w'' => e = .returned (.int .u32 (kyW q.1 : Int)) ∧ ∃ r : Regrown, w'' = grow (redrawn wr r.d) r.os := fun d os => Calls.regrown_of (refKey_any _ _ _ _ _ _ _ _ hiq)
        have hin : (i : Int) < (n : Int) := by omega
        have hjn : (j : Int) < (n : Int) := by omega
        have hj0 : decide ((j : Int) < 0) = false := decide_eq_false (by omega)
        have hi0 : 0 < i := by omega
        have HS := hid (miS_step (q := q) hy)
        have HY := hid hy
        obtain ⟨ky, hky⟩ : ∃ ky, kyW y.1 = ky := ⟨_, rfl⟩
        obtain ⟨kq, hkq⟩ : ∃ kq, kyW q.1 = kq := ⟨_, rfl⟩
        rw [hky] at kA
        rw [hkq] at kB
        rw [hky, hkq] at HS
        clear hky hkq hey heq hy hiy hiq
        by_cases hl2 : ky < kq
        · have hdl : decide (ky < kq) = true := decide_eq_true hl2
          have HS2 := hid (show miS (L.drop i) q = miS (L.drop (i + 1)) y by rw [HS.out, if_pos hl2])
          clear hl2
          go_wp2
          refine wp_region_quiet_below (by kernel_rfl) (by kernel_rfl) ?_
          repeat (go_big_quiet_step (first | (go_at_call 15; with_reducible exact kA _ _) | (go_at_call 15; with_reducible exact kB _ _)))
          refine wpQuiet_nil ?_
          intro w8 hw8
          have g8 : Below wr.heap.size wr w8 := by obtain ⟨p9, rfl⟩ := hw8; exact below_regrown _ _ _
          clear hw8 y1 kA kB u1 u2 u3 u4 u5 v1 v2 v3 v4 v5
          go_wp2
          go_roundg (n - (i + 1))
          case measure => omega
          case rel => exact ⟨i + 1, by omega, rfl, by go_num, .inr ⟨i, y, by omega, rfl, hid ⟨HY.out, by rw [← HS2.out]; exact HQ.out.2⟩⟩, bstep gr g8⟩
        · have hdl : decide (ky < kq) = false := decide_eq_false hl2
          have HS2 := hid (show miS (L.drop i) q = miS (L.drop (i + 1)) q by rw [HS.out, if_neg hl2])
          clear hl2
          go_wp2
          refine wp_region_quiet_below (by kernel_rfl) (by kernel_rfl) ?_
          repeat (go_big_quiet_step (first | (go_at_call 15; with_reducible exact kA _ _) | (go_at_call 15; with_reducible exact kB _ _)))
          refine wpQuiet_nil ?_
          intro w8 hw8
          have g8 : Below wr.heap.size wr w8 := by obtain ⟨p9, rfl⟩ := hw8; exact below_regrown _ _ _
          clear hw8 y1 kA kB u1 u2 u3 u4 u5 v1 v2 v3 v4 v5
          go_wp2
          go_roundg (n - (i + 1))
          case measure => omega
          case rel => exact ⟨i + 1, by omega, rfl, by go_num, .inr ⟨j, q, by omega, rfl, hid ⟨HQ.out.1, by rw [← HS2.out]; exact HQ.out.2⟩⟩, bstep gr g8⟩
    · obtain rfl : i = n := by omega
      rcases hc with ⟨rfl, rfl⟩ | ⟨k, q, hj, rfl, HQ⟩
      · omega
      obtain rfl : q = p := by have := HQ.out.2; rw [List.drop_eq_nil_of_le (by rw [HN.out]; exact Nat.le_refl _)] at this; exact this
      have hr9 := rk_at h9.row HQ.out.1
      have hkn := hj
      have hk0 : ¬ ((k : Int) < 0) := by omega
      go_wp2
      have hc0 := hr9 0 (.int .i64 (q.1.2 : Int)) rfl
      rw [Nat.add_zero] at hc0
      have hc1 : wr.rangeAt gb (off + k * 7 + 1) (frV q.1.1.1 q.1.1.2.1 q.1.1.2.2).toList := sl_frame hr9
      have HS : wr.heap[w.heap.size]? = some (.cells #[.int .i64 (room : Int), .slice (some ⟨gb, off, none⟩) i c, .int .i64 0, .int .i64 (last : Int)] 30 (0, 0)) ∧ wr.cell? ⟨gb, off + k * 7, none⟩ = some (.int .i64 (q.1.2 : Int)) ∧ wr.rangeAt gb (off + k * 7 + 1) (frV q.1.1.1 q.1.1.2.1 q.1.1.2.2).toList := ⟨b9, hc0, hc1⟩
      have hkn : (k : Int) < (i : Int) := by omega
      refine Rest.begin (S := fun w' => w'.heap[w.heap.size]? = some (.cells #[.int .i64 (room : Int), .slice (some ⟨gb, off, none⟩) i c, .int .i64 0, .int .i64 (last : Int)] 30 (0, 0)) ∧ w'.cell? ⟨gb, off + k * 7, none⟩ = some (.int .i64 (q.1.2 : Int)) ∧ w'.rangeAt gb (off + k * 7 + 1) (frV q.1.1.1 q.1.1.2.1 q.1.1.2.2).toList) (X := [3, 4, 5, 9, 10, 11, 12, 13]) (by kernel_rfl) ?_
      change Rest _ _ _ _ _ _ _ _ _ wr.drew
      have HS : wr.drew.heap[w.heap.size]? = some (.cells #[.int .i64 (room : Int), .slice (some ⟨gb, off, none⟩) i c, .int .i64 0, .int .i64 (last : Int)] 30 (0, 0)) ∧ wr.drew.cell? ⟨gb, off + k * 7, none⟩ = some (.int .i64 (q.1.2 : Int)) ∧ wr.drew.rangeAt gb (off + k * 7 + 1) (frV q.1.1.1 q.1.1.2.1 q.1.1.2.2).toList := HS
      refine Rest.take (i := 0) (v := .pointer (some ⟨w.heap.size, 1, none⟩)) rfl (by kernel_rfl) (by kernel_rfl) (by kernel_rfl) (by kernel_rfl) (fun _ _ _ h => h) (.inl HS) (Or.inl ⟨by simp [Region.wanted], ?_⟩) ?_
      · intro w; go_simp
      refine Rest.take (i := 2) (v := .int .i64 (k : Int)) rfl (by kernel_rfl) (by kernel_rfl) (by kernel_rfl) (by kernel_rfl) (fun _ _ _ h => h) (.inl HS) (Or.inl ⟨by simp [Region.wanted], ?_⟩) ?_
      · intro w; go_simp
      refine Rest.take (i := 6) (v := .pointer (some ⟨w.heap.size, 1, none⟩)) rfl (by kernel_rfl) (by kernel_rfl) (by kernel_rfl) (by kernel_rfl) (fun _ _ _ h => h) (.inl HS) (Or.inl ⟨by simp [Region.wanted], ?_⟩) ?_
      · intro w; go_simp
      refine Rest.take (i := 8) (v := .int .i64 (k : Int)) rfl (by kernel_rfl) (by kernel_rfl) (by kernel_rfl) (by kernel_rfl) (fun _ _ _ h => h) (.inl HS) (Or.inl ⟨by simp [Region.wanted], ?_⟩) ?_
      · intro w; go_simp
      refine Rest.takeS (i := 1) (v := .slice (some ⟨gb, off, none⟩) i c) rfl (by kernel_rfl) (by kernel_rfl) (by kernel_rfl) (by kernel_rfl) (fun _ _ _ h => h) HS (.inl ⟨by simp [Region.wanted], ?_⟩) ?_
      · intro w' hw; have q := (bx4m hw.1).2.1; go_simp
      refine Rest.takeS (i := 7) (v := .slice (some ⟨gb, off, none⟩) i c) rfl (by kernel_rfl) (by kernel_rfl) (by kernel_rfl) (by kernel_rfl) (fun _ _ _ h => h) HS (.inl ⟨by simp [Region.wanted], ?_⟩) ?_
      · intro w' hw; have q := (bx4m hw.1).2.1; go_simp
      refine Rest.takeS (i := 3) (v := .pointer (some ⟨gb, off + k * 7, none⟩)) rfl (by kernel_rfl) (by kernel_rfl) (by kernel_rfl) (by kernel_rfl) (fun _ _ _ h => h) HS (.inl ⟨by simp [Region.wanted], ?_⟩) ?_
      · intro w' hw; go_simp
      refine Rest.takeS (i := 9) (v := .pointer (some ⟨gb, off + k * 7, none⟩)) rfl (by kernel_rfl) (by kernel_rfl) (by kernel_rfl) (by kernel_rfl) (fun _ _ _ h => h) HS (.inl ⟨by simp [Region.wanted], ?_⟩) ?_
      · intro w' hw; go_simp
      refine Rest.takeS (i := 4) (v := .pointer (some ⟨gb, off + k * 7, none⟩)) rfl (by kernel_rfl) (by kernel_rfl) (by kernel_rfl) (by kernel_rfl) (fun _ _ _ h => h) HS (.inl ⟨by simp [Region.wanted], ?_⟩) ?_
      · intro w' hw; go_simp
      refine Rest.takeS (i := 10) (v := .pointer (some ⟨gb, off + k * 7 + 1, none⟩)) rfl (by kernel_rfl) (by kernel_rfl) (by kernel_rfl) (by kernel_rfl) (fun _ _ _ h => h) HS (.inl ⟨by simp [Region.wanted], ?_⟩) ?_
      · intro w' hw; go_simp
      refine Rest.takeS (i := 5) (v := .int .i64 (q.1.2 : Int)) rfl (by kernel_rfl) (by kernel_rfl) (by kernel_rfl) (by kernel_rfl) (fun _ _ _ h => h) HS (.inl ⟨by simp [Region.wanted], ?_⟩) ?_
      · intro w' hw; have q := hw.2.1; go_simp
      refine Rest.takeS (i := 11) (v := .agg (frV q.1.1.1 q.1.1.2.1 q.1.1.2.2)) rfl (by kernel_rfl) (by kernel_rfl) (by kernel_rfl) (by kernel_rfl) (fun _ _ _ h => h) HS (yields_loadM rowF (by simp [Region.wanted]) _ rfl gb (off + k * 7 + 1) (by simp [Act.eval, Act.put]) _ rfl (fun w' hw => hw.2.2)) ?_
      refine Rest.one (i := 12) (by kernel_rfl) rfl (fun K hK => ?_)
      rw [if_pos (by simp [Region.wanted])]
      go_simp
      refine hK _ _ ⟨.inl HS, ?_⟩; clear hK K
      refine Rest.one (i := 13) (by kernel_rfl) rfl (fun K hK => ?_)
      refine draw_storeR rowF rfl _ _ rfl r (frV q.1.1.1 q.1.1.2.1 q.1.1.2.2) rfl rfl (show wr.drew.heap[r]? = _ from r9) rfl rfl (fr_ones _ _ _) ?_
      refine hK _ _ ⟨.inr (thru_of (by kernel_rfl)), Rest.of_any _ _ _ _ (thru_of (by kernel_rfl)) ?_⟩; clear hK K
      refine wpAny_take (i := 14) (v := .bool true) rfl (by kernel_rfl) (by kernel_rfl) (by kernel_rfl) (fun _ _ _ h => h) (Or.inl ⟨by simp [Region.wanted], ?_⟩) ?_
      · intro w; go_simp
      refine wpAny_done (by kernel_rfl) ?_ _
      go_wp2
      exact bodyPost_ret (v := .tuple #[.int .i64 (q.1.2 : Int), .agg (frV q.1.1.1 q.1.1.2.1 q.1.1.2.2), .bool true]) (results_row_mid rowF rfl _ _ _ rfl rfl rfl (setRow_heap _ _ _ _ _ _ (show wr.drew.heap[r]? = _ from r9)) rfl) rfl ⟨rfl, below_setRow gg9.drew (Nat.le_of_lt hr0) _⟩
end
end Go.Proofs.Ytffbkcjkmhjfnaa
