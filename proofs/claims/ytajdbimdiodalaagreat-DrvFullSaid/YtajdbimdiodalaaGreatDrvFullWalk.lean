/-
  The walk of the statement DrvFull: for any two bytes it returns true, and nothing that was there has changed.
-/
import Derived.Test.YtajdbimdiodalaaGreatZb9
namespace Go.Proofs.YtajdbimdiodalaaGreat
open Go.RowKit Go.Sort
set_option linter.unusedVariables false

/-- Two drivers and the list of them. -/
structure FuW (B : Nat) (w : World) (sb ga gb : Nat) (a b : Dv) (ka kb : Dm) (Sa Sb : Nat → Prop) : Prop where
  bus : BuO B w [⟨ga, a, ka, Sa⟩, ⟨gb, b, kb, Sb⟩]
  row : w.heap[sb]? = some (.cells #[pvD ga, pvD gb] 24 (0, 0))
  ns : ¬ busS [⟨ga, a, ka, Sa⟩, ⟨gb, b, kb, Sb⟩] sb

section
variable {B : Nat} {w w1 : World} {sb ga gb : Nat} {a b : Dv} {ka kb : Dm} {Sa Sb : Nat → Prop}
theorem FuW.ma (h : FuW B w sb ga gb a b ka kb Sa Sb) : DvM B w ga a ka Sa := h.bus.dv ⟨ga, a, ka, Sa⟩ (by simp)
theorem FuW.mb (h : FuW B w sb ga gb a b ka kb Sa Sb) : DvM B w gb b kb Sb := h.bus.dv ⟨gb, b, kb, Sb⟩ (by simp)
theorem FuW.below (h : FuW B w sb ga gb a b ka kb Sa Sb) (k : Below w.heap.size w w1) : FuW B w1 sb ga gb a b ka kb Sa Sb := ⟨h.bus.below k, bx_below h.row k, h.ns⟩
theorem FuW.rl (h : FuW B w sb ga gb a b ka kb Sa Sb) : RL pvD w (some ⟨sb, 0, none⟩) 2 2 (gsD [⟨ga, a, ka, Sa⟩, ⟨gb, b, kb, Sb⟩]) :=
  ⟨rfl, Nat.le_refl _, fun _ => ⟨sb, 0, rfl, bx_lt h.row, fun i x hx => by
    rw [cell_of_row w sb _ _ _ _ h.row]
    match i, hx with
    | 0, hx => cases hx; rfl
    | 1, hx => cases hx; rfl
    | i + 2, hx => simp [gsD] at hx⟩⟩
/-- The first one, or the second one, has changed. -/
theorem FuW.setA (h : FuW B w sb ga gb a b ka kb Sa Sb) {a' : Dv} (o : DvR B w ga ka Sa a' w1) : ∃ k' S', FuW B w1 sb ga gb a' b k' kb S' Sb ∧ Ch (wrS ga ka) w w1 := by
  obtain ⟨k', S', o1, c, s, x⟩ := o
  obtain ⟨p1, p2, p3, p4, _⟩ := h.bus.set (i := 0) (x := ⟨ga, a, ka, Sa⟩) rfl o1 c s x
  rw [List.set_cons_zero] at p1 p3
  refine ⟨k', S', ⟨p1, c.bx h.row (fun e => h.ns ⟨⟨ga, a, ka, Sa⟩, by simp, h.ma.wr e⟩), fun e => ?_⟩, c⟩
  rcases p3 sb e with y | y
  · exact h.ns y
  · have := bx_lt h.row; omega
theorem FuW.setB (h : FuW B w sb ga gb a b ka kb Sa Sb) {b' : Dv} (o : DvR B w gb kb Sb b' w1) : ∃ k' S', FuW B w1 sb ga gb a b' ka k' Sa S' ∧ Ch (wrS gb kb) w w1 := by
  obtain ⟨k', S', o1, c, s, x⟩ := o
  obtain ⟨p1, p2, p3, p4, _⟩ := h.bus.set (i := 1) (x := ⟨gb, b, kb, Sb⟩) rfl o1 c s x
  rw [List.set_cons_succ, List.set_cons_zero] at p1 p3
  refine ⟨k', S', ⟨p1, c.bx h.row (fun e => h.ns ⟨⟨gb, b, kb, Sb⟩, by simp, h.mb.wr e⟩), fun e => ?_⟩, c⟩
  rcases p3 sb e with y | y
  · exact h.ns y
  · have := bx_lt h.row; omega
/-- A run of both. -/
def FuRun (B : Nat) (w : World) (sb ga gb j m : Nat) (a' b' : Dv) (t : No) (s : Bool) (e : Ending) (w' : World) : Prop := ∃ a c j' ka kb Sa Sb, e = .returned (.tuple #[.agg (noV t a c), .bool s]) ∧ FuW B w' sb ga gb a' b' ka kb Sa Sb ∧ DvG j' a' ∧ DvG j' b' ∧ j' ≤ j + m ∧ (∀ B0 w0, Below B0 w0 w → B0 ≤ w0.heap.size → B0 ≤ B → Below B0 w0 w')
theorem FuW.run (h : FuW B w sb ga gb a b ka kb Sa Sb) {j m : Nat} (hA : DvG j a) (hB : DvG j b) (hj : j + m ≤ 1000000000) {a' b' : Dv} {t : No} {s : Bool} (hr : ruD m [a, b] = ([a', b'], t, s)) :
    Calls Tryz.prog 23 #[.slice (some ⟨sb, 0, none⟩) 2 2, .int .i64 (m : Int)] w (FuRun B w sb ga gb j m a' b' t s) := by
  refine (run_x (run14_any B w [⟨ga, a, ka, Sa⟩, ⟨gb, b, kb, Sb⟩] (some ⟨sb, 0, none⟩) 2 2 j m h.rl (fun q hq hb => by cases hq; exact h.ns (h.bus.wr hb)) h.bus (fun x hx => ?_) hj (by omega) (by omega)) hr).mono ?_
  · rcases List.mem_cons.1 hx with rfl | hx
    · exact hA
    · rw [List.mem_singleton] at hx; subst hx; exact hB
  · rintro e w' ⟨ra, rc, l', j', rfl, d1, d2, d3, d4, d5, d6, d7, d8, d9, d10, d11⟩
    rcases l' with _ | ⟨⟨g1, x1, k1, S1⟩, _ | ⟨⟨g2, x2, k2, S2⟩, _ | ⟨z, l⟩⟩⟩
    · cases d1
    · cases d1
    · simp only [dsD, List.map_cons, List.map_nil, List.cons.injEq] at d1
      simp only [gsD, List.map_cons, List.map_nil, List.cons.injEq] at d2
      obtain ⟨rfl, rfl, _⟩ := d1
      obtain ⟨rfl, rfl, _⟩ := d2
      refine ⟨ra, rc, j', k1, k2, S1, S2, rfl, ⟨d3, d4.bx h.row (fun e => h.ns (h.bus.wr e)), fun e => ?_⟩, d7 ⟨g1, x1, k1, S1⟩ (by simp), d7 ⟨g2, x2, k2, S2⟩ (by simp), d9, fun B0 w0 hb h0 h1 => d4.below hb h0 (fun b hb => Nat.le_trans h1 (h.bus.lt (h.bus.wr hb)).2)⟩
      rcases d5 sb e with y | y
      · exact h.ns y
      · have := bx_lt h.row; omega
    · simp [dsD] at d1
end

set_option maxRecDepth 100000 in
set_option maxHeartbeats 8000000 in
theorem drvFull_walk (w : World) (y0 y1 : Nat) (h0 : y0 ≤ 255) (h1 : y1 ≤ 255) :
    Calls Tryz.prog 6 #[.int .u8 (y0 : Int), .int .u8 (y1 : Int)] w fun e w' => e = .returned (.bool true) ∧ Below w.heap.size w w' := by
  obtain ⟨m5, hm5⟩ : ∃ m5, m5 = y0 % 5 := ⟨_, rfl⟩
  obtain ⟨n, hn⟩ : ∃ n, n = m5 + 1 := ⟨_, rfl⟩
  have e5 : (y0 : Int) % 5 = (m5 : Int) := by omega
  have en : (1 : Int) + (m5 : Int) = (n : Int) := by omega
  have HB : Hid (1 ≤ n ∧ n ≤ 5) := hid (by omega)
  have hNa : ∀ w1, Calls Tryz.prog 9 #[.slice none 0 0, .int .i64 20, .int .i64 1] w1 (NewD w1 [] 20 1) := fun w1 => dvNew_any w1 none 0 0 [] ⟨rfl, Nat.le_refl _, fun h => by omega⟩ (fun x hx => by cases hx) (by omega) rfl 20 1 (by omega) (by omega) (by omega) (by omega)
  have hNb : ∀ w1, Calls Tryz.prog 9 #[.slice none 0 0, .int .i64 1, .int .i64 (n : Int)] w1 (NewD w1 [] 1 n) := fun w1 => dvNew_any w1 none 0 0 [] ⟨rfl, Nat.le_refl _, fun h => by omega⟩ (fun x hx => by cases hx) (by omega) rfl 1 n (by omega) (by omega) (by omega) (by omega)
  clear hn hm5 h0
  go_enter Tryz.func6, Tryz.ntmps6
  go_upto_region 3 with (go_at_call 9; (with_reducible refine (hNa _).mono ?_); rintro e w1 ⟨ga, ka, Sa, rfl, o1, b1⟩)
  go_upto_region 6 with (go_at_call 9; (with_reducible refine (hNb _).mono ?_); rintro e w2 ⟨gb, kb, Sb, rfl, o2, b2⟩)
  rw [pass_nil] at o1 o2
  have s1L := o1.sL
  have o1 := o1.below b2
  have hdis : ∀ b, Sa b → ¬ Sb b := fun b h1 h2 => by
    have := o2.sB b h2
    have := s1L b h1
    omega
  have o2 := o2.mono b1.size
  have b12 := bstep b1 b2
  obtain ⟨sb, hsb⟩ : ∃ sb, sb = w2.heap.size := ⟨_, rfl⟩
  obtain ⟨w3, hw3, W0, g3⟩ : ∃ w3, Hid (w2.alloc (.cells #[pvD ga, pvD gb] 24) = w3) ∧ FuW w.heap.size w3 sb ga gb (newD (fun _ => true) 20 1) (newD (fun _ => true) 1 n) ka kb Sa Sb ∧ Below w.heap.size w w3 := by
    have hbus : BuO w.heap.size w2 [⟨ga, _, ka, Sa⟩, ⟨gb, _, kb, Sb⟩] := BuO.two o1 o2 hdis
    refine ⟨_, rfl, ⟨hbus.below (bnew0 w2 _), hsb ▸ heap_alloc_new w2 _, fun e => ?_⟩, bnew b12 _⟩
    have := (hbus.lt e).1
    omega
  have HSB := hid hsb
  clear hsb o1 o2 s1L hdis b12 b1 b2 hNa hNb
  go_wp2_with (rw [← HSB.out, hw3.out])
  go_loopg [48] (n + 1) (fun gn s48 wr => ∃ (i j : Nat) (a b : Dv) (ka kb : Dm) (Sa Sb : Nat → Prop), i ≤ n + 1 ∧ gn = n + 1 - i ∧ s48 = .int .i64 (i : Int) ∧ j ≤ 300 * i ∧ Hid (FuI n y1 i a b) ∧ FuW w.heap.size wr sb ga gb a b ka kb Sa Sb ∧ DvG j a ∧ DvG j b ∧ Below w.heap.size w wr)
  case atStart => exact ⟨0, 0, _, _, ka, kb, Sa, Sb, by omega, by omega, rfl, by omega, full_start n y1, W0, newD_G _ _ _, newD_G _ _ _, g3⟩
  case round =>
    obtain ⟨i, j, a, b, ka, kb, Sa, Sb, hi, rfl, rfl, hj, HF, W, hA, hB, gg⟩ := hrel
    clear W0 g3 hw3
    by_cases hlt : i < n + 1
    · obtain ⟨hl, hov, a', b', M, hr, HF'⟩ := full_next HF.out (by omega) HB.out.1 HB.out.2 h1
      have hpu : a.q.puts = i := HF.out.pa
      have HF2 := hid HF'
      have HR := hid hr
      have hS : ∀ w4, Below wr.heap.size wr w4 → Calls Tryz.prog 22 #[.pointer (some ⟨ga, 0, none⟩), .agg (frV (baF (y1 + i)) none 0)] w4 fun r w' => r = .returned (.tuple #[.int .i64 ((i : Int) + 1), .int .i64 0]) ∧ DvR w.heap.size w4 ga ka Sa (snD a (baF (y1 + i))) w' := fun w4 g4 => by
        have := dvSend_any (W.below g4).ma hA (by have := HB.out; omega) (baF (y1 + i)) none 0 (base_good (by have := HB.out; omega)) hl (by have := HB.out; omega) (fun w' _ => RL.nil _ _ _ _)
        rwa [hpu] at this
      have hBs : ∀ w1, Calls Tryz.prog 31 #[.int .u32 ((y1 : Int) + (i : Int))] w1 fun e w' => e = .returned (.agg (frV (baF (y1 + i)) none 0)) ∧ Below w1.heap.size w1 w' := fun w1 => by have := base14_any w1 (y1 + i); rwa [Int.natCast_add] at this
      have hG2 := snD_G hA (base_good (id := y1 + i) (by have := HB.out; omega))
      have hO : ∀ w4 ka' Sa', FuW w.heap.size w4 sb ga gb (snD a (baF (y1 + i))) b ka' kb Sa' Sb → Calls Tryz.prog 15 #[.pointer (some ⟨gb, 0, none⟩)] w4 fun e w' => e = .returned (.bool false) ∧ w4 = w' := fun w4 ka' Sa' h => by
        have := dvOver_any h.mb; rwa [hov] at this
      have c1 : (i : Int) % 4294967296 = (i : Int) := by have := HB.out; omega
      have c2 : ((y1 : Int) + (i : Int)) % 4294967296 = (y1 : Int) + (i : Int) := by have := HB.out; omega
      have hj3 : j + 300 ≤ 1000000000 := by have := HB.out; omega
      generalize snD a (baF (y1 + i)) = a1 at *
      clear hr HF' hpu hl hov HF
      go_upto_region 11 with (first
        | (go_at_call 31; (with_reducible refine (hBs _).mono ?_); rintro e w4 ⟨rfl, g4⟩; have hS' := hS _ g4)
        | (go_at_call 22; (with_reducible refine hS'.mono ?_); rintro e w5 ⟨rfl, o5⟩))
      obtain ⟨ka5, Sa5, W5, ch5⟩ := (W.below g4).setA o5
      have gg5 : Below w.heap.size w w5 := ch5.below (bstep gg g4) (Nat.le_refl _) (fun b hb => (W.below g4).ma.sB b ((W.below g4).ma.wr hb))
      have hO5 := hO _ _ _ W5
      have HRun : Calls Tryz.prog 23 #[.slice (some ⟨sb, 0, none⟩) 2 2, .int .i64 300] w5 (FuRun w.heap.size w5 sb ga gb j 300 a' b' (1, M, baF (y1 + i)) true) := W5.run hG2 hB hj3 HR.out
      clear hS hS' hO hBs W gg g4 ch5 c1 c2
      go_upto_region 14 with (first
        | (go_at_call 15; (with_reducible refine hO5.mono ?_); rintro e w6 ⟨rfl, rfl⟩)
        | (go_at_call 23; (with_reducible refine HRun.mono ?_); rintro e w7 ⟨ra, rc, j7, ka7, kb7, Sa7, Sb7, rfl, W7, hA7, hB7, hj7, be7⟩
           have z7 := heap_alloc_new w7 (.cells noZ 73))
        | (with_reducible refine wpList_storeR rowN rfl _ _ rfl _ _ rfl rfl z7 rfl rfl (no_ones _ _ _) ?_))
      have gg7 := be7 _ _ gg5 (Nat.le_refl _) (Nat.le_refl _)
      have g8 : Below w7.heap.size w7 ((w7.alloc (.cells noZ 73)).setRow w7.heap.size (noV (1, M, baF (y1 + i)) ra rc)) := below_setRow (bnew0 w7 _) (Nat.le_refl _) _
      have W8 := W7.below g8
      have gg8 := bstep gg7 g8
      clear z7 HRun hO5 W5 gg5 W7 gg7 be7 g8
      generalize (w7.alloc (.cells noZ 73)).setRow w7.heap.size (noV (1, M, baF (y1 + i)) ra rc) = V at *
      go_wp2
      go_roundg (n + 1 - (i + 1))
      case measure => omega
      case rel => exact ⟨i + 1, j7, a', b', ka7, kb7, Sa7, Sb7, by omega, rfl, by go_num, by omega, HF2, W8, hA7, hB7, gg8⟩
    · obtain rfl : i = n + 1 := by omega
      obtain ⟨tm, rs, hx, hrl, hov, hl, a', b', M, hr, hrl2, hov2⟩ := full_end HF.out HB.out.1 HB.out.2
      have hpu : a.q.puts = n + 1 := HF.out.pa
      have HR := hid hr
      have HL := hid hrl
      have HL2 := hid hrl2
      have hRd := dvRead_any W.mb (baF y1, tm) rs hx
      have hj3 : j + 300 ≤ 1000000000 := by have := HB.out; omega
      have hGr : DvG j { b with rx := rs, ov := false } := by
        have := hB.I.kp
        rw [hx, List.length_cons] at this
        exact hB.rx (by omega) false
      have hsn : snD a (baF 1000) = snD a (baF 1000) := rfl
      have hS : ∀ w4 (ka' : Dm) (Sa' : Nat → Prop), DvM w.heap.size w4 ga a ka' Sa' → Calls Tryz.prog 22 #[.pointer (some ⟨ga, 0, none⟩), .agg (frV (baF 1000) none 0)] w4 fun r w' => r = .returned (.tuple #[.int .i64 ((n : Int) + 1 + 1), .int .i64 0]) ∧ DvR w.heap.size w4 ga ka' Sa' (snD a (baF 1000)) w' := fun w4 ka' Sa' g4 => by
        have := dvSend_any g4 hA (by omega) (baF 1000) none 0 (base_good (by omega)) hl (by have := HB.out; omega) (fun w' _ => RL.nil _ _ _ _)
        rw [hpu] at this
        rwa [show ((n + 1 : Nat) : Int) + 1 = (n : Int) + 1 + 1 by omega] at this
      have hBs : ∀ w1, Calls Tryz.prog 31 #[.int .u32 1000] w1 fun e w' => e = .returned (.agg (frV (baF 1000) none 0)) ∧ Below w1.heap.size w1 w' := fun w1 => base14_any w1 1000
      have hG2 := snD_G hA (base_good (id := 1000) (by omega))
      generalize snD a (baF 1000) = a1 at *
      clear hr hrl hrl2 hlt HF hsn
      go_upto_region 18 with (first
        | (go_at_call 26; (with_reducible refine hRd.mono ?_); rintro e w4 ⟨da, dc, rfl, od, o4⟩
           have z4 := heap_alloc_new w4 (.cells rxZ 80))
        | (with_reducible refine wpList_storeR rowX rfl _ _ rfl _ _ rfl rfl z4 rfl rfl (rx_ones _) ?_))
      obtain ⟨kb4, Sb4, W4, ch4⟩ := W.setB o4
      have gg4 : Below w.heap.size w w4 := ch4.below gg (Nat.le_refl _) (fun b hb => W.mb.sB b (W.mb.wr hb))
      have g5 : Below w4.heap.size w4 ((w4.alloc (.cells rxZ 80)).setRow w4.heap.size (rxV ((baF y1, (da, dc)), tm))) := below_setRow (bnew0 w4 _) (Nat.le_refl _) _
      have q5 : ((w4.alloc (.cells rxZ 80)).setRow w4.heap.size (rxV ((baF y1, (da, dc)), tm))).cell? ⟨w4.heap.size, 0, none⟩ = some (.int .u32 (y1 : Int)) := by rw [cell_of_row _ _ 0 _ _ _ (setRow_heap _ _ _ _ _ _ z4)]; rfl
      have W5 := W4.below g5
      have gg5 := bstep gg4 g5
      clear z4 hRd W gg od o4 ch4 W4 gg4 g5
      generalize (w4.alloc (.cells rxZ 80)).setRow w4.heap.size (rxV ((baF y1, (da, dc)), tm)) = V at *
      generalize w4.heap.size = xb at *
      have hFl := dvFill_any W5.mb
      rw [show ({ b with rx := rs } : Dv).rx.length = n - 1 from HL.out] at hFl
      have hn1 : ((n - 1 : Nat) : Int) = (n : Int) - 1 := by have := HB.out; omega
      rw [hn1] at hFl
      clear hn1
      go_upto_region 19 with (go_at_call 14; (with_reducible refine hFl.mono ?_); rintro e w6 ⟨rfl, g6⟩)
      have W6 := W5.below g6
      have gg6 := bstep gg5 g6
      have q6 := (g6.cell (p := ⟨xb, 0, none⟩) (block_lt_of_cell q5)).trans q5
      clear W5 gg5 g6 q5 hFl
      have hO := dvOver_any W6.mb
      rw [show ({ b with rx := rs } : Dv).ov = true from hov] at hO
      have hC := dvClear_any W6.mb
      rw [show ({ b with rx := rs } : Dv).ov = true from hov] at hC
      have hC2 : ∀ w7, DvR w.heap.size w6 gb kb4 Sb4 { b with rx := rs, ov := false } w7 → Calls Tryz.prog 32 #[.pointer (some ⟨gb, 0, none⟩)] w7 fun e w' => e = .returned (.bool false) ∧ ∃ kb8 Sb8, FuW w.heap.size w' sb ga gb a { b with rx := rs, ov := false } ka kb8 Sa Sb8 ∧ Below w.heap.size w w' := fun w7 o7 => by
        obtain ⟨kb7, Sb7, W7, ch7⟩ := W6.setB o7
        refine (dvClear_any W7.mb).mono ?_
        rintro e w8 ⟨rfl, o8⟩
        obtain ⟨kb8, Sb8, W8, ch8⟩ := W7.setB o8
        exact ⟨rfl, kb8, Sb8, W8, ch8.below (ch7.below gg6 (Nat.le_refl _) (fun b hb => W6.mb.sB b (W6.mb.wr hb))) (Nat.le_refl _) (fun b hb => W7.mb.sB b (W7.mb.wr hb))⟩
      go_upto_region 21 with (first
        | (go_at_call 15; (with_reducible refine hO.mono ?_); rintro e w7 ⟨rfl, rfl⟩)
        | (go_at_call 32; (with_reducible refine hC.mono ?_); rintro e w7 ⟨rfl, o7⟩; have hC3 := hC2 _ o7)
        | (go_at_call 32; (with_reducible refine hC3.mono ?_); rintro e w8 ⟨rfl, kb8, Sb8, W8, gg8⟩))
      clear hO hC hC2 hC3 W6 gg6 q6 o7
      go_upto_region 22 with (first
        | (go_at_call 31; (with_reducible refine (hBs _).mono ?_); rintro e w9 ⟨rfl, g9⟩; have hS9 := hS _ _ _ (W8.below g9).ma)
        | (go_at_call 22; (with_reducible refine hS9.mono ?_); rintro e w10 ⟨rfl, o10⟩))
      obtain ⟨ka10, Sa10, W10, ch10⟩ := (W8.below g9).setA o10
      have gg10 : Below w.heap.size w w10 := ch10.below (bstep gg8 g9) (Nat.le_refl _) (fun b hb => (W8.below g9).ma.sB b ((W8.below g9).ma.wr hb))
      have HRun : Calls Tryz.prog 23 #[.slice (some ⟨sb, 0, none⟩) 2 2, .int .i64 300] w10 (FuRun w.heap.size w10 sb ga gb j 300 a' b' (1, M, baF 1000) true) := W10.run hG2 hGr hj3 HR.out
      clear hS hS9 hBs W8 gg8 g9 ch10 o10
      go_upto_region 25 with (go_at_call 23; (with_reducible refine HRun.mono ?_); rintro e w11 ⟨ra, rc, j11, ka11, kb11, Sa11, Sb11, rfl, W11, hA11, hB11, hj11, be11⟩)
      have gg11 := be11 _ _ gg10 (Nat.le_refl _) (Nat.le_refl _)
      have hFl := dvFill_any W11.mb
      rw [HL2.out] at hFl
      have hO := fun (w12 : World) (g : Below w11.heap.size w11 w12) => dvOver_any (W11.below g).mb
      rw [hov2] at hO
      clear HRun W10 gg10 be11
      go_wp2_with (first
        | (go_at_call 14; (with_reducible refine hFl.mono ?_); rintro e w12 ⟨rfl, g12⟩; have hO12 := hO _ g12)
        | (go_at_call 15; (with_reducible refine hO12.mono ?_); rintro e w13 ⟨rfl, rfl⟩)
        | (go_at_call 11; (with_reducible refine (awake14_any _).mono ?_); rintro e w14 ⟨rfl, g14⟩))
      go_ret
      exact ⟨rfl, bstep (bstep gg11 g12) g14⟩
end Go.Proofs.YtajdbimdiodalaaGreat
