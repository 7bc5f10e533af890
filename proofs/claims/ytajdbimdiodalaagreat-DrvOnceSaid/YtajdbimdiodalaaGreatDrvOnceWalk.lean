/-
  The walk of the statement DrvOnce: for any rooms, frames, bits and numbers it returns true, and nothing that was there has changed.
-/
import Derived.Test.YtajdbimdiodalaaGreatZb9
namespace Go.Proofs.YtajdbimdiodalaaGreat
open Go.RowKit Go.Sort Go.Maps
set_option linter.unusedVariables false

/-- Only one block has turned. -/
theorem ch_grown {w w1 : World} {b : Nat} (h : w.grownBy w1 (some b)) : Ch (fun k => k = b) w w1 := ⟨h.os, h.tape, h.output, h.size, fun k hk hn => h.block k hk (fun e => hn (by cases e; rfl))⟩
theorem tightO {w : World} {b n : Nat} {D : DataW Unit} (h : MI w b n D) : w.ownsMap Tryz.prog 3 (plainElem Tryz.prog 3) b (Maps.size D) D := by
  obtain ⟨es, clock, hb, F, hs, rfl⟩ := h
  exact ⟨es, clock, hb, F, by simp [Maps.size, length_sorted], rfl⟩

/-- The driver and the map of what was told. -/
structure OcW (B : Nat) (w : World) (g mb : Nat) (d : Dv) (k : Dm) (S : Nat → Prop) (ts : List Int) : Prop where
  dv : DvM B w g d k S
  mp : ∃ D n, MI w mb n D ∧ Met D ts
  ns : ¬ S mb
  mB : B ≤ mb
  ml : mb < w.heap.size
section
variable {B : Nat} {w w0 w1 : World} {g mb : Nat} {d d' : Dv} {k : Dm} {S : Nat → Prop} {ts ts' : List Int}
theorem OcW.below (h : OcW B w g mb d k S ts) (c : Below w.heap.size w w1) : OcW B w1 g mb d k S ts := by
  obtain ⟨D, n, h1, h2⟩ := h.mp
  exact ⟨h.dv.below c, ⟨D, n, h1.below c, h2⟩, h.ns, h.mB, Nat.lt_of_lt_of_le h.ml c.size⟩
theorem OcW.set (h : OcW B w g mb d k S ts) (o : DvR B w g k S d' w1) : ∃ k' S', OcW B w1 g mb d' k' S' ts ∧ Ch (wrS g k) w w1 := by
  obtain ⟨k', S', o1, c, s, x⟩ := o
  obtain ⟨D, n, h1, h2⟩ := h.mp
  refine ⟨k', S', ⟨o1, ⟨D, n, h1.ch c (fun e => h.ns (h.dv.wr e)), h2⟩, fun e => ?_, h.mB, Nat.lt_of_lt_of_le h.ml c.size⟩, c⟩
  rcases s mb e with y | y
  · exact h.ns y
  · have := h.ml; omega
theorem OcW.turn (h : OcW B w g mb d k S ts) {D : DataW Unit} {n : Nat} (h1 : MI w1 mb n D) (h2 : Met D ts') (c : w.grownBy w1 (some mb)) : OcW B w1 g mb d k S ts' := by
  have e := ch_grown c
  exact ⟨h.dv.ch e (fun b hb x => h.ns (x ▸ hb)), ⟨D, n, h1, h2⟩, h.ns, h.mB, Nat.lt_of_lt_of_le h.ml e.size⟩
theorem OcW.bel (h : OcW B w g mb d k S ts) (c : Ch (wrS g k) w w1) (g0 : Below B w0 w) (hB : B ≤ w0.heap.size) : Below B w0 w1 := c.below g0 hB (fun b hb => h.dv.sB b (h.dv.wr hb))
theorem OcW.belT (h : OcW B w g mb d k S ts) (c : w.grownBy w1 (some mb)) (g0 : Below B w0 w) (hB : B ≤ w0.heap.size) : Below B w0 w1 := (ch_grown c).below g0 hB (fun b hb => by rw [hb]; exact h.mB)
/-- A look-up. -/
theorem OcW.look (h : OcW B w g mb d k S ts) {t : Int} (hwf : (Lit.int .i64 t).wf = true) : ∃ c : Int, (Instr.lookup 86 (.map (some mb)) (.int .i64 t) false).run Tryz.prog w = .ok (.int .i64 c) w ∧ (t ∉ ts → c = 0) := by
  obtain ⟨D, n, h1, h2⟩ := h.mp
  obtain ⟨c, hrun, hat, _⟩ := World.ownsMap.lookup_int h1 lawI Tryz.underlying86 Tryz.underlying3 (zeroI _) (keyOf_int_mk Tryz.underlying3 hwf)
  refine ⟨c, hrun, fun e => ?_⟩
  have := h2.no e
  rw [hat] at this
  simpa using this
/-- A look-up, in any world behind it. -/
theorem OcW.look2 (h : OcW B w g mb d k S ts) {t : Int} (hwf : (Lit.int .i64 t).wf = true) : ∃ c : Int, (t ∉ ts → c = 0) ∧ ∀ w1, Below w.heap.size w w1 → (Instr.lookup 86 (.map (some mb)) (.int .i64 t) false).run Tryz.prog w1 = .ok (.int .i64 c) w1 := by
  obtain ⟨D, n, h1, h2⟩ := h.mp
  obtain ⟨c, hrun, hat, _⟩ := World.ownsMap.lookup_int h1 lawI Tryz.underlying86 Tryz.underlying3 (zeroI _) (keyOf_int_mk Tryz.underlying3 hwf)
  refine ⟨c, fun e => ?_, fun w1 g1 => ?_⟩
  · have := h2.no e
    rw [hat] at this
    simpa using this
  · obtain ⟨c', hrun', hat', _⟩ := World.ownsMap.lookup_int (h1.below g1) lawI Tryz.underlying86 Tryz.underlying3 (zeroI _) (keyOf_int_mk Tryz.underlying3 hwf)
    rw [hrun']
    rw [hat] at hat'
    have : c = c' := by simpa using hat'
    rw [this]
end

set_option maxRecDepth 100000 in
set_option maxHeartbeats 16000000 in
theorem drvOnce_walk (w : World) (y0 y1 : Nat) (a2 : Option Addr) (n2 c2 : Nat) (fs : List Ff) (a3 : Option Addr) (n3 c3 : Nat) (rs : List Br) (a4 : Option Addr) (n4 c4 : Nat) (l4 : List UInt8)
    (h0 : y0 ≤ 255) (h1 : y1 ≤ 255) (hf : FrR w a2 n2 c2 fs) (hrs : BrR w a3 n3 c3 rs) (hl4 : RL bv w a4 n4 c4 l4) (hd : ∀ p ∈ fs, p.1.data.length ≤ 9223372036854775807) (m2 : n2 ≤ 9223372036854775807) (m3 : n3 ≤ 9223372036854775807) (m4 : n4 ≤ 9223372036854775807) :
    Calls Tryz.prog 5 #[.int .u8 (y0 : Int), .int .u8 (y1 : Int), .slice a2 n2 c2, .slice a3 n3 c3, .slice a4 n4 c4] w fun e w' => e = .returned (.bool true) ∧ Below w.heap.size w w' := by
  obtain ⟨m6, e6⟩ : ∃ m6 : Nat, (y0 : Int) % 6 = (m6 : Int) ∧ m6 < 6 := ⟨y0 % 6, by omega, by omega⟩
  obtain ⟨r4, e4⟩ : ∃ r4 : Nat, (y1 : Int) % 4 = (r4 : Int) ∧ r4 < 4 := ⟨y1 % 4, by omega, by omega⟩
  obtain ⟨most, e7⟩ : ∃ most : Nat, (1 : Int) + (m6 : Int) = (most : Int) ∧ most = m6 + 1 := ⟨m6 + 1, by omega, rfl⟩
  obtain ⟨keeps, e8⟩ : ∃ keeps : Nat, (1 : Int) + (r4 : Int) = (keeps : Int) ∧ keeps = r4 + 1 := ⟨r4 + 1, by omega, rfl⟩
  have HB : Hid (1 ≤ most ∧ most ≤ 6 ∧ 1 ≤ keeps ∧ keeps ≤ 4) := hid (by omega)
  have e61 := e6.1
  have e41 := e4.1
  have e71 := e7.1
  have e81 := e8.1
  have hN : ∀ w1, Calls Tryz.prog 9 #[.slice none 0 0, .int .i64 (most : Int), .int .i64 (keeps : Int)] w1 (NewD w1 [] most keeps) := fun w1 => dvNew_any w1 none 0 0 [] ⟨rfl, Nat.le_refl _, fun h => by omega⟩ (fun x hx => by cases hx) (by omega) rfl most keeps (by omega) (by omega) (by omega) (by omega)
  obtain ⟨L, hmin, hL1, hL2⟩ : ∃ L : Nat, (∀ ts t w', (Builtin.min_ ts t #[.int .i64 (n2 : Int), .int .i64 20]).run Tryz.prog w' = .ok (.int .i64 (L : Int)) w') ∧ L ≤ n2 ∧ L ≤ 20 := by
    refine ⟨min n2 20, fun ts t w' => ?_, by omega, by omega⟩
    rw [run_min_int2]; congr 2; split <;> omega
  have hmm := @run_makeMap Tryz.prog
  have HF := hid hf
  have HR := hid hrs
  have H4 := hid hl4
  clear hf hrs hl4 hd m2 h0 h1 e6 e4 e7 e8
  go_enter Tryz.func5, Tryz.ntmps5
  go_wp2_with (first
    | (go_at_call 9; (with_reducible refine (hN _).mono ?_); rintro e w1 ⟨g, k0, S0, rfl, o1, b1⟩)
    | (with_reducible refine wpList_cutToK0 elF14 rfl _ _ rfl _ _ L rfl rfl rfl HF.out.row hL1 ?_; intro a5 hr5))
  rw [pass_nil] at o1
  have W1 : OcW w.heap.size (w1.alloc (.map #[] 0)) g w1.heap.size (newD (fun _ => true) most keeps) k0 S0 [] :=
    ⟨o1.alloc _, ⟨.map [], 0, World.ownsMap_made w1 Tryz.prog 3 (plainElem Tryz.prog 3), Met.new⟩, fun e => by have := o1.sL _ e; omega, b1.size, by simp⟩
  have g1 : Below w.heap.size w (w1.alloc (.map #[] 0)) := bnew b1 _
  generalize w1.alloc (.map #[] 0) = w2 at *
  generalize w1.heap.size = mb at *
  clear hN o1 b1 hmm hmin e61 e41 e71 e81
  go_loopg [15, 54] L (fun gn s15 vi wr => ∃ (i j put : Nat) (d : Dv) (k : Dm) (S : Nat → Prop) (ts : List Int), i ≤ L ∧ gn = L - i ∧ vi = .int .i64 (i : Int) ∧ s15 = .int .i64 (put : Int) ∧ Hid (put = d.q.puts) ∧ Hid (put ≤ i) ∧ j ≤ 100 * i ∧ ts.length ≤ j ∧ OcW w.heap.size wr g mb d k S ts ∧ Hid (DvG j d) ∧ Hid (OncD most keeps ts d) ∧ Below w.heap.size w wr)
  case atStart => exact ⟨0, 0, 0, newD (fun _ => true) most keeps, k0, S0, [], by omega, by omega, rfl, rfl, hid rfl, hid (Nat.le_refl _), by omega, by simp, W1, hid (newD_G _ _ _), hid (OncD.new most keeps _), g1⟩
  case round =>
    obtain ⟨i, j, put, d, k, S, ts, hi, rfl, rfl, rfl, HP, HPI, hj, htl, W, HG, HO, gg⟩ := hrel
    clear W1 g1
    by_cases hlt : i < L
    rotate_left
    · obtain rfl : i = L := by omega
      go_wp2_with (go_at_call 11; (with_reducible refine (awake14_any wr).mono ?_); rintro e w5 ⟨rfl, g5⟩)
      go_ret
      exact ⟨rfl, bstep gg g5⟩
    · obtain ⟨p, hp⟩ : ∃ p, (fs.take L)[i]? = some p := ⟨_, List.getElem?_eq_getElem (by rw [hr5.len]; exact hlt)⟩
      have hpm : p ∈ fs := List.mem_of_mem_take (List.mem_of_getElem? hp)
      obtain ⟨gb, off, rfl, hgb, hrg⟩ := (hr5.below gg).range hp
      have hdat := HF.out.dat p hpm
      have hid' := HF.out.id p hpm
      have hdl' := HF.out.dl p hpm
      have b2 := heap_alloc_new wr (.cells frZr 35)
      have k2 : Below wr.heap.size wr ((wr.alloc (.cells frZr 35)).setRow wr.heap.size (frV p.1 p.2.1 p.2.2)) := below_setRow (bnew0 wr _) (Nat.le_refl _) _
      have b3 : ((wr.alloc (.cells frZr 35)).setRow wr.heap.size (frV p.1 p.2.1 p.2.2)).heap[wr.heap.size]? = some (.cells (frV p.1 p.2.1 p.2.2) 35 (0, 0)) := setRow_heap _ _ _ _ _ _ b2
      have HPM := hid hpm
      clear hp hpm
      go_upto_region 9 with (first
        | (with_reducible refine wpList_loadM rowF rfl _ rfl _ _ rfl (frV p.1 p.2.1 p.2.2) hrg rfl ?_)
        | (with_reducible refine wpList_storeR rowF rfl _ _ rfl _ _ rfl rfl b2 rfl rfl (fr_ones _ _ _) ?_))
      have W2 := W.below k2
      have gg2 := bstep gg k2
      clear W gg b2 k2 hrg
      generalize (wr.alloc (.cells frZr 35)).setRow wr.heap.size (frV p.1 p.2.1 p.2.2) = V at *
      generalize wr.heap.size = fb at *
      obtain ⟨nv, ev, d1, hS, hev⟩ : ∃ (nv ev : Int) (d1 : Dv), Calls Tryz.prog 22 #[.pointer (some ⟨g, 0, none⟩), .agg (frV p.1 p.2.1 p.2.2)] V (fun r w' => r = .returned (.tuple #[.int .i64 nv, .int .i64 ev]) ∧ DvR w.heap.size V g k S d1 w') ∧ DvG j d1 ∧ OncD most keeps ts d1 ∧ (ev = 0 ∧ nv = (put : Int) + 1 ∧ d1.q.puts = put + 1 ∨ ev ≠ 0 ∧ d1.q.puts = put) := by
        have hp0 := HP.out
        have hp1 := HPI.out
        rcases dvSend_all W2.dv HG.out (by omega) p.1 p.2.1 p.2.2 hid' hdl' (by omega) (fun w' c => hdat.below (W2.dv.belS c gg2)) with ⟨hF, hl, hc⟩ | ⟨z, hz, hc⟩
        · obtain ⟨s1, s2⟩ := HO.out.send HG.out.I hF hl
          exact ⟨_, _, _, hc, snD_G HG.out hF, s1, .inl ⟨rfl, by rw [hp0], by rw [s2, hp0]⟩⟩
        · exact ⟨_, _, _, hc, HG.out, HO.out, .inr ⟨by rcases hz with ⟨h, _⟩ | ⟨h, _⟩ <;> omega, by rw [hp0]⟩⟩
      have HEV := hid hev
      clear hev
      go_upto_if 66 with (first
        | (with_reducible refine wpList_loadR rowF rfl _ rfl _ rfl b3 rfl ?_)
        | (go_at_call 22; (with_reducible refine hS.mono ?_); rintro e w3 ⟨rfl, o3⟩))
      obtain ⟨k3, S3, W3, ch3⟩ := W2.set o3
      have gg3 := W2.bel ch3 gg2 (Nat.le_refl _)
      clear hS b3 W2 gg2 ch3 o3 HP HG HO
      go_cut [15] (fun s15 wx => ∃ put' : Nat, s15 = .int .i64 (put' : Int) ∧ Hid (put' = d1.q.puts) ∧ Hid (put' ≤ i + 1) ∧ wx = w3)
      case first =>
        have hev := HEV.out.2.2
        have hpi := HPI.out
        clear HEV HPI
        rcases hev with ⟨rfl, rfl, h3⟩ | ⟨h1, h3⟩
        · have H3 := hid h3
          clear h3
          go_wp2_with fail
          go_meet
          exact ⟨put + 1, by simp, H3.out.symm, by show put + 1 ≤ i + 1; omega, rfl⟩
        · have i1 : (ev == 0) = false := by simpa using h1
          have H3 := hid h3
          clear h1 h3
          go_wp2_with fail
          go_meet
          exact ⟨put, rfl, H3.out.symm, by show put ≤ i + 1; omega, rfl⟩
      case rest =>
      obtain ⟨put', rfl, HP, HPI', rfl⟩ := hcut
      have HG := hid HEV.out.1
      have HO := hid HEV.out.2.1
      clear HEV HPI
      go_upto_if 75 with (fail)
      go_cut [21] (fun s21 wx => ∃ (ab : Option Addr) (nb cb : Nat) (lb : List Bool), s21 = .slice ab nb cb ∧ nb ≤ 100 ∧ RL .bool w ab nb cb lb ∧ OcW w.heap.size wx g mb d1 k3 S3 ts ∧ Below w.heap.size w wx)
      case first =>
        by_cases hi3 : i < n3
        · obtain ⟨b3, o3, q, rfl, hq, hc⟩ := (HR.out.row.below gg3).at hi3
          have hqd := HR.out.dat q (List.mem_of_getElem? hq)
          obtain ⟨L3, hmin3, hL31, hL32⟩ : ∃ L : Nat, (∀ ts t w', (Builtin.min_ ts t #[.int .i64 (q.2.length : Int), .int .i64 100]).run Tryz.prog w' = .ok (.int .i64 (L : Int)) w') ∧ L ≤ q.2.length ∧ L ≤ 100 := by
            refine ⟨min q.2.length 100, fun ts t w' => ?_, by omega, by omega⟩
            rw [run_min_int2]; congr 2; split <;> omega
          obtain ⟨a6, p1, p2, hr6⟩ := run_cutTo tB hqd .i64 L3 hL31
          have HQ := hid hq
          clear hq hqd
          go_upto_region 16 with (fail)
          go_quiet (fail)
          go_wp2
          go_meet
          refine ⟨a6, L3, q.1.2, q.2.take L3, rfl, hL32, hr6, W3.below (below_drewN (Below.refl _ _) _), below_drewN gg3 _⟩
        · go_wp2_with fail
          go_meet
          exact ⟨none, 0, 0, [], rfl, by omega, RL.nil _ _ _ _, W3, gg3⟩
      case rest =>
      obtain ⟨ab, nb, cb, lb, rfl, hnb, hbits, W4, gg4⟩ := hcut
      clear W3 gg3
      go_wp2_with (fail)
      go_loopg [89] nb (fun gn s89 wr => ∃ (q j4 : Nat) (d4 : Dv) (k4 : Dm) (S4 : Nat → Prop) (ts4 : List Int), q ≤ nb ∧ gn = nb - q ∧ s89 = .int .i64 (q : Int) ∧ j4 ≤ j + q ∧ ts4.length ≤ j4 ∧ Hid (put' = d4.q.puts) ∧ OcW w.heap.size wr g mb d4 k4 S4 ts4 ∧ Hid (DvG j4 d4) ∧ Hid (OncD most keeps ts4 d4) ∧ Below w.heap.size w wr)
      case atStart => exact ⟨0, j, d1, k3, S3, ts, by omega, by omega, rfl, by omega, htl, HP, W4, HG, HO, gg4⟩
      case round =>
        obtain ⟨q, j4, d4, k4, S4, ts4, hq, rfl, rfl, hj4, htl4, HP4, W5, HG4, HO4, gg5⟩ := hrel
        clear W4 gg4 HG HO
        by_cases hqn : q < nb
        · obtain ⟨b5, o5, x, rfl, hx, hc⟩ := (hbits.below gg5).at hqn
          have hok := sm_ok HG4.out.I.on HG4.out.sm (show j4 ≤ 1000000000 by omega)
          have hD := dvDrive_any W5.dv hok
          generalize dvC d4.c = v at *
          have hSt := fun (w6 : World) (g6 : Below wr.heap.size wr w6) (bit : Bool) => dvStep_any (W5.below g6).dv HG4.out (show j4 + 1 ≤ 1000000000 by omega) bit
          have HX := hid hx
          clear hok hx
          go_upto_region 21 with (first
            | (go_at_call 29; (with_reducible refine hD.mono ?_); rintro e w6 ⟨rfl, g6⟩; have hSt6 := hSt _ g6)
            | (go_at_call 28; (with_reducible refine (hSt6 _).mono ?_); rintro e w7 ⟨a7, c7, k7, S7, rfl, od7, nd7, o7, ch7, ss7, xx7⟩
               have z7 := heap_alloc_new w7 (.cells noZ 73))
            | (with_reducible refine wpList_storeR rowN rfl _ _ rfl _ _ rfl rfl z7 rfl rfl (no_ones _ _ _) ?_))
          generalize (!v == x) = bit at *
          have hon := HO4.out.step HG4.out.I bit
          have HG7 := hid (stD_G HG4.out bit)
          have o8 : DvR w.heap.size w6 g k4 S4 (stD d4 bit).1 w7 := ⟨k7, S7, o7, ch7, ss7, xx7⟩
          generalize (stD d4 bit).1 = d7 at *
          generalize (stD d4 bit).2 = t7 at *
          have W6 := W5.below g6
          obtain ⟨k8, S8, W7, ch8⟩ := W6.set o8
          have gg7 := W6.bel ch8 (bstep gg5 g6) (Nat.le_refl _)
          have g8 : Below w7.heap.size w7 ((w7.alloc (.cells noZ 73)).setRow w7.heap.size (noV t7 a7 c7)) := below_setRow (bnew0 w7 _) (Nat.le_refl _) _
          have p8 := setRow_heap (w7.alloc (.cells noZ 73)) w7.heap.size noZ (noV t7 a7 c7) 73 (0, 0) z7
          have W8 := W7.below g8
          have gg8 := bstep gg7 g8
          have q0 : ((w7.alloc (.cells noZ 73)).setRow w7.heap.size (noV t7 a7 c7)).cell? ⟨w7.heap.size, 0, none⟩ = some (.int .u8 (t7.1 : Int)) := by rw [cell_of_row _ _ 0 _ _ _ p8]; rfl
          have q1 : ((w7.alloc (.cells noZ 73)).setRow w7.heap.size (noV t7 a7 c7)).cell? ⟨w7.heap.size, 1, none⟩ = some (.int .i64 (t7.2.1 : Int)) := by rw [cell_of_row _ _ 1 _ _ _ p8]; rfl
          clear hD hSt hSt6 W5 gg5 g6 z7 o7 ch7 ss7 xx7 od7 nd7 o8 W6 ch8 W7 gg7 g8 p8 hc
          generalize (w7.alloc (.cells noZ 73)).setRow w7.heap.size (noV t7 a7 c7) = V2 at *
          generalize w7.heap.size = bx at *
          obtain ⟨hpu, hon⟩ := hon
          have HP7 : Hid (put' = d7.q.puts) := hid (by rw [hpu]; exact HP4.out)
          clear hpu
          rcases hon with ⟨h1, hO⟩ | ⟨h1, n1, n2, n3, n4, hO⟩
          · have i1 : ((t7.1 : Int) == 1) = false := by simp; omega
            have HO7 := hid hO
            clear h1 hO
            go_wp2
            go_roundg (nb - (q + 1))
            case measure => omega
            case rel => exact ⟨q + 1, j4 + 1, d7, k8, S8, ts4, by omega, rfl, by go_num, by omega, by omega, HP7, W8, HG7, HO7, gg8⟩
          · obtain ⟨N, hN⟩ : ∃ N, N = t7.2.1 := ⟨_, rfl⟩
            rw [← hN] at q1 n1 n2 n3 n4 hO
            have hpp := HP4.out
            have hp2 := HPI'.out
            have i1 : ((t7.1 : Int) == 1) = true := by rw [h1]; rfl
            have i2 : ¬ (N : Int) < 1 := by omega
            have i3 : ¬ (put' : Int) < (N : Int) := by omega
            have wfN := wf64 (N : Int) (by omega) (by omega)
            obtain ⟨cN, hrun, hcN⟩ := W8.look wfN
            obtain rfl := hcN n3
            have hWt := dvWaits_any W8.dv (N : Int)
            rw [n4] at hWt
            have HO7 := hid hO
            have HN3 := hid n3
            clear h1 hO hN n1 n2 n4 hpp hp2 hcN n3
            go_upto_region 24 with (go_at_call 17; (with_reducible refine hWt.mono ?_); rintro e w9 ⟨rfl, g9⟩)
            have W9 := W8.below g9
            have gg9 := bstep gg8 g9
            have q19 := (g9.cell (p := ⟨bx, 1, none⟩) (block_lt_of_cell q1)).trans q1
            obtain ⟨D, nD, hD1, hD2⟩ := W9.mp
            have d3 := tightO hD1
            have hmx : Maps.size D < maxLen := by rw [hD2.size]; unfold maxLen; omega
            have hat := hD2.no HN3.out
            have hrun9 := mi_look hD1 hat wfN
            clear W8 gg8 g9 q0 q1 hrun hWt
            go_wp2_with (at_mapUpdate; refine wpList_mapUpdate_own _ rfl _ _ _ 86 rfl 3 3 lawI Tryz.underlying86 (plainElem Tryz.prog 3) mb _ D rfl d3 hmx _ _ (.int .i64 (N : Int)) rfl rfl (keyOf_int_mk Tryz.underlying3 wfN) _ _ (plainElem_int Tryz.underlying3 (wf64 _ (by omega) (by omega))) ?_; intro w10 v10 v11)
            have W10 := W9.turn v10 (hD2.put HN3.out _) v11
            have gg10 := W9.belT v11 gg9 (Nat.le_refl _)
            go_roundg (nb - (q + 1))
            case measure => omega
            case rel => exact ⟨q + 1, j4 + 1, d7, k8, S8, ts4 ++ [(N : Int)], by omega, rfl, by go_num, by omega, by rw [List.length_append, List.length_singleton]; omega, HP7, W10, HG7, HO7, gg10⟩
        · obtain rfl : q = nb := by omega
          clear hbits
          go_upto_if 133 with (fail)
          go_cut [25] (fun s25 wx => ∃ (d' : Dv) (k' : Dm) (S' : Nat → Prop), Hid (put' = d'.q.puts) ∧ OcW w.heap.size wx g mb d' k' S' ts4 ∧ Hid (DvG j4 d') ∧ Hid (OncD most keeps ts4 d') ∧ Below w.heap.size w wx)
          case first =>
            by_cases hi4 : i < n4
            · obtain ⟨b6, o6, y, rfl, hy, hc⟩ := (H4.out.below gg5).at hi4
              obtain ⟨nn, e6, en⟩ : ∃ nn : Nat, (y.toNat : Int) % 24 = (nn : Int) ∧ nn < 24 := ⟨y.toNat % 24, by omega, by omega⟩
              clear hy
              have hcY : wr.cell? _ = some (Value.int .u8 (y.toNat : Int)) := hc
              clear hc
              have wfn := wf64 (nn : Int) (by omega) (by omega)
              obtain ⟨v, nw, er, d6, hWt, hA, hve, hnw, hG6, hO6, hp6⟩ : ∃ (v nw : Bool) (er : Int) (d6 : Dv), Calls Tryz.prog 17 #[.pointer (some ⟨g, 0, none⟩), .int .i64 (nn : Int)] wr (fun e w' => e = .returned (.bool v) ∧ Below wr.heap.size wr w')
                  ∧ (∀ w13, Below wr.heap.size wr w13 → Calls Tryz.prog 30 #[.pointer (some ⟨g, 0, none⟩), .int .i64 (nn : Int)] w13 fun r w' => r = .returned (.tuple #[.bool nw, .int .i64 er]) ∧ DvR w.heap.size w13 g k4 S4 d6 w')
                  ∧ (v = true ∧ er = 0 ∧ (nn : Int) ∉ ts4 ∨ v = false ∧ er = 100) ∧ (nw = true → waI d6 (nn : Int) = false) ∧ DvG j4 d6 ∧ OncD most keeps ts4 d6 ∧ d6.q.puts = d4.q.puts := by
                cases hv : waI d4 (nn : Int)
                · exact ⟨false, false, 100, d4, by rw [← hv]; exact dvWaits_any W5.dv _, fun w13 g13 => dvAbort_no (W5.below g13).dv HG4.out (by omega) _ hv, .inr ⟨rfl, rfl⟩, fun e => (by cases e), HG4.out, HO4.out, rfl⟩
                · obtain ⟨N, hN, hw, h1⟩ := wa_nat HG4.out.I.toDvJ hv
                  obtain rfl : nn = N := by omega
                  obtain ⟨x1, x2⟩ := HO4.out.abort HG4.out.I hw
                  exact ⟨true, _, 0, abD d4 nn, by rw [← hv]; exact dvWaits_any W5.dv _, fun w13 g13 => dvAbort_any (W5.below g13).dv HG4.out (by omega) nn hw, .inl ⟨rfl, rfl, HO4.out.not hv⟩, fun e => by simpa using e, abD_G HG4.out hw, x1, x2⟩
              have HV := hid hve
              have HNW := hid hnw
              have HG6 := hid hG6
              have HO6 := hid hO6
              have HP6 : Hid (put' = d6.q.puts) := hid (by rw [hp6]; exact HP4.out)
              clear hve hnw hG6 hO6 hp6
              go_upto_region 30 with (first
                | (go_at_call 17; (with_reducible refine hWt.mono ?_); rintro e w13 ⟨rfl, g13⟩; have hA13 := hA _ g13)
                | (go_at_call 30; (with_reducible refine hA13.mono ?_); rintro e w14 ⟨rfl, o14⟩))
              obtain ⟨k14, S14, W14, ch14⟩ := (W5.below g13).set o14
              have gg14 := (W5.below g13).bel ch14 (bstep gg5 g13) (Nat.le_refl _)
              clear hWt hA hA13 o14 ch14 W5 gg5 HG4 HO4 HP4 hcY
              obtain ⟨c, hc0, hrun⟩ := W14.look2 wfn
              have hve := HV.out
              have hnw := HNW.out
              clear HV HNW
              have hrun0 := hrun _ (Below.refl _ _)
              have hWt := dvWaits_any W14.dv (nn : Int)
              rcases hve with ⟨rfl, rfl, hnt⟩ | ⟨rfl, rfl⟩
              · obtain rfl := hc0 hnt
                cases nw
                · clear hnw hWt hc0
                  go_wp2_with fail
                  go_meet
                  exact ⟨d6, k14, S14, HP6, W14, HG6, HO6, gg14⟩
                · rw [hnw rfl] at hWt
                  clear hnw hc0
                  go_wp2_with (go_at_call 17; (with_reducible refine hWt.mono ?_); rintro e w15 ⟨rfl, g15⟩; have hrun5 := hrun _ g15)
                  go_meet
                  exact ⟨d6, k14, S14, HP6, W14.below g15, HG6, HO6, bstep gg14 g15⟩
              · by_cases hcp : 0 < c
                all_goals cases nw
                any_goals (rw [hnw rfl] at hWt)
                all_goals clear hnw hc0
                all_goals (go_wp2_with (go_at_call 17; (with_reducible refine hWt.mono ?_); rintro e w15 ⟨rfl, g15⟩; have hrun5 := hrun _ g15))
                all_goals go_meet
                all_goals first
                  | exact ⟨d6, k14, S14, HP6, W14, HG6, HO6, gg14⟩
                  | exact ⟨d6, k14, S14, HP6, W14.below g15, HG6, HO6, bstep gg14 g15⟩
            · go_wp2_with fail
              go_meet
              exact ⟨d4, k4, S4, HP4, W5, HG4, HO4, gg5⟩
          case rest =>
          obtain ⟨d6, k6, S6, HP6, W6, HG6, HO6, gg6⟩ := hcut
          clear W5 gg5 HG4 HO4 HP4
          have hF := dvFill_any W6.dv
          have hfl := HO6.out.fill HG6.out.I
          generalize d6.q.ws.length = fl1 at *
          generalize d6.rx.length = fl2 at *
          go_wp2_with (go_at_call 14; (with_reducible refine hF.mono ?_); rintro e w12 ⟨rfl, g12⟩)
          go_roundg (L - (i + 1))
          case measure => omega
          case rel => exact ⟨i + 1, j4, put', d6, k6, S6, ts4, by omega, rfl, by go_num, rfl, HP6, HPI', by omega, htl4, W6.below g12, HG6, HO6, bstep gg6 g12⟩
end Go.Proofs.YtajdbimdiodalaaGreat
