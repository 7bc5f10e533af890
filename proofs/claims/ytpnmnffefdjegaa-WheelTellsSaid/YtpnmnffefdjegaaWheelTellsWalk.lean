/-
  The walk of the statement WheelTells: for any slots, any room and any operations it returns true, and nothing that was there has changed.
-/
import Derived.Test.YtpnmnffefdjegaaB13m
namespace Go.Proofs.Ytpnmnffefdjegaa
open Go.RowKit Go.Maps Go.Sort
set_option linter.unusedVariables false

/-- A wheel that holds m, and a State in box hm that holds m2; they lie apart. -/
structure TeO (B : Nat) (w : World) (x : Wl) (hm : Nat) (m m2 : Wh) : Prop where
  o : WhO B w x m
  bx : ∃ a c, w.heap[hm]? = some (.cells (stW m2.now m2.most a m2.L.length c) 30 (0, 0)) ∧ RK enT 2 w a m2.L.length c m2.L ∧ ∀ q, a = some q → ¬ x.S q.block ∧ q.block < w.heap.size ∧ q.block ≠ hm
  nS : ¬ x.S hm
  hB : B ≤ hm
  hl : hm < w.heap.size

section
variable {B : Nat} {w w1 w3 : World} {x : Wl} {hm : Nat} {m m2 m' : Wh} {a3 : Option Addr} {c3 : Nat}
theorem TeO.below (h : TeO B w x hm m m2) (k : Below w.heap.size w w1) : TeO B w1 x hm m m2 := by
  obtain ⟨a, c, h1, h2, h3⟩ := h.bx
  exact ⟨h.o.below k, ⟨a, c, bx_below h1 k, h2.below k, fun q hq => ⟨(h3 q hq).1, Nat.lt_of_lt_of_le (h3 q hq).2.1 k.size, (h3 q hq).2.2⟩⟩, h.nS, h.hB, Nat.lt_of_lt_of_le h.hl k.size⟩
/-- The State's answer, laid into a box of its own, and from there into the State's box. -/
theorem te_store {a : Option Addr} (h : TeO B w x hm m m2) (ha : ∀ q, a = some q → ¬ x.S q.block ∧ q.block < w.heap.size ∧ q.block ≠ hm) (h3 : RK enT 2 w3 a3 m'.L.length c3 m'.L) (l3 : ∀ q, a3 = some q → a = some q ∨ w.heap.size ≤ q.block) (lt3 : ∀ q, a3 = some q → q.block < w3.heap.size) (g3 : Below w.heap.size w w3) :
    TeO B (((w3.alloc (.cells stZ13 30)).setRow w3.heap.size (stW m'.now m'.most a3 m'.L.length c3)).setRow hm (stW m'.now m'.most a3 m'.L.length c3)) x hm m m' ∧
    Ch (fun j => j = hm) w (((w3.alloc (.cells stZ13 30)).setRow w3.heap.size (stW m'.now m'.most a3 m'.L.length c3)).setRow hm (stW m'.now m'.most a3 m'.L.length c3)) := by
  have hz := g3.size
  have hl := h.hl
  have gT : Below w3.heap.size w3 ((w3.alloc (.cells stZ13 30)).setRow w3.heap.size (stW m'.now m'.most a3 m'.L.length c3)) := below_setRow (bnew0 w3 _) (Nat.le_refl _) _
  have kH : Ch (fun j => j = hm) ((w3.alloc (.cells stZ13 30)).setRow w3.heap.size (stW m'.now m'.most a3 m'.L.length c3)) (((w3.alloc (.cells stZ13 30)).setRow w3.heap.size (stW m'.now m'.most a3 m'.L.length c3)).setRow hm (stW m'.now m'.most a3 m'.L.length c3)) := Ch.setRow (S := fun j => j = hm) (Ch.refl _ _) (.inl rfl) _
  have kA : Ch (fun j => j = hm) w (((w3.alloc (.cells stZ13 30)).setRow w3.heap.size (stW m'.now m'.most a3 m'.L.length c3)).setRow hm (stW m'.now m'.most a3 m'.L.length c3)) := (Ch.of_below (bstep g3 gT)).trans kH (fun j e => .inl e)
  have hloc : ∀ q, a3 = some q → ¬ x.S q.block ∧ q.block ≠ hm := fun q hq => by
    rcases l3 q hq with e | e
    · exact ⟨(ha q e).1, (ha q e).2.2⟩
    · exact ⟨fun hs => by have := h.o.sL _ hs; omega, by omega⟩
  obtain ⟨a, c, b1, _, _⟩ := h.bx
  have bT := bx_below (bx_below b1 g3) gT
  refine ⟨⟨h.o.ch kA (fun b hb e => h.nS (e ▸ hb)), ⟨a3, c3, setRow_heap _ _ _ _ _ _ bT, (h3.below gT).ch kH (fun q hq e => (hloc q hq).2 e), fun q hq => ⟨(hloc q hq).1, ?_, (hloc q hq).2⟩⟩, h.nS, h.hB, Nat.lt_of_lt_of_le hl kA.size⟩, kA⟩
  have := lt3 q hq; have := gT.size; have := kH.size; omega
/-- The wheel's method is through. -/
theorem te_wheel (h : TeO B w x hm m m') (h1 : WhO B w1 x m') (k : Ch x.S w w1) : TeO B w1 x hm m' m' := by
  obtain ⟨a, c, b1, b2, b3⟩ := h.bx
  exact ⟨h1, ⟨a, c, k.bx b1 h.nS, b2.ch k (fun q hq => (b3 q hq).1), fun q hq => ⟨(b3 q hq).1, Nat.lt_of_lt_of_le (b3 q hq).2.1 k.size, (b3 q hq).2.2⟩⟩, h.nS, h.hB, Nat.lt_of_lt_of_le h.hl k.size⟩
end

set_option maxRecDepth 100000 in
set_option maxHeartbeats 4000000 in
theorem wheelTells_wrong (w : World) (slots most : Int) (a0 : Option Addr) (n0 c0 : Nat) (h : slots < 1 ∨ 1024 < slots ∨ most < 0 ∨ 1024 < most) :
    Calls Try.prog 3 #[.int .i64 slots, .int .i64 most, .slice a0 n0 c0] w fun e w' => e = .returned (.bool true) ∧ Below w.heap.size w w' := by
  have kN := whNew_wrong w slots most h
  by_cases h1 : slots < 1
  · clear h
    go_enter Try.func3, Try.ntmps3
    go_wp2_with (first
      | (go_at_call 9; (with_reducible refine kN.mono ?_); rintro e w1 ⟨rfl, rfl⟩)
      | (go_at_call 10; (with_reducible refine (awake13_any _).mono ?_); rintro e w5 ⟨rfl, g5⟩))
    go_ret
    exact ⟨rfl, g5⟩
  · by_cases h2 : 1024 < slots
    · clear h
      go_enter Try.func3, Try.ntmps3
      go_wp2_with (first
        | (go_at_call 9; (with_reducible refine kN.mono ?_); rintro e w1 ⟨rfl, rfl⟩)
        | (go_at_call 10; (with_reducible refine (awake13_any _).mono ?_); rintro e w5 ⟨rfl, g5⟩))
      go_ret
      exact ⟨rfl, g5⟩
    · by_cases h3 : most < 0
      · clear h
        go_enter Try.func3, Try.ntmps3
        go_wp2_with (first
          | (go_at_call 9; (with_reducible refine kN.mono ?_); rintro e w1 ⟨rfl, rfl⟩)
          | (go_at_call 10; (with_reducible refine (awake13_any _).mono ?_); rintro e w5 ⟨rfl, g5⟩))
        go_ret
        exact ⟨rfl, g5⟩
      · have h4 : 1024 < most := by omega
        clear h
        go_enter Try.func3, Try.ntmps3
        go_wp2_with (first
          | (go_at_call 9; (with_reducible refine kN.mono ?_); rintro e w1 ⟨rfl, rfl⟩)
          | (go_at_call 10; (with_reducible refine (awake13_any _).mono ?_); rintro e w5 ⟨rfl, g5⟩))
        go_ret
        exact ⟨rfl, g5⟩

/-- After so many operations both hold the same. -/
def TeR13 (w : World) (x : Wl) (hm i : Nat) (wr : World) : Prop := ∃ m, TeO w.heap.size wr x hm m m ∧ m.now ≤ 16 * (i : Int) ∧ Below w.heap.size w wr

set_option maxRecDepth 100000 in
set_option maxHeartbeats 16000000 in
theorem wheelTells_walk (w : World) (slots most : Int) (a0 : Option Addr) (n0 c0 : Nat) (os : List Op13) (hs : -9223372036854775808 ≤ slots ∧ slots ≤ 9223372036854775807) (hmo : -9223372036854775808 ≤ most ∧ most ≤ 9223372036854775807) (ho : RK enO13 3 w a0 n0 c0 os) (hu : ∀ o ∈ os, OkO o) (m0 : n0 ≤ 9223372036854775807) :
    Calls Try.prog 3 #[.int .i64 slots, .int .i64 most, .slice a0 n0 c0] w fun e w' => e = .returned (.bool true) ∧ Below w.heap.size w w' := by
  by_cases hw : slots < 1 ∨ 1024 < slots ∨ most < 0 ∨ 1024 < most
  · exact wheelTells_wrong w slots most a0 n0 c0 hw
  · obtain ⟨p, rfl, hp1, hp2⟩ : ∃ p : Nat, slots = (p : Int) ∧ 1 ≤ p ∧ p ≤ 1024 := ⟨slots.toNat, by omega, by omega, by omega⟩
    have i1 : ¬ (p : Int) < 1 := by omega
    have i2 : ¬ (1024 : Int) < (p : Int) := by omega
    have i3 : ¬ most < 0 := by omega
    have i4 : ¬ 1024 < most := by omega
    have kN := whNew_any w p most hp1 hp2 (by omega) (by omega)
    obtain ⟨L, hmin, hL1, hL2⟩ : ∃ L : Nat, (∀ ts t w', (Builtin.min_ ts t #[.int .i64 (n0 : Int), .int .i64 60]).run Try.prog w' = .ok (.int .i64 (L : Int)) w') ∧ L ≤ n0 ∧ L ≤ 60 := by
      refine ⟨min n0 60, fun ts t w' => ?_, by omega, by omega⟩
      rw [run_min_int2]; congr 2; split <;> omega
    have HO := hid ho
    have HU := hid hu
    clear ho hu hw
    go_enter Try.func3, Try.ntmps3
    go_wp2_with (first
      | (go_at_call 9; (with_reducible refine kN.mono ?_); rintro e w1 ⟨x, rfl, _, r1, g1⟩
         have b1 := heap_alloc_new w1 (.cells stZ13 30))
      | (with_reducible refine wpList_storeR rowSt rfl _ _ rfl _ _ rfl rfl b1 rfl rfl (st_ones13 0 most none 0 0) ?_)
      | (with_reducible refine wpList_cutToK0 elO13 rfl _ _ rfl _ _ L rfl rfl rfl HO.out hL1 ?_; intro a5 hr5))
    have kW : Below w1.heap.size w1 ((w1.alloc (.cells stZ13 30)).setRow w1.heap.size (stW 0 most none 0 0)) := below_setRow (bnew0 w1 _) (Nat.le_refl _) _
    have bW := setRow_heap _ _ _ (stW 0 most none 0 0) _ _ b1
    have hT0 : TeR13 w x w1.heap.size 0 ((w1.alloc (.cells stZ13 30)).setRow w1.heap.size (stW 0 most none 0 0)) :=
      ⟨⟨0, most, []⟩, ⟨r1.below kW, ⟨none, 0, bW, RK.nil _ _ _ _ _, fun q hq => (by cases hq)⟩, fun e => by have := r1.sL _ e; omega, g1.size, bx_lt bW⟩, by show (0 : Int) ≤ _; omega, bstep g1 kW⟩
    clear kW bW b1 r1 g1 kN hmin m0
    generalize (w1.alloc (.cells stZ13 30)).setRow w1.heap.size (stW 0 most none 0 0) = w2 at *
    generalize w1.heap.size = hm at *
    go_loopg [57] L (fun gn vi wr => ∃ i : Nat, i ≤ L ∧ gn = L - i ∧ vi = .int .i64 (i : Int) ∧ TeR13 w x hm i wr)
    case atStart => exact ⟨0, by omega, by omega, rfl, hT0⟩
    case round =>
      obtain ⟨i, hi, rfl, rfl, hT⟩ := hrel
      clear hT0
      by_cases hlt : i < L
      · obtain ⟨o, hox⟩ : ∃ o, (os.take L)[i]? = some o := ⟨_, List.getElem?_eq_getElem (by rw [hr5.len]; exact hlt)⟩
        have hom : o ∈ os := List.mem_of_mem_take (List.mem_of_getElem? hox)
        obtain ⟨m, hTw, hnow, hbel⟩ := hT
        obtain ⟨gb, off, rfl, hgb, hrg⟩ := (hr5.below hbel).range hox
        obtain ⟨r, hr, hr4⟩ : ∃ r : Int, (o.k : Int) % 4 = r ∧ (r = 0 ∨ r = 1 ∨ r = 2 ∨ r = 3) := ⟨_, rfl, by omega⟩
        have b0 := heap_alloc_new wr (.cells #[.int .u8 0, .int .i64 0, .int .i64 0] 32)
        obtain ⟨_, wid, waf⟩ := HU.out o hom
        clear hox hom
        go_upto_block 2 with (first
          | (with_reducible refine wpList_loadM rowO13 rfl _ rfl _ _ rfl (opV13 o) hrg rfl ?_)
          | (with_reducible refine wpList_storeR rowO13 rfl _ _ rfl _ _ rfl rfl b0 rfl rfl (op13_ones _) ?_
             have bW := setRow_heap _ _ _ (opV13 o) _ _ b0
             have kW : Below wr.heap.size wr ((wr.alloc (.cells #[.int .u8 0, .int .i64 0, .int .i64 0] 32)).setRow wr.heap.size (opV13 o)) := below_setRow (bnew0 wr _) (Nat.le_refl _) _
             have x0 := (bx3o bW).1))
        have hTW := hTw.below kW
        have hbS : ¬ x.S wr.heap.size := fun e => by have := hTw.o.sL _ e; omega
        have hbm : wr.heap.size ≠ hm := by have := hTw.hl; omega
        have hbel := bstep hbel kW
        have hrow := hr5
        clear hTw hrg hgb b0 kW x0
        generalize (wr.alloc (.cells #[.int .u8 0, .int .i64 0, .int .i64 0] 32)).setRow wr.heap.size (opV13 o) = W at *
        generalize wr.heap.size = b at *
        rw [hr]
        clear hr
        have hn : m.now ≤ 1000000000 := by omega
        go_cut [9] (fun v9 wx => v9 = .pointer (some ⟨hm, 0, none⟩) ∧ TeR13 w x hm (i + 1) wx ∧ wx.heap[b]? = some (.cells (opV13 o) 32 (0, 0)))
        case first =>
          rcases hr4 with rfl | rfl | hr4
          · obtain ⟨a, c, hbx, hRK, ha⟩ := hTW.bx
            have x1 := (bx3o bW).2.1
            have x2 := (bx3o bW).2.2
            have kR := rSet_any (id := o.id) (after := o.af) W hTW.o.inv hn hRK (fun q hq => (ha q hq).2.1)
            obtain ⟨C, hC⟩ : ∃ C, setC m o.id o.af = C := ⟨_, rfl⟩
            obtain ⟨m', hm'⟩ : ∃ m', setW m o.id o.af = m' := ⟨_, rfl⟩
            have hnw : m'.now = m.now := by rw [← hm']; exact (set_now m o.id o.af).1
            rw [hC, hm'] at kR
            have HNW := hid hnw
            clear hnw
            have hCC : (C == C) = true := by simp
            go_wp2_with (first
              | (with_reducible refine wpList_loadR rowSt rfl _ rfl _ rfl hbx rfl ?_)
              | (go_at_call 11; (with_reducible refine kR.mono ?_); rintro e w3 ⟨a3, c3, rfl, h3, l3, g3⟩
                 have t3 := heap_alloc_new w3 (.cells stZ13 30)
                 have tS := setRow_heap _ _ _ (stW m'.now m'.most a3 m'.L.length c3) _ _ t3
                 have gT : Below w3.heap.size w3 ((w3.alloc (.cells stZ13 30)).setRow w3.heap.size (stW m'.now m'.most a3 m'.L.length c3)) := below_setRow (bnew0 w3 _) (Nat.le_refl _) _
                 have bh := bx_below (bx_below hbx g3) gT
                 obtain ⟨hT4, k4⟩ := te_store hTW ha h3 (fun q hq => (l3 q hq).1) (fun q hq => (l3 q hq).2) g3
                 have b5 := k4.bx bW hbm
                 have z1 := (bx3o b5).2.1
                 have z2 := (bx3o b5).2.2
                 have g4 := k4.below hbel (Nat.le_refl _) (fun j e => e ▸ hTW.hB)
                 have kS := whSet_at hT4.o wid hn hC hm')
              | (with_reducible refine wpList_storeR rowSt rfl _ _ rfl _ _ rfl rfl t3 rfl rfl (st_ones13 _ _ _ _ _) ?_)
              | (with_reducible refine wpList_loadR rowSt rfl _ rfl _ rfl tS rfl ?_)
              | (with_reducible refine wpList_storeR rowSt rfl _ _ rfl _ _ rfl rfl bh rfl rfl (st_ones13 _ _ _ _ _) ?_)
              | (go_at_call 12; (with_reducible refine kS.mono ?_); rintro e w6 ⟨rfl, h6, k6⟩))
            go_meet
            exact ⟨rfl, ⟨m', te_wheel hT4 h6 k6, by rw [HNW.out]; push_cast; omega, k6.below g4 (Nat.le_refl _) hTW.o.hB⟩, k6.bx b5 hbS⟩
          · obtain ⟨a, c, hbx, hRK, ha⟩ := hTW.bx
            have x1 := (bx3o bW).2.1
            have kR := rCancel_any (id := o.id) W hRK (by have := hTW.o.inv.len; have := hTW.o.inv.most; omega)
            obtain ⟨C, hC⟩ : ∃ C, hasL m.L o.id = C := ⟨_, rfl⟩
            obtain ⟨m', hm'⟩ : ∃ m', cutW m o.id = m' := ⟨_, rfl⟩
            have hnw : m'.now = m.now := by rw [← hm']; rfl
            rw [hC, hm'] at kR
            have HNW := hid hnw
            clear hnw
            have hCC : (C != C) = false := by cases C <;> rfl
            go_wp2_with (first
              | (with_reducible refine wpList_loadR rowSt rfl _ rfl _ rfl hbx rfl ?_)
              | (go_at_call 13; (with_reducible refine kR.mono ?_); rintro e w3 ⟨a3, c3, rfl, h3, l3, g3⟩
                 have t3 := heap_alloc_new w3 (.cells stZ13 30)
                 have tS := setRow_heap _ _ _ (stW m'.now m'.most a3 m'.L.length c3) _ _ t3
                 have gT : Below w3.heap.size w3 ((w3.alloc (.cells stZ13 30)).setRow w3.heap.size (stW m'.now m'.most a3 m'.L.length c3)) := below_setRow (bnew0 w3 _) (Nat.le_refl _) _
                 have bh := bx_below (bx_below hbx g3) gT
                 obtain ⟨hT4, k4⟩ := te_store hTW ha h3 (fun q hq => (l3 q hq).1) (fun q hq => (l3 q hq).2) g3
                 have b5 := k4.bx bW hbm
                 have z1 := (bx3o b5).2.1
                 have z2 := (bx3o b5).2.2
                 have g4 := k4.below hbel (Nat.le_refl _) (fun j e => e ▸ hTW.hB)
                 have kS := whCancel_at hT4.o wid hn hC hm')
              | (with_reducible refine wpList_storeR rowSt rfl _ _ rfl _ _ rfl rfl t3 rfl rfl (st_ones13 _ _ _ _ _) ?_)
              | (with_reducible refine wpList_loadR rowSt rfl _ rfl _ rfl tS rfl ?_)
              | (with_reducible refine wpList_storeR rowSt rfl _ _ rfl _ _ rfl rfl bh rfl rfl (st_ones13 _ _ _ _ _) ?_)
              | (go_at_call 14; (with_reducible refine kS.mono ?_); rintro e w6 ⟨rfl, h6, k6⟩))
            go_meet
            exact ⟨rfl, ⟨m', te_wheel hT4 h6 k6, by rw [HNW.out]; push_cast; omega, k6.below g4 (Nat.le_refl _) hTW.o.hB⟩, k6.bx b5 hbS⟩
          · have x2 := (bx3o bW).2.2
            have d0 : (r == 0) = false := by rw [beq_eq_false_iff_ne]; omega
            have d1 : (r == 1) = false := by rw [beq_eq_false_iff_ne]; omega
            clear hr4
            obtain ⟨K, hK, hK1⟩ : ∃ K : Nat, bits .and .i64 o.af 15 = (K : Int) ∧ K < 16 := ⟨(o.af % 16).toNat, by rw [and_15]; omega, by omega⟩
            go_wp2
            go_loopg [68] (K + 1) (fun gn vi wr => ∃ j : Nat, j ≤ K + 1 ∧ gn = K + 1 - j ∧ vi = .int .i64 (j : Int) ∧ ∃ m, TeO w.heap.size wr x hm m m ∧ m.now ≤ 16 * (i : Int) + (j : Int) ∧ Below w.heap.size w wr ∧ wr.heap[b]? = some (.cells (opV13 o) 32 (0, 0)))
            case atStart => exact ⟨0, by omega, by omega, rfl, m, hTW, by omega, hbel, bW⟩
            case round =>
              clear hTW hbel bW x2 hn hnow
              obtain ⟨j, hj, rfl, rfl, m, hTW, hnow, hbel, bW⟩ := hrel
              by_cases hjl : j < K + 1
              · have hn : m.now ≤ 1000000000 := by omega
                obtain ⟨a, c, hbx, hRK, ha⟩ := hTW.bx
                have kR := rTick_any wr hTW.o.inv hn hRK (fun q hq => (ha q hq).2.1)
                have hSl := hTW.o.sL
                go_wp2_with (first
                  | (with_reducible refine wpList_loadR rowSt rfl _ rfl _ rfl hbx rfl ?_)
                  | (go_at_call 15; (with_reducible refine kR.mono ?_); rintro e w3 ⟨a3, c3, ao, co, t, rfl, h3, l3, o3, td3, tl3, g3⟩
                     have t3 := heap_alloc_new w3 (.cells stZ13 30)
                     have tS := setRow_heap _ _ _ (stW (m.now + 1) m.most a3 (tickW m).L.length c3) _ _ t3
                     have gT : Below w3.heap.size w3 ((w3.alloc (.cells stZ13 30)).setRow w3.heap.size (stW (m.now + 1) m.most a3 (tickW m).L.length c3)) := below_setRow (bnew0 w3 _) (Nat.le_refl _) _
                     have bh := bx_below (bx_below hbx g3) gT
                     obtain ⟨hT4, k4⟩ := te_store (m' := tickW m) hTW ha h3 (fun q hq => (l3 q hq).1) (fun q hq => (l3 q hq).2) g3
                     rw [show (tickW m).now = m.now + 1 from rfl, show (tickW m).most = m.most from rfl] at hT4 k4
                     have b5 := k4.bx bW hbm
                     have g4 := k4.below hbel (Nat.le_refl _) (fun j e => e ▸ hTW.hB)
                     have kT : Ch (fun j => j = hm) ((w3.alloc (.cells stZ13 30)).setRow w3.heap.size (stW (m.now + 1) m.most a3 (tickW m).L.length c3)) (((w3.alloc (.cells stZ13 30)).setRow w3.heap.size (stW (m.now + 1) m.most a3 (tickW m).L.length c3)).setRow hm (stW (m.now + 1) m.most a3 (tickW m).L.length c3)) := Ch.setRow (S := fun j => j = hm) (Ch.refl _ _) (.inl rfl) _
                     have o4 := (o3.below gT).ch kT (fun p hp e => by have := (o3.ltB hp).2; have := hTW.hl; omega)
                     have kS := whTick_any hT4.o hn)
                  | (with_reducible refine wpList_storeR rowSt rfl _ _ rfl _ _ rfl rfl t3 rfl rfl (st_ones13 _ _ _ _ _) ?_)
                  | (with_reducible refine wpList_loadR rowSt rfl _ rfl _ rfl tS rfl ?_)
                  | (with_reducible refine wpList_storeR rowSt rfl _ _ rfl _ _ rfl rfl bh rfl rfl (st_ones13 _ _ _ _ _) ?_)
                  | (go_at_call 17; (with_reducible refine kS.mono ?_); rintro e w6 ⟨a6, c6, t6, rfl, o6, td6, tl6, h6, k6⟩
                     obtain rfl : t6 = t := rising_eq td6.up td3.up (fun i => (td6.has i).trans (td3.has i).symm)
                     have o7 := o4.ch k6 (fun p hp e => by have := (o3.ltB hp).2; have := hSl _ e; omega)
                     have kI := aw_ints o6 o7.rl (by omega) (by omega) (Below.refl _ _) rfl)
                  | (go_at_call 16; (with_reducible refine kI.mono ?_); rintro e w7 ⟨rfl, g7⟩))
                have hT6 := (te_wheel hT4 h6 k6).below g7
                have g6 := bstep (k6.below g4 (Nat.le_refl _) hTW.o.hB) g7
                have b6 := bx_below (k6.bx b5 hbS) g7
                go_roundg (K + 1 - (j + 1))
                case measure => omega
                case rel => exact ⟨j + 1, by omega, rfl, by go_num, tickW m, hT6, by show m.now + 1 ≤ _; push_cast; omega, g6, b6⟩
              · obtain rfl : j = K + 1 := by omega
                go_wp2
                go_meet
                exact ⟨rfl, ⟨m, hTW, by push_cast; omega, hbel⟩, bW⟩
        case rest =>
          obtain ⟨rfl, ⟨m', hT2, hn2, hb2⟩, bX⟩ := hcut
          have hn3 : m'.now ≤ 1000000000 := by push_cast at hn2; omega
          obtain ⟨a, c, hbx, hRK, ha⟩ := hT2.bx
          have x1 := (bx3o bX).2.1
          have kL := whLeft_any hT2.o wid hn3
          have kR := rLeft_any (id := o.id) (now := m'.now) (most := m'.most) wc hRK (by have := hT2.o.inv.len; have := hT2.o.inv.most; omega) hT2.o.inv.n0 (by omega) (fun p hp => by have := hT2.o.inv.rng p hp; have := hT2.o.inv.n0; omega)
          rw [show leftW ⟨m'.now, m'.most, m'.L⟩ o.id = leftW m' o.id from rfl] at kR
          generalize leftW m' o.id = lv at *
          generalize hasL m'.L o.id = hv at *
          have hbb : (hv != hv) = false := by cases hv <;> rfl
          have hll : (lv == lv) = true := by simp
          have HN2 := hid hn2
          clear hn2 hn hnow hTW hbel bW
          go_wp2_with (first
            | (go_at_call 18; (with_reducible refine kL.mono ?_); rintro e w3 ⟨rfl, rfl⟩)
            | (with_reducible refine wpList_loadR rowSt rfl _ rfl _ rfl hbx rfl ?_)
            | (go_at_call 19; (with_reducible refine kR.mono ?_); rintro e w4 ⟨rfl, g4⟩))
          have hT5 := hT2.below g4
          have hb5 := bstep hb2 g4
          obtain ⟨a, c, hbx, _, _⟩ := hT5.bx
          obtain ⟨N, hN⟩ : ∃ N, N = m'.L.length := ⟨_, rfl⟩
          obtain ⟨T, hTn⟩ : ∃ T, T = m'.now := ⟨_, rfl⟩
          have kNow : ∀ d os, Calls Try.prog 20 #[.pointer (some ⟨x.g, 0, none⟩)] (grow (redrawn w4 d) os) fun e w'' => e = .returned (.int .i64 T) ∧ ∃ r : Regrown, w'' = grow (redrawn w4 r.d) r.os := fun d os =>
            Calls.regrown_of ((whNow_any (hT5.o.below (below_regrown _ _ _))).mono fun e w' ⟨he, hw⟩ => ⟨by rw [he, hTn], hw ▸ Below.refl _ _⟩)
          have kLen : ∀ d os, Calls Try.prog 21 #[.pointer (some ⟨x.g, 0, none⟩)] (grow (redrawn w4 d) os) fun e w'' => e = .returned (.int .i64 (N : Int)) ∧ ∃ r : Regrown, w'' = grow (redrawn w4 r.d) r.os := fun d os =>
            Calls.regrown_of ((whLen_any (hT5.o.below (below_regrown _ _ _))).mono fun e w' ⟨he, hw⟩ => ⟨by rw [he, hN], hw ▸ Below.refl _ _⟩)
          rw [← hN, ← hTn] at hbx
          have y0 : ∀ d os, (grow (redrawn w4 d) os).cell? ⟨hm, 0, none⟩ = some (.int .i64 T) := fun d os => cell_regrown (bx3o hbx).1 d os
          have y2 : ∀ d os, (grow (redrawn w4 d) os).cell? ⟨hm, 2, none⟩ = some (.slice a N c) := fun d os => cell_regrown (bx3o hbx).2.2 d os
          have hnn : ((N : Int) == (N : Int)) = true := by simp
          have htt : (T == T) = true := by simp
          clear hN hTn kL kR hRK ha
          refine wp_region_quiet_below (by kernel_rfl) (by kernel_rfl) ?_
          repeat (go_big_quiet_step (first | (go_at_call 20; with_reducible exact kNow _ _) | (go_at_call 21; with_reducible exact kLen _ _)))
          refine wpQuiet_nil ?_
          intro w9 hw9
          have g9 : Below w4.heap.size w4 w9 := by obtain ⟨p9, rfl⟩ := hw9; exact below_regrown _ _ _
          clear hw9 kNow kLen y0 y2
          have hT9 := hT5.below g9
          have hb9 := bstep hb5 g9
          go_wp2
          go_roundg (L - (i + 1))
          case measure => omega
          case rel => exact ⟨i + 1, by omega, rfl, by go_num, m', hT9, HN2.out, hb9⟩
      · obtain rfl : i = L := by omega
        obtain ⟨m, _, _, hb⟩ := hT
        go_wp2_with (go_at_call 10; (with_reducible refine (awake13_any _).mono ?_); rintro e w5 ⟨rfl, g5⟩)
        go_ret
        exact ⟨rfl, bstep hb g5⟩
end Go.Proofs.Ytpnmnffefdjegaa
