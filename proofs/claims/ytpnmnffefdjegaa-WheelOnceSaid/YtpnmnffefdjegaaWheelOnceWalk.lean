/-
  The walk of the statement WheelOnce: for any slots, any timers and any cancelled ones it returns true, and nothing that was there has changed.
-/
import Derived.Test.YtpnmnffefdjegaaB13j
import Derived.Test.YtpnmnffefdjegaaM13d
import Derived.Test.YtpnmnffefdjegaaTy
import Derived.Test.YtpnmnffefdjegaaTyU
import Derived.Maps.RangeWalk
namespace Go.Proofs.Ytpnmnffefdjegaa
open Go.RowKit Go.Maps Go.Sort
set_option linter.unusedVariables false

/-- A wheel with room for all, and a map in block d that says L. -/
structure OnO (B : Nat) (w : World) (x : Wl) (m : Wh) (d : Nat) (L : List Tm) : Prop where
  o : WhO B w x m
  map : ∃ D n, MI w d n D ∧ Due D L
  nd : ¬ x.S d
  hd : B ≤ d
  dl : d < w.heap.size
  mo : m.most = 64
  hi : ∀ p ∈ m.L, p.1 ≤ 63
  du : ∀ p ∈ m.L, p.2 ≤ 100

section
variable {B : Nat} {w w1 : World} {x : Wl} {m m' : Wh} {d : Nat} {L L' : List Tm} {id v : Int}
theorem OnO.below (h : OnO B w x m d L) (k : Below w.heap.size w w1) : OnO B w1 x m d L := by
  obtain ⟨D, n, h1, h2⟩ := h.map
  exact ⟨h.o.below k, ⟨D, n, MI.below h1 k, h2⟩, h.nd, h.hd, Nat.lt_of_lt_of_le h.dl k.size, h.mo, h.hi, h.du⟩
theorem OnO.ch {S1 : Nat → Prop} (h : OnO B w x m d L) (k : Ch S1 w w1) (hn : ∀ b, x.S b → ¬ S1 b) (hd : ¬ S1 d) : OnO B w1 x m d L := by
  obtain ⟨D, n, h1, h2⟩ := h.map
  exact ⟨h.o.ch k hn, ⟨D, n, MI.ch h1 k hd, h2⟩, h.nd, h.hd, Nat.lt_of_lt_of_le h.dl k.size, h.mo, h.hi, h.du⟩
/-- The wheel's method is through. -/
theorem OnO.step (h : OnO B w x m d L) (h' : WhO B w1 x m') (c : Ch x.S w w1) (hm : m'.most = 64) (hi : ∀ p ∈ m'.L, p.1 ≤ 63) (hu : ∀ p ∈ m'.L, p.2 ≤ 100) : OnO B w1 x m' d L := by
  obtain ⟨D, n, h1, h2⟩ := h.map
  exact ⟨h', ⟨D, n, MI.ch h1 c h.nd, h2⟩, h.nd, h.hd, Nat.lt_of_lt_of_le h.dl c.size, hm, hi, hu⟩
/-- The map has turned. -/
theorem OnO.turn (h : OnO B w x m d L) {D : DataW Unit} {n : Nat} (h1 : MI w1 d n D) (h2 : Due D L') (g : w.grownBy w1 (some d)) : OnO B w1 x m d L' := by
  have k := Ch.of_grown g
  exact ⟨h.o.ch k (fun b hb e => h.nd (e ▸ hb)), ⟨D, n, h1, h2⟩, h.nd, h.hd, Nat.lt_of_lt_of_le h.dl k.size, h.mo, h.hi, h.du⟩
theorem OnO.len (h : OnO B w x m d L) : m.L.length ≤ 64 := by have := h.o.inv.len; have := h.mo; omega
theorem on_below {w0 : World} (h : OnO B w x m d L) (g : w.grownBy w1 (some d)) (hB : B ≤ w0.heap.size) (k : Below B w0 w) : Below B w0 w1 := (Ch.of_grown g).below k hB (fun b e => e ▸ h.hd)
end

set_option maxRecDepth 100000 in
set_option maxHeartbeats 16000000 in
theorem wheelOnce_walk (w : World) (slots : Nat) (a1 : Option Addr) (n1 c1 : Nat) (l1 : List UInt16) (a2 : Option Addr) (n2 c2 : Nat) (l2 : List UInt8) (h0 : slots ≤ 255) (hr1 : RL uv w a1 n1 c1 l1) (hr2 : RL bv w a2 n2 c2 l2) (m1 : n1 ≤ 9223372036854775807) (m2 : n2 ≤ 9223372036854775807) :
    Calls Try.prog 4 #[.int .u8 (slots : Int), .slice a1 n1 c1, .slice a2 n2 c2] w fun e w' => e = .returned (.bool true) ∧ Below w.heap.size w w' := by
  have hmm := @run_makeMap Try.prog
  obtain ⟨p, hp, hp1⟩ : ∃ p : Nat, (slots : Int) % 40 = (p : Int) ∧ p < 40 := ⟨slots % 40, by omega, by omega⟩
  have hN : Calls Try.prog 9 #[.int .i64 (1 + (p : Int)), .int .i64 64] w (NewWh w (1 + p) 64) := by
    have := whNew_any w (1 + p) 64 (by omega) (by omega) (by omega) (by omega)
    rwa [show ((1 + p : Nat) : Int) = 1 + (p : Int) by omega] at this
  obtain ⟨L1, hmin1, hL1, hL2⟩ : ∃ L : Nat, (∀ ts t w', (Builtin.min_ ts t #[.int .i64 (n1 : Int), .int .i64 50]).run Try.prog w' = .ok (.int .i64 (L : Int)) w') ∧ L ≤ n1 ∧ L ≤ 50 := by
    refine ⟨min n1 50, fun ts t w' => ?_, by omega, by omega⟩
    rw [run_min_int2]; congr 2; split <;> omega
  obtain ⟨L2, hmin2, hK1, hK2⟩ : ∃ L : Nat, (∀ ts t w', (Builtin.min_ ts t #[.int .i64 (n2 : Int), .int .i64 50]).run Try.prog w' = .ok (.int .i64 (L : Int)) w') ∧ L ≤ n2 ∧ L ≤ 50 := by
    refine ⟨min n2 50, fun ts t w' => ?_, by omega, by omega⟩
    rw [run_min_int2]; congr 2; split <;> omega
  have HR1 := hid hr1
  have HR2 := hid hr2
  clear hr1 hr2
  go_enter Try.func4, Try.ntmps4
  go_wp2_with (first
    | (go_at_call 9; (with_reducible refine hN.mono ?_); rintro e w1 ⟨x, rfl, _, r1, g1⟩)
    | (with_reducible refine wpList_cutTo0 tU rfl _ _ rfl _ _ L1 rfl rfl rfl HR1.out hL1 ?_; intro a5 hr5))
  have hO : OnO w.heap.size (w1.alloc (.map #[] 0)) x ⟨0, 64, []⟩ w1.heap.size [] :=
    ⟨r1.alloc _, ⟨.map [], 0, World.ownsMap_made w1 Try.prog 3 (plainElem Try.prog 3), Due.new⟩, fun e => by have := r1.sL _ e; omega, g1.size, by simp, rfl, fun p hp => (by cases hp), fun p hp => (by cases hp)⟩
  have hB : Below w.heap.size w (w1.alloc (.map #[] 0)) := bnew g1 _
  generalize w1.alloc (.map #[] 0) = w2 at *
  generalize w1.heap.size = d at *
  clear hN r1 g1 hp
  go_loopg [44] L1 (fun gn vi wr => ∃ (i : Nat) (m : Wh), i ≤ L1 ∧ gn = L1 - i ∧ vi = .int .i64 (i : Int) ∧ OnO w.heap.size wr x m d m.L ∧ m.now = 0 ∧ Below w.heap.size w wr)
  case atStart => exact ⟨0, _, by omega, by omega, rfl, hO, rfl, hB⟩
  case round =>
    obtain ⟨i, m, hi, rfl, rfl, hO1, hnow, hB1⟩ := hrel
    clear hO hB
    by_cases hlt : i < L1
    · obtain ⟨b5, o5, z, rfl, hz, c5⟩ := (hr5.below hB1).at hlt
      simp only [uv] at c5
      obtain ⟨Z, hZ, hZ1⟩ : ∃ Z : Nat, (z.toNat : Int) = (Z : Int) ∧ Z < 65536 := ⟨z.toNat, rfl, z.toNat_lt⟩
      rw [hZ] at c5
      obtain ⟨Id, hId, hId1⟩ : ∃ K : Nat, (Z : Int) % 64 = (K : Int) ∧ K < 64 := ⟨Z % 64, by omega, by omega⟩
      obtain ⟨Q, hQ, hQ1⟩ : ∃ K : Nat, (Z : Int) / 64 = (K : Int) ∧ K < 1024 := ⟨Z / 64, by omega, by omega⟩
      obtain ⟨A, hA, hA1, hA2⟩ : ∃ K : Nat, (Q : Int).tmod 100 = (K : Int) ∧ K < 100 ∧ (Q : Int) % 100 = (K : Int) := ⟨Q % 100, by rw [Int.tmod_eq_emod_of_nonneg (by omega)]; omega, by omega, by omega⟩
      clear hz hZ
      have hn : m.now ≤ 1000000000 := by omega
      have wfI : (Lit.int .i64 (Id : Int)).wf = true := wf64 _ (by omega) (by omega)
      obtain ⟨s1, s2⟩ := calm_set (id := (Id : Int)) (after := 1 + (A : Int)) hO1.o.inv hO1.mo hO1.hi (by omega) (by omega) (by omega) (by omega)
      have kS := whSet_at hO1.o wfI hn s1 s2
      have hne : (putW m (Id : Int) (1 + (A : Int))).L = outL m.L (Id : Int) ++ [((Id : Int), 1 + (A : Int))] := by show outL m.L (Id : Int) ++ [((Id : Int), m.now + (1 + (A : Int)))] = _; rw [hnow, Int.zero_add]
      have hNOW := hid hnow
      clear hnow s1 s2
      go_wp2_with (first
        | (go_at_call 12; (with_reducible refine kS.mono ?_); rintro e w3 ⟨rfl, h3, k3⟩
           have hO3 := hO1.step h3 k3 hO1.mo (hi_put hO1.hi (by omega)) (fun p hp => by
             rw [hne] at hp
             rcases List.mem_append.1 hp with hp | hp
             · exact hO1.du p (mem_outL.1 hp).1
             · simp at hp; subst hp; show 1 + (A : Int) ≤ 100; omega)
           have g3 := k3.below hB1 (Nat.le_refl _) hO1.o.hB
           obtain ⟨D, n, d1, d2⟩ := hO3.map
           have d3 := tight d1
           have hmx : Maps.size D < maxLen := by rw [d2.met.size]; have := hO1.len; simp only [ids, List.length_map]; unfold maxLen; omega)
        | (at_mapUpdate; refine wpList_mapUpdate_own _ rfl _ _ _ 50 rfl 3 3 lawI Try.underlying50 (plainElem Try.prog 3) d _ D rfl d3 hmx _ _ (.int .i64 (Id : Int)) rfl rfl (keyOf_int_mk Try.underlying3 wfI) _ _ (plainElem_int Try.underlying3 (wf64 _ (by omega) (by omega))) ?_
           intro w4 v4 v5))
      have hO4 := hO3.turn v4 (d2.put2 hO1.o.inv.key (Id : Int) (1 + (A : Int))) v5
      rw [← hne] at hO4
      have g4 := on_below hO3 v5 (Nat.le_refl _) g3
      go_roundg (L1 - (i + 1))
      case measure => omega
      case rel => exact ⟨i + 1, _, by omega, rfl, by go_num, hO4, hNOW.out, g4⟩
    · obtain rfl : i = L1 := by omega
      go_wp2_with (with_reducible refine wpList_cutTo0 tY rfl _ _ rfl _ _ L2 rfl rfl rfl HR2.out hK1 ?_; intro a6 hr6)
      clear hr5 hmin1
      go_loopg [71] L2 (fun gn vi wr => ∃ (i : Nat) (m : Wh), i ≤ L2 ∧ gn = L2 - i ∧ vi = .int .i64 (i : Int) ∧ OnO w.heap.size wr x m d m.L ∧ m.now = 0 ∧ Below w.heap.size w wr)
      case atStart => exact ⟨0, _, by omega, by omega, rfl, hO1, hnow, hB1⟩
      case round =>
        clear hO1 hnow hB1
        obtain ⟨i, m, hi, rfl, rfl, hO1, hnow, hB1⟩ := hrel
        by_cases hlt : i < L2
        · obtain ⟨b5, o5, z, rfl, hz, c5⟩ := (hr6.below hB1).at hlt
          simp only [bv] at c5
          obtain ⟨Z, hZ, hZ1⟩ : ∃ Z : Nat, (z.toNat : Int) = (Z : Int) ∧ Z < 256 := ⟨z.toNat, rfl, z.toNat_lt⟩
          rw [hZ] at c5
          obtain ⟨Id, hId, hId1⟩ : ∃ K : Nat, (Z : Int) % 64 = (K : Int) ∧ K < 64 := ⟨Z % 64, by omega, by omega⟩
          clear hz hZ
          have hn : m.now ≤ 1000000000 := by omega
          have wfI : (Lit.int .i64 (Id : Int)).wf = true := wf64 _ (by omega) (by omega)
          have kC := whCancel_any hO1.o wfI hn
          obtain ⟨D, n, d1, d2⟩ := hO1.map
          have lk := due_look d1 d2 wfI
          generalize dueL m.L (Id : Int) = dv at *
          generalize hasL m.L (Id : Int) = hv at *
          have hbb : (hv != hv) = false := by cases hv <;> rfl
          have hNOW := hid hnow
          clear hnow
          go_wp2_with (first
            | (go_at_call 14; (with_reducible refine kC.mono ?_); rintro e w3 ⟨rfl, h3, k3⟩
               have hO3 := hO1.step h3 k3 hO1.mo (hi_out hO1.hi) (fun p hp => hO1.du p (mem_outL.1 hp).1)
               have g3 := k3.below hB1 (Nat.le_refl _) hO1.o.hB
               have d3 := MI.ch d1 k3 hO1.nd)
            | (at_delete; refine wpList_delete_own _ rfl _ _ 50 3 rfl 3 lawI Try.underlying50 (plainElem Try.prog 3) d _ D rfl d3 _ (.int .i64 (Id : Int)) rfl (keyOf_int_mk Try.underlying3 wfI) ?_
               intro w4 v4 t4))
          have hO4 := hO3.turn v4 (d2.del hO1.o.inv.key (Id : Int)) t4.grown
          have g4 := on_below hO3 t4.grown (Nat.le_refl _) g3
          go_roundg (L2 - (i + 1))
          case measure => omega
          case rel => exact ⟨i + 1, cutW m (Id : Int), by omega, rfl, by go_num, hO4, hNOW.out, g4⟩
        · obtain rfl : i = L2 := by omega
          go_wp2
          clear hr6 hmin2
          go_loopg [19] 300 (fun gn vi wr => ∃ (J : Nat) (m : Wh), 1 ≤ J ∧ J ≤ 301 ∧ gn = 301 - J ∧ vi = .int .i64 (J : Int) ∧ OnO w.heap.size wr x m d m.L ∧ m.now = (J : Int) - 1 ∧ Below w.heap.size w wr)
          case atStart => exact ⟨1, m, by omega, by omega, by omega, rfl, hO1, by omega, hB1⟩
          case round =>
            clear hO1 hnow hB1
            obtain ⟨J, m, hJ1, hJ2, rfl, rfl, hO1, hnow, hB1⟩ := hrel
            by_cases hlt : J ≤ 300
            · have hn : m.now ≤ 1000000000 := by omega
              have kT := whTick_any hO1.o hn
              have hrng := hO1.o.inv.rng
              have hkey := hO1.o.inv.key
              have hle : ((J : Int) ≤ 300) := by omega
              have hdl := hO1.dl
              go_wp2_with (first
                | (go_at_call 17; (with_reducible refine kT.mono ?_); rintro e w3 ⟨a3, c3, t3, rfl, o3, td3, l3, h3, k3⟩
                   have hO3 := hO1.step h3 k3 hO1.mo (fun p hp => hO1.hi p (List.mem_filter.1 hp).1) (fun p hp => hO1.du p (List.mem_filter.1 hp).1)
                   have g3 := k3.below hB1 (Nat.le_refl _) hO1.o.hB))
              obtain ⟨N3, hN3⟩ : ∃ N, N = t3.length := ⟨_, rfl⟩
              rw [← hN3] at o3 l3
              rw [← hN3]
              have HN3 := hid hN3
              obtain ⟨B3, hB3⟩ : ∃ B, B = wr.heap.size := ⟨_, rfl⟩
              rw [← hB3] at o3 hdl
              have hall := rm_all hkey td3
              have HNOW := hid hnow
              clear hN3 hB3 hO1 hB1 k3 h3 kT
              go_loopg [20, 99] N3 (fun gn v20 vi wr => ∃ (q : Nat) (last : Int), q ≤ N3 ∧ gn = N3 - q ∧ vi = .int .i64 (q : Int) ∧ v20 = .int .i64 last ∧ (∀ z ∈ t3.drop q, last < z) ∧ OnO w.heap.size wr x (tickW m) d (rmL m.L (t3.take q)) ∧ OL iv 3 B3 wr a3 N3 c3 t3 ∧ Below w.heap.size w wr)
              case atStart =>
                refine ⟨0, -1, by omega, by omega, rfl, rfl, fun z hz => ?_, by rw [List.take_zero, rm_nil]; exact hO3, o3, g3⟩
                have := (hrng _ ((td3.has z).1 (by simpa using hz))).1
                dsimp only at this; omega
              case round =>
                clear hO3 o3 g3
                obtain ⟨q, last, hq, rfl, rfl, rfl, hlast, hO4, o4, g4⟩ := hrel
                by_cases hql : q < N3
                · obtain ⟨b4, of4, z, ha4, e4, c4⟩ := o4.rl.at hql
                  subst ha4
                  simp only [iv] at c4
                  have hzl := hlast z (mem_drop_at e4)
                  have hzm := (td3.has z).1 (List.mem_of_getElem? e4)
                  have hznot := told_not td3 e4
                  have hzr := hrng _ hzm
                  have wfz : (Lit.int .i64 z).wf = true := wf64 _ (by dsimp only at hzr; omega) (by dsimp only at hzr; omega)
                  have hzm2 := rm_mem hzm hznot
                  rw [hnow, show (J : Int) - 1 + 1 = (J : Int) by omega] at hzm2
                  have hnext := told_next td3 e4
                  have htake : t3.take (q + 1) = t3.take q ++ [z] := by rw [List.take_add_one, e4]; rfl
                  obtain ⟨D, n, d1, d2⟩ := hO4.map
                  have lk := due_look d1 d2 wfz
                  rw [due_mem (rm_nodup hkey _) hzm2, hasL_iff.2 (List.mem_map_of_mem (f := fun p : Tm => p.1) hzm2)] at lk
                  have HT := hid htake
                  have HJ : ((J : Int) == (J : Int)) = true := by simp
                  clear htake hnow hlast hznot hzr hzm hzm2 e4
                  go_wp2_with (at_delete; refine wpList_delete_own _ rfl _ _ 50 3 rfl 3 lawI Try.underlying50 (plainElem Try.prog 3) d _ D rfl d1 _ (.int .i64 z) rfl (keyOf_int_mk Try.underlying3 wfz) ?_
                               intro w5 v5 t5)
                  have hO5 := hO4.turn v5 (d2.del (rm_nodup hkey _) z) t5.grown
                  have g5 := on_below hO4 t5.grown (Nat.le_refl _) g4
                  have o5 := o4.ch (Ch.of_grown t5.grown) (fun p hp e => by have := (o4.ltB hp).2; omega)
                  go_roundg (N3 - (q + 1))
                  case measure => omega
                  case rel => exact ⟨q + 1, z, by omega, rfl, by go_num, rfl, hnext, by rw [HT.out, rm_snoc]; exact hO5, o5, g5⟩
                · obtain rfl : q = N3 := by omega
                  rw [List.take_of_length_le (by have := HN3.out; omega), hall] at hO4
                  obtain ⟨D, n, d1, d2⟩ := hO4.map
                  clear o4 hlast
                  go_wp2_with (first
                    | (at_range; refine wpList_range_own _ rfl _ 50 rfl 3 3 lawI Try.underlying50 (plainElem Try.prog 3) d n D rfl d1 ?_; intro w0 hrg0 hg0 hs0)
                    | go_in)
                  go_frame
                  obtain ⟨B5, hB5⟩ : ∃ B, B = wr.heap.size := ⟨_, rfl⟩
                  have hb0 := below_of_grown hg0
                  have hO0 := hO4.below hb0
                  have g0 := bstep g4 hb0
                  have hB5w : w.heap.size ≤ B5 := by rw [hB5]; exact g4.size
                  have hdB : d < B5 := by rw [hB5]; exact hO4.dl
                  have hSB : ∀ b, x.S b → b < B5 := by rw [hB5]; exact hO4.o.sL
                  rw [← hB5] at hrg0 hs0 hb0
                  rw [← hB5]
                  clear hB5 hg0 g4 hO4 d1
                  go_loopw [127] (fun _ wr => ∃ (left : Lit → Bool) (cnt : Nat), wr.ranges Try.prog 3 (plainElem Try.prog 3) d B5 n D left cnt ∧ Below B5 w0 wr)
                    (fun _ wr => wr.rangeLeft d B5)
                  case atStart => exact ⟨_, _, hrg0, Below.refl _ _⟩
                  case round =>
                    obtain ⟨left, cnt, hrg, hb6⟩ := hrel
                    go_wp2_with (first
                      | (at_next; refine wpList_next_ranges_ii _ rfl _ rfl 3 3 .i64 .i64 lawI Try.underlying3 Try.underlying3 d B5 n _ _ _ rfl hrg ?_ ?_)
                      | go_in)
                    · intro _ hl0
                      have kB : Ch (fun j => B5 ≤ j) w0 wr := ⟨hb6.os, hb6.tape, hb6.output, hb6.size, fun k hk hn => hb6.block k (by omega)⟩
                      have hO6 := hO0.ch kB (fun b hb e => by have := hSB b hb; omega) (by omega)
                      have g6 := g0.trans (hb6.mono hB5w)
                      go_wp2
                      go_roundg (301 - (J + 1))
                      case measure => omega
                      case rel => exact ⟨J + 1, tickW m, by omega, by omega, rfl, by go_num, hO6, by show m.now + 1 = _; rw [HNOW.out]; push_cast; omega, g6⟩
                    · intro y c w7 cnt7 wy wc hly hat hrg7 hlt7 hg7 hs7 hen
                      have hm7 := d2.of_at hat
                      have hdue := hO0.o.inv.rng _ hm7
                      have hnc : ¬ c ≤ (J : Int) := by have h1 := hdue.2.2.1; have : (tickW m).now = m.now + 1 := rfl; have := HNOW.out; dsimp only at h1; omega
                      clear hm7 hdue
                      go_wp2
                      go_roundw
                      case rel => exact ⟨_, cnt7, hrg7, hb6.trans ⟨hg7.os, hg7.tape, hg7.output, hg7.size, fun k hk => hg7.block k (by have := hb6.size; omega) (by simp; omega)⟩⟩
                      case measure => rw [hrg7.left_eq, hrg.left_eq]; exact hlt7
            · obtain rfl : J = 301 := by omega
              have hL0 : m.L = [] := by
                cases hm : m.L with
                | nil => rfl
                | cons p l =>
                  have h1 := hO1.o.inv.rng p (by rw [hm]; simp)
                  have h2 := hO1.du p (by rw [hm]; simp)
                  omega
              have kL : Calls Try.prog 21 #[.pointer (some ⟨x.g, 0, none⟩)] wr fun e w' => e = .returned (.int .i64 0) ∧ wr = w' := by
                have := whLen_any hO1.o; rw [hL0] at this; exact this
              have kN : Calls Try.prog 20 #[.pointer (some ⟨x.g, 0, none⟩)] wr fun e w' => e = .returned (.int .i64 300) ∧ wr = w' := by
                have := whNow_any hO1.o; rwa [hnow] at this
              obtain ⟨D, n, d1, d2⟩ := hO1.map
              have hl : ∀ ty, (Builtin.len_ #[50] ty #[.map (some d)]).run Try.prog wr = .ok (.int .i64 0) wr := fun ty => by
                have := d1.len Try.underlying50 ty
                rwa [show Maps.size D = 0 by rw [d2.met.size, hL0]; rfl] at this
              go_wp2_with (first
                | (go_at_call 21; (with_reducible refine kL.mono ?_); rintro e w3 ⟨rfl, rfl⟩)
                | (go_at_call 20; (with_reducible refine kN.mono ?_); rintro e w3 ⟨rfl, rfl⟩)
                | (go_at_call 10; (with_reducible refine (awake13_any _).mono ?_); rintro e w5 ⟨rfl, g5⟩))
              go_ret
              exact ⟨rfl, bstep hB1 g5⟩
end Go.Proofs.Ytpnmnffefdjegaa
