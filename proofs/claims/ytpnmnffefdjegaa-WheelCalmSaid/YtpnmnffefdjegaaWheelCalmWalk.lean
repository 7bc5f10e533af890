/-
  The walk of the statement WheelCalm: for any numbers and operations it returns true, and nothing that was there has changed.
-/
import Derived.Test.YtpnmnffefdjegaaB13j
import Derived.Test.YtpnmnffefdjegaaM13c
namespace Go.Proofs.Ytpnmnffefdjegaa
open Go.RowKit Go.Maps Go.Sort
set_option linter.unusedVariables false

/-- The second wheel holds the timers of even numbers alone, after so many operations. -/
def CaR (w : World) (x y : Wl) (i : Nat) (wr : World) : Prop := ∃ m m2, TwO w.heap.size wr x y m m2 ∧ CaM m m2 ∧ m.now ≤ 16 * (i : Int) ∧ Below w.heap.size w wr

set_option maxRecDepth 100000 in
set_option maxHeartbeats 16000000 in
theorem wheelCalm_walk (w : World) (one two : Nat) (a0 : Option Addr) (n0 c0 : Nat) (os : List Op13) (h1 : one ≤ 255) (h2 : two ≤ 255) (ho : RK enO13 3 w a0 n0 c0 os) (hu : ∀ o ∈ os, OkO o) (m0 : n0 ≤ 9223372036854775807) :
    Calls Try.prog 8 #[.int .u8 (one : Int), .int .u8 (two : Int), .slice a0 n0 c0] w fun e w' => e = .returned (.bool true) ∧ Below w.heap.size w w' := by
  have hN : ∀ (w : World) (p : Nat), p ≤ 255 → Calls Try.prog 9 #[.int .i64 (1 + (p : Int)), .int .i64 64] w (NewWh w (1 + p) 64) := fun w p hp => by
    have := whNew_any w (1 + p) 64 (by omega) (by omega) (by omega) (by omega)
    rwa [show ((1 + p : Nat) : Int) = 1 + (p : Int) by omega] at this
  have k1 := hN w one h1
  obtain ⟨L, hmin, hL1, hL2⟩ : ∃ L : Nat, (∀ ts t w', (Builtin.min_ ts t #[.int .i64 (n0 : Int), .int .i64 80]).run Try.prog w' = .ok (.int .i64 (L : Int)) w') ∧ L ≤ n0 ∧ L ≤ 80 := by
    refine ⟨min n0 80, fun ts t w' => ?_, by omega, by omega⟩
    rw [run_min_int2]; congr 2; split <;> omega
  have HO := hid ho
  have HU := hid hu
  clear ho hu
  go_enter Try.func8, Try.ntmps8
  go_wp2_with (first
    | (go_at_call 9; (with_reducible refine k1.mono ?_); rintro e w1 ⟨x, rfl, _, r1, g1⟩; have k2 := hN w1 two h2)
    | (go_at_call 9; (with_reducible refine k2.mono ?_); rintro e w2 ⟨y, rfl, _, r2, g2⟩)
    | (with_reducible refine wpList_cutToK0 elO13 rfl _ _ rfl _ _ L rfl rfl rfl HO.out hL1 ?_; intro a5 hr5))
  have hT0 : CaR w x y 0 w2 := ⟨_, _, two_start r1 r2 g2 g1.size, ⟨rfl, rfl, rfl, rfl, fun p hp => by cases hp⟩, by show (0 : Int) ≤ _; omega, bstep g1 g2⟩
  clear k1 k2 r1 r2 g1 g2 hN hmin m0
  go_loopg [50] L (fun gn vi wr => ∃ i : Nat, i ≤ L ∧ gn = L - i ∧ vi = .int .i64 (i : Int) ∧ CaR w x y i wr)
  case atStart => exact ⟨0, by omega, by omega, rfl, hT0⟩
  case round =>
    obtain ⟨i, hi, rfl, rfl, hT⟩ := hrel
    clear hT0
    by_cases hlt : i < L
    · obtain ⟨o, hox⟩ : ∃ o, (os.take L)[i]? = some o := ⟨_, List.getElem?_eq_getElem (by rw [hr5.len]; exact hlt)⟩
      obtain ⟨m, m2, hTw, hM, hnow, hbel⟩ := hT
      obtain ⟨gb, off, rfl, hgb, hrg⟩ := (hr5.below hbel).range hox
      obtain ⟨r, hr, hr4⟩ : ∃ r : Int, (o.k : Int) % 4 = r ∧ (r = 0 ∨ r = 1 ∨ r = 2 ∨ r = 3) := ⟨_, rfl, by omega⟩
      obtain ⟨Id, hId, hId1⟩ : ∃ K : Nat, bits .and .i64 o.id 63 = (K : Int) ∧ K < 64 := ⟨(o.id % 64).toNat, by rw [and_63]; omega, by omega⟩
      obtain ⟨A, hA, hA1⟩ : ∃ K : Nat, bits .and .i64 o.af 127 = (K : Int) ∧ K < 128 := ⟨(o.af % 128).toNat, by rw [and_127]; omega, by omega⟩
      obtain ⟨K, hK, hK1⟩ : ∃ K : Nat, bits .and .i64 o.af 15 = (K : Int) ∧ K < 16 := ⟨(o.af % 16).toNat, by rw [and_15]; omega, by omega⟩
      obtain ⟨e, he, he2⟩ : ∃ e : Int, (Id : Int).tmod 2 = e ∧ (e = 0 ∧ (Id : Int) % 2 = 0 ∨ e = 1 ∧ (Id : Int) % 2 ≠ 0) := ⟨_, rfl, by rw [Int.tmod_eq_emod_of_nonneg (by omega)]; omega⟩
      obtain ⟨A1, hA2, hA3, hA4⟩ : ∃ A1 : Nat, IntKind.wrap .i64 (1 + (A : Int)) = (A1 : Int) ∧ 1 ≤ A1 ∧ A1 ≤ 128 := ⟨1 + A, by have := wrap_small (1 + A) (by omega); push_cast at this ⊢; exact this, by omega, by omega⟩
      have b0 := heap_alloc_new wr (.cells #[.int .u8 0, .int .i64 0, .int .i64 0] 32)
      clear hox
      go_wp2_with (first
        | (with_reducible refine wpList_loadM rowO13 rfl _ rfl _ _ rfl (opV13 o) hrg rfl ?_)
        | (with_reducible refine wpList_storeR rowO13 rfl _ _ rfl _ _ rfl rfl b0 rfl rfl (op13_ones _) ?_
           have bW := setRow_heap _ _ _ (opV13 o) _ _ b0
           have kW : Below wr.heap.size wr ((wr.alloc (.cells #[.int .u8 0, .int .i64 0, .int .i64 0] 32)).setRow wr.heap.size (opV13 o)) := below_setRow (bnew0 wr _) (Nat.le_refl _) _
           have x1 := (bx3o bW).2.1
           have x2 := (bx3o bW).2.2))
      go_quiet (fail)
      rename_i nq
      have kW := kW.trans (below_drewN (Below.refl _ _) nq)
      have bW : (((wr.alloc (.cells #[.int .u8 0, .int .i64 0, .int .i64 0] 32)).setRow wr.heap.size (opV13 o)).drewN nq).heap[wr.heap.size]? = some (.cells (opV13 o) 32 (0, 0)) := bW
      have hTW : TwO w.heap.size (((wr.alloc (.cells #[.int .u8 0, .int .i64 0, .int .i64 0] 32)).setRow wr.heap.size (opV13 o)).drewN nq) x y m m2 := hTw.below kW
      have hbel := bstep hbel kW
      have hrow := hr5
      clear hTw hrg hgb b0 kW x1 x2
      generalize ((wr.alloc (.cells #[.int .u8 0, .int .i64 0, .int .i64 0] 32)).setRow wr.heap.size (opV13 o)).drewN nq = W at *
      generalize wr.heap.size = b at *
      have x0 := (bx3o bW).1
      go_upto_block 2 with fail
      rw [hr]
      clear hr x0
      have wfI : (Lit.int .i64 (Id : Int)).wf = true := wf64 _ (by omega) (by omega)
      rcases he2 with ⟨rfl, hev⟩ | ⟨rfl, hev⟩
      · clear he
        go_cut [12] (fun v12 wx => v12 = .pointer (some ⟨b, 0, none⟩) ∧ CaR w x y (i + 1) wx)
        case first =>
          have hn : m.now ≤ 1000000000 := by omega
          have hn2 : m2.now ≤ 1000000000 := by rw [hM.now]; exact hn
          obtain ⟨s1, s2⟩ := calm_set (id := (Id : Int)) (after := (A1 : Int)) hTW.l.inv hM.mo1 hM.hi (by omega) (by omega) (by omega) (by omega)
          obtain ⟨s3, s4⟩ := calm_set (id := (Id : Int)) (after := (A1 : Int)) hTW.r.inv hM.mo2 hM.hi2 (by omega) (by omega) (by omega) (by omega)
          rcases hr4 with rfl | rfl | hr4
          · have kA := whSet_at hTW.l wfI hn s1 s2
            clear s1 s2
            go_wp2_with (first
              | (go_at_call 12; (with_reducible refine kA.mono ?_); rintro e w3 ⟨rfl, h3, k3⟩
                 have hT3 := hTW.left h3 k3
                 have g3 := hTW.outL k3 (Nat.le_refl _) hbel
                 have kB := whSet_at hT3.r wfI hn2 s3 s4)
              | (go_at_call 12; (with_reducible refine kB.mono ?_); rintro e w4 ⟨rfl, h4, k4⟩
                 have hT4 := hT3.right h4 k4
                 have g4 := hT3.outR k4 (Nat.le_refl _) g3))
            go_meet
            exact ⟨rfl, _, _, hT4, hM.put (by omega) hev, by show m.now ≤ _; push_cast; omega, g4⟩
          · have kA := whCancel_any hTW.l wfI hn
            clear s1 s2 s3 s4
            have e2 := hM.has hev
            generalize hhe : hasL m.L (Id : Int) = hv at *
            have hbb : (hv != hv) = false := by cases hv <;> rfl
            have HH := hid hhe
            clear hhe
            go_wp2_with (first
              | (go_at_call 14; (with_reducible refine kA.mono ?_); rintro e w3 ⟨rfl, h3, k3⟩
                 have hT3 := hTW.left h3 k3
                 have g3 := hTW.outL k3 (Nat.le_refl _) hbel
                 have kB := whCancel_at hT3.r wfI hn2 e2 rfl)
              | (go_at_call 14; (with_reducible refine kB.mono ?_); rintro e w4 ⟨rfl, h4, k4⟩
                 have hT4 := hT3.right h4 k4
                 have g4 := hT3.outR k4 (Nat.le_refl _) g3))
            go_meet
            exact ⟨rfl, _, _, hT4, hM.cut _, by show m.now ≤ _; push_cast; omega, g4⟩
          · have x2 := (bx3o bW).2.2
            have d0 : (r == 0) = false := by rw [beq_eq_false_iff_ne]; omega
            have d1 : (r == 1) = false := by rw [beq_eq_false_iff_ne]; omega
            have hmx : True := trivial
            clear hr4 s1 s2 s3 s4
            go_wp2
            go_loopg [71] (K + 1) (fun gn vi wr => ∃ j : Nat, j ≤ K + 1 ∧ gn = K + 1 - j ∧ vi = .int .i64 (j : Int) ∧ ∃ m m2, TwO w.heap.size wr x y m m2 ∧ CaM m m2 ∧ m.now ≤ 16 * (i : Int) + (j : Int) ∧ Below w.heap.size w wr)
            case atStart => exact ⟨0, by omega, by omega, rfl, m, m2, hTW, hM, by omega, hbel⟩
            case round =>
              clear hTW hM hnow hn hn2 hmx
              obtain ⟨j, hj, rfl, rfl, m, m2, hTj, hMj, hnj, hbj⟩ := hrel
              clear hbel bW x2
              by_cases hjl : j < K + 1
              · have hn : m.now ≤ 1000000000 := by omega
                have hn2 : m2.now ≤ 1000000000 := by rw [hMj.now]; exact hn
                have kT := whTick_any hTj.l hn
                go_wp2_with (first
                  | (go_at_call 17; (with_reducible refine kT.mono ?_); rintro e w3 ⟨a3, c3, t3, rfl, o3, td3, l3, h3, k3⟩
                     have hL3 := hTj.l.sL
                     have hT3 := hTj.left h3 k3
                     have g3 := hTj.outL k3 (Nat.le_refl _) hbj))
                have hrng := hTj.l.inv.rng
                clear kT hbj k3 h3
                obtain ⟨N3, hN3⟩ : ∃ N, N = t3.length := ⟨_, rfl⟩
                rw [← hN3] at o3 l3
                rw [← hN3]
                have HN3 := hid hN3
                clear hN3
                go_loopg [17, 76] N3 (fun gn v17 vi wr => ∃ (q : Nat) (a6 : Option Addr) (c6 n6 : Nat), q ≤ N3 ∧ gn = N3 - q ∧ vi = .int .i64 (q : Int) ∧ v17 = .slice a6 n6 c6 ∧ n6 ≤ q ∧ OL iv 3 w3.heap.size wr a6 n6 c6 (evI (t3.take q)) ∧ Below w3.heap.size w3 wr)
                case atStart => exact ⟨0, none, 0, 0, by omega, by omega, rfl, rfl, by omega, OL.nil _ _ _ _, Below.refl _ _⟩
                case round =>
                  obtain ⟨q, a6, c6, n6, hq, rfl, rfl, rfl, hn6, o6, hb6⟩ := hrel
                  have hsz := hb6.size
                  by_cases hql : q < N3
                  · obtain ⟨b3, of3, z, ha3, e3, z3⟩ := (o3.rl.below hb6).at hql
                    subst ha3
                    simp only [iv] at z3
                    have hz0 : 0 ≤ z := (hrng _ ((td3.has z).1 (List.mem_of_getElem? e3))).1
                    have HE := hid e3
                    have hsn := hid (evI_snoc e3)
                    clear e3
                    by_cases hz : z % 2 = 0
                    · have hz2 : z.tmod 2 = 0 := by rw [Int.tmod_eq_emod_of_nonneg hz0]; exact hz
                      have HZ := hid hz
                      clear hz hz0
                      go_wp2_with (with_reducible refine wpList_app tI rfl _ _ rfl rfl (o6.alloc _) rfl (lit1I wr z) (fun _ => rfl) (by omega) (by omega) (by rw [heap_size_alloc]; omega) ?_
                                   intro w7 a7 c7 o7 g7)
                      go_roundg (N3 - (q + 1))
                      case measure => omega
                      case rel => exact ⟨q + 1, a7, c7, n6 + 1, by omega, rfl, by go_num, rfl, by omega, by rw [hsn.out, if_pos HZ.out]; exact o7, (bnew hb6 _).trans g7⟩
                    · have hz2 : z.tmod 2 = 1 := by rw [Int.tmod_eq_emod_of_nonneg hz0]; omega
                      have HZ := hid hz
                      clear hz hz0
                      go_wp2
                      go_roundg (N3 - (q + 1))
                      case measure => omega
                      case rel => exact ⟨q + 1, a6, c6, n6, by omega, rfl, by go_num, rfl, by omega, by rw [hsn.out, if_neg HZ.out, List.append_nil]; exact o6, hb6⟩
                  · obtain rfl : q = N3 := by omega
                    rw [List.take_of_length_le (by have := HN3.out; omega)] at o6
                    have hT6 := hT3.below hb6
                    have kU := whTick_any hT6.r hn2
                    have g6 := g3.trans (hb6.mono g3.size)
                    go_wp2_with (first
                      | (go_at_call 17; (with_reducible refine kU.mono ?_); rintro e w4 ⟨a4, c4, t4, rfl, o4, td4, l4, h4, k4⟩
                         have hT4 := hT6.right h4 k4
                         have g4 := hT6.outR k4 (Nat.le_refl _) g6
                         have p6 := o6.ch k4 (fun p hp e => by have := (o6.ltB hp).2; have := hT3.r.sL _ e; omega)
                         obtain rfl : t4 = evI t3 := hMj.told td3 td4
                         have kI := aw_ints o4 p6.rl (by omega) (by omega) (Below.refl _ _) rfl)
                      | (go_at_call 16; (with_reducible refine kI.mono ?_); rintro e w5 ⟨rfl, g5⟩))
                    go_roundg (K + 1 - (j + 1))
                    case measure => omega
                    case rel => exact ⟨j + 1, by omega, rfl, by go_num, _, _, hT4.below g5, hMj.tick, by show m.now + 1 ≤ _; push_cast; omega, bstep g4 g5⟩
              · obtain rfl : j = K + 1 := by omega
                go_wp2
                go_meet
                exact ⟨rfl, m, m2, hTj, hMj, by push_cast; omega, hbj⟩
        case rest =>
          obtain ⟨rfl, m', m2', hT', hM', hn', hb'⟩ := hcut
          have hn : m'.now ≤ 1000000000 := by push_cast at hn'; omega
          have hn2 : m2'.now ≤ 1000000000 := by rw [hM'.now]; exact hn
          have lx := whLeft_any hT'.l wfI hn
          have ly := whLeft_any hT'.r wfI hn2
          have nx := whLen_any hT'.l
          have ny := whLen_any hT'.r
          have ux := whNow_any hT'.l
          have uy := whNow_any hT'.r
          have hle : (m2'.L.length : Int) ≤ (m'.L.length : Int) := by have := hM'.len; omega
          rw [hM'.now] at uy
          rw [hM'.left hev, hM'.has hev] at ly
          generalize leftW m' (Id : Int) = lv at *
          generalize hasL m'.L (Id : Int) = hv at *
          have hbb : (hv != hv) = false := by cases hv <;> rfl
          have hll : (lv == lv) = true := by simp
          obtain ⟨N, hN⟩ : ∃ N, N = m'.L.length := ⟨_, rfl⟩
          obtain ⟨N2, hN2⟩ : ∃ N, N = m2'.L.length := ⟨_, rfl⟩
          rw [← hN] at nx hle
          rw [← hN2] at ny hle
          obtain ⟨T, hTn⟩ : ∃ T, T = m'.now := ⟨_, rfl⟩
          rw [← hTn] at ux uy
          have HT := hid hTn
          have HNW := hid hn'
          clear hN hN2 hTn hn' hn hn2
          go_wp2_with (first
            | (go_at_call 18; (with_reducible refine lx.mono ?_); rintro e w3 ⟨rfl, rfl⟩)
            | (go_at_call 18; (with_reducible refine ly.mono ?_); rintro e w3 ⟨rfl, rfl⟩)
            | (go_at_call 21; (with_reducible refine nx.mono ?_); rintro e w3 ⟨rfl, rfl⟩)
            | (go_at_call 21; (with_reducible refine ny.mono ?_); rintro e w3 ⟨rfl, rfl⟩)
            | (go_at_call 20; (with_reducible refine ux.mono ?_); rintro e w3 ⟨rfl, rfl⟩)
            | (go_at_call 20; (with_reducible refine uy.mono ?_); rintro e w3 ⟨rfl, rfl⟩))
          go_roundg (L - (i + 1))
          case measure => omega
          case rel => exact ⟨i + 1, by omega, rfl, by go_num, m', m2', hT', hM', HNW.out, hb'⟩
      · clear he
        go_cut [12] (fun v12 wx => v12 = .pointer (some ⟨b, 0, none⟩) ∧ CaR w x y (i + 1) wx)
        case first =>
          have hn : m.now ≤ 1000000000 := by omega
          have hn2 : m2.now ≤ 1000000000 := by rw [hM.now]; exact hn
          obtain ⟨s1, s2⟩ := calm_set (id := (Id : Int)) (after := (A1 : Int)) hTW.l.inv hM.mo1 hM.hi (by omega) (by omega) (by omega) (by omega)
          obtain ⟨s3, s4⟩ := calm_set (id := (Id : Int)) (after := (A1 : Int)) hTW.r.inv hM.mo2 hM.hi2 (by omega) (by omega) (by omega) (by omega)
          rcases hr4 with rfl | rfl | hr4
          · have kA := whSet_at hTW.l wfI hn s1 s2
            clear s1 s2
            go_wp2_with (first
              | (go_at_call 12; (with_reducible refine kA.mono ?_); rintro e w3 ⟨rfl, h3, k3⟩
                 have hT3 := hTW.left h3 k3
                 have g3 := hTW.outL k3 (Nat.le_refl _) hbel
                 ))
            go_meet
            exact ⟨rfl, _, _, hT3, hM.put1 (by omega) hev, by show m.now ≤ _; push_cast; omega, g3⟩
          · have kA := whCancel_any hTW.l wfI hn
            clear s1 s2 s3 s4
            go_wp2_with (first
              | (go_at_call 14; (with_reducible refine kA.mono ?_); rintro e w3 ⟨rfl, h3, k3⟩
                 have hT3 := hTW.left h3 k3
                 have g3 := hTW.outL k3 (Nat.le_refl _) hbel))
            go_meet
            exact ⟨rfl, _, _, hT3, hM.cut1 hev, by show m.now ≤ _; push_cast; omega, g3⟩
          · have x2 := (bx3o bW).2.2
            have d0 : (r == 0) = false := by rw [beq_eq_false_iff_ne]; omega
            have d1 : (r == 1) = false := by rw [beq_eq_false_iff_ne]; omega
            have hmx : True := trivial
            clear hr4 s1 s2 s3 s4
            go_wp2
            go_loopg [71] (K + 1) (fun gn vi wr => ∃ j : Nat, j ≤ K + 1 ∧ gn = K + 1 - j ∧ vi = .int .i64 (j : Int) ∧ ∃ m m2, TwO w.heap.size wr x y m m2 ∧ CaM m m2 ∧ m.now ≤ 16 * (i : Int) + (j : Int) ∧ Below w.heap.size w wr)
            case atStart => exact ⟨0, by omega, by omega, rfl, m, m2, hTW, hM, by omega, hbel⟩
            case round =>
              clear hTW hM hnow hn hn2 hmx
              obtain ⟨j, hj, rfl, rfl, m, m2, hTj, hMj, hnj, hbj⟩ := hrel
              clear hbel bW x2
              by_cases hjl : j < K + 1
              · have hn : m.now ≤ 1000000000 := by omega
                have hn2 : m2.now ≤ 1000000000 := by rw [hMj.now]; exact hn
                have kT := whTick_any hTj.l hn
                go_wp2_with (first
                  | (go_at_call 17; (with_reducible refine kT.mono ?_); rintro e w3 ⟨a3, c3, t3, rfl, o3, td3, l3, h3, k3⟩
                     have hL3 := hTj.l.sL
                     have hT3 := hTj.left h3 k3
                     have g3 := hTj.outL k3 (Nat.le_refl _) hbj))
                have hrng := hTj.l.inv.rng
                clear kT hbj k3 h3
                obtain ⟨N3, hN3⟩ : ∃ N, N = t3.length := ⟨_, rfl⟩
                rw [← hN3] at o3 l3
                rw [← hN3]
                have HN3 := hid hN3
                clear hN3
                go_loopg [17, 76] N3 (fun gn v17 vi wr => ∃ (q : Nat) (a6 : Option Addr) (c6 n6 : Nat), q ≤ N3 ∧ gn = N3 - q ∧ vi = .int .i64 (q : Int) ∧ v17 = .slice a6 n6 c6 ∧ n6 ≤ q ∧ OL iv 3 w3.heap.size wr a6 n6 c6 (evI (t3.take q)) ∧ Below w3.heap.size w3 wr)
                case atStart => exact ⟨0, none, 0, 0, by omega, by omega, rfl, rfl, by omega, OL.nil _ _ _ _, Below.refl _ _⟩
                case round =>
                  obtain ⟨q, a6, c6, n6, hq, rfl, rfl, rfl, hn6, o6, hb6⟩ := hrel
                  have hsz := hb6.size
                  by_cases hql : q < N3
                  · obtain ⟨b3, of3, z, ha3, e3, z3⟩ := (o3.rl.below hb6).at hql
                    subst ha3
                    simp only [iv] at z3
                    have hz0 : 0 ≤ z := (hrng _ ((td3.has z).1 (List.mem_of_getElem? e3))).1
                    have HE := hid e3
                    have hsn := hid (evI_snoc e3)
                    clear e3
                    by_cases hz : z % 2 = 0
                    · have hz2 : z.tmod 2 = 0 := by rw [Int.tmod_eq_emod_of_nonneg hz0]; exact hz
                      have HZ := hid hz
                      clear hz hz0
                      go_wp2_with (with_reducible refine wpList_app tI rfl _ _ rfl rfl (o6.alloc _) rfl (lit1I wr z) (fun _ => rfl) (by omega) (by omega) (by rw [heap_size_alloc]; omega) ?_
                                   intro w7 a7 c7 o7 g7)
                      go_roundg (N3 - (q + 1))
                      case measure => omega
                      case rel => exact ⟨q + 1, a7, c7, n6 + 1, by omega, rfl, by go_num, rfl, by omega, by rw [hsn.out, if_pos HZ.out]; exact o7, (bnew hb6 _).trans g7⟩
                    · have hz2 : z.tmod 2 = 1 := by rw [Int.tmod_eq_emod_of_nonneg hz0]; omega
                      have HZ := hid hz
                      clear hz hz0
                      go_wp2
                      go_roundg (N3 - (q + 1))
                      case measure => omega
                      case rel => exact ⟨q + 1, a6, c6, n6, by omega, rfl, by go_num, rfl, by omega, by rw [hsn.out, if_neg HZ.out, List.append_nil]; exact o6, hb6⟩
                  · obtain rfl : q = N3 := by omega
                    rw [List.take_of_length_le (by have := HN3.out; omega)] at o6
                    have hT6 := hT3.below hb6
                    have kU := whTick_any hT6.r hn2
                    have g6 := g3.trans (hb6.mono g3.size)
                    go_wp2_with (first
                      | (go_at_call 17; (with_reducible refine kU.mono ?_); rintro e w4 ⟨a4, c4, t4, rfl, o4, td4, l4, h4, k4⟩
                         have hT4 := hT6.right h4 k4
                         have g4 := hT6.outR k4 (Nat.le_refl _) g6
                         have p6 := o6.ch k4 (fun p hp e => by have := (o6.ltB hp).2; have := hT3.r.sL _ e; omega)
                         obtain rfl : t4 = evI t3 := hMj.told td3 td4
                         have kI := aw_ints o4 p6.rl (by omega) (by omega) (Below.refl _ _) rfl)
                      | (go_at_call 16; (with_reducible refine kI.mono ?_); rintro e w5 ⟨rfl, g5⟩))
                    go_roundg (K + 1 - (j + 1))
                    case measure => omega
                    case rel => exact ⟨j + 1, by omega, rfl, by go_num, _, _, hT4.below g5, hMj.tick, by show m.now + 1 ≤ _; push_cast; omega, bstep g4 g5⟩
              · obtain rfl : j = K + 1 := by omega
                go_wp2
                go_meet
                exact ⟨rfl, m, m2, hTj, hMj, by push_cast; omega, hbj⟩
        case rest =>
          obtain ⟨rfl, m', m2', hT', hM', hn', hb'⟩ := hcut
          have hn : m'.now ≤ 1000000000 := by push_cast at hn'; omega
          have hn2 : m2'.now ≤ 1000000000 := by rw [hM'.now]; exact hn
          have lx := whLeft_any hT'.l wfI hn
          have ly := whLeft_any hT'.r wfI hn2
          have nx := whLen_any hT'.l
          have ny := whLen_any hT'.r
          have ux := whNow_any hT'.l
          have uy := whNow_any hT'.r
          have hle : (m2'.L.length : Int) ≤ (m'.L.length : Int) := by have := hM'.len; omega
          rw [hM'.now] at uy
          rw [hM'.has1 hev] at ly
          generalize leftW m2' (Id : Int) = lv2 at *
          generalize leftW m' (Id : Int) = lv at *
          generalize hasL m'.L (Id : Int) = hv at *
          have hbb : (hv != hv) = false := by cases hv <;> rfl
          have hll : (lv == lv) = true := by simp
          obtain ⟨N, hN⟩ : ∃ N, N = m'.L.length := ⟨_, rfl⟩
          obtain ⟨N2, hN2⟩ : ∃ N, N = m2'.L.length := ⟨_, rfl⟩
          rw [← hN] at nx hle
          rw [← hN2] at ny hle
          obtain ⟨T, hTn⟩ : ∃ T, T = m'.now := ⟨_, rfl⟩
          rw [← hTn] at ux uy
          have HT := hid hTn
          have HNW := hid hn'
          clear hN hN2 hTn hn' hn hn2
          go_wp2_with (first
            | (go_at_call 18; (with_reducible refine lx.mono ?_); rintro e w3 ⟨rfl, rfl⟩)
            | (go_at_call 18; (with_reducible refine ly.mono ?_); rintro e w3 ⟨rfl, rfl⟩)
            | (go_at_call 21; (with_reducible refine nx.mono ?_); rintro e w3 ⟨rfl, rfl⟩)
            | (go_at_call 21; (with_reducible refine ny.mono ?_); rintro e w3 ⟨rfl, rfl⟩)
            | (go_at_call 20; (with_reducible refine ux.mono ?_); rintro e w3 ⟨rfl, rfl⟩)
            | (go_at_call 20; (with_reducible refine uy.mono ?_); rintro e w3 ⟨rfl, rfl⟩))
          go_roundg (L - (i + 1))
          case measure => omega
          case rel => exact ⟨i + 1, by omega, rfl, by go_num, m', m2', hT', hM', HNW.out, hb'⟩
    · obtain rfl : i = L := by omega
      obtain ⟨m, m2, _, _, _, hb⟩ := hT
      go_wp2_with (go_at_call 10; (with_reducible refine (awake13_any _).mono ?_); rintro e w5 ⟨rfl, g5⟩)
      go_ret
      exact ⟨rfl, bstep hb g5⟩
end Go.Proofs.Ytpnmnffefdjegaa
