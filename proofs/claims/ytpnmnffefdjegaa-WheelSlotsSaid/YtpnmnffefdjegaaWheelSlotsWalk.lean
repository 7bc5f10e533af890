/-
  The walk of the statement WheelSlots: for any numbers and operations it returns true, and nothing that was there has changed.
-/
import Derived.Test.YtpnmnffefdjegaaB13j
namespace Go.Proofs.Ytpnmnffefdjegaa
open Go.RowKit Go.Maps Go.Sort
set_option linter.unusedVariables false

/-- Both wheels hold the same timers, after so many operations. -/
def SlR (w : World) (x y : Wl) (room i : Nat) (wr : World) : Prop := ∃ m, TwO w.heap.size wr x y m m ∧ m.now ≤ 16 * (i : Int) ∧ m.most = (room : Int) ∧ Below w.heap.size w wr

set_option maxRecDepth 100000 in
set_option maxHeartbeats 16000000 in
theorem wheelSlots_walk (w : World) (one two room : Nat) (a0 : Option Addr) (n0 c0 : Nat) (os : List Op13) (h1 : one ≤ 65535) (h2 : two ≤ 65535) (h3 : room ≤ 255) (ho : RK enO13 3 w a0 n0 c0 os) (hu : ∀ o ∈ os, OkO o) (m0 : n0 ≤ 9223372036854775807) :
    Calls Try.prog 5 #[.int .u16 (one : Int), .int .u16 (two : Int), .int .u8 (room : Int), .slice a0 n0 c0] w fun e w' => e = .returned (.bool true) ∧ Below w.heap.size w w' := by
  obtain ⟨p, hp, hp1⟩ : ∃ p : Nat, (one : Int) % 1024 = (p : Int) ∧ p < 1024 := ⟨one % 1024, by omega, by omega⟩
  obtain ⟨q, hq, hq1⟩ : ∃ q : Nat, (two : Int) % 1024 = (q : Int) ∧ q < 1024 := ⟨two % 1024, by omega, by omega⟩
  have hN : ∀ (w : World) (p : Nat), p < 1024 → Calls Try.prog 9 #[.int .i64 (1 + (p : Int)), .int .i64 (room : Int)] w (NewWh w (1 + p) (room : Int)) := fun w p hp => by
    have := whNew_any w (1 + p) (room : Int) (by omega) (by omega) (by omega) (by omega)
    rwa [show ((1 + p : Nat) : Int) = 1 + (p : Int) by omega] at this
  have k1 := hN w p hp1
  obtain ⟨L, hmin, hL1, hL2⟩ : ∃ L : Nat, (∀ ts t w', (Builtin.min_ ts t #[.int .i64 (n0 : Int), .int .i64 60]).run Try.prog w' = .ok (.int .i64 (L : Int)) w') ∧ L ≤ n0 ∧ L ≤ 60 := by
    refine ⟨min n0 60, fun ts t w' => ?_, by omega, by omega⟩
    rw [run_min_int2]; congr 2; split <;> omega
  have HO := hid ho
  have HU := hid hu
  clear ho hu
  go_enter Try.func5, Try.ntmps5
  go_wp2_with (first
    | (go_at_call 9; (with_reducible refine k1.mono ?_); rintro e w1 ⟨x, rfl, _, r1, g1⟩; have k2 := hN w1 q hq1)
    | (go_at_call 9; (with_reducible refine k2.mono ?_); rintro e w2 ⟨y, rfl, _, r2, g2⟩)
    | (with_reducible refine wpList_cutToK0 elO13 rfl _ _ rfl _ _ L rfl rfl rfl HO.out hL1 ?_; intro a5 hr5))
  have hT0 : SlR w x y room 0 w2 := ⟨_, two_start r1 r2 g2 g1.size, by show (0 : Int) ≤ _; omega, rfl, bstep g1 g2⟩
  clear k1 k2 r1 r2 g1 g2 hN hmin hp hq m0
  go_loopg [47] L (fun gn vi wr => ∃ i : Nat, i ≤ L ∧ gn = L - i ∧ vi = .int .i64 (i : Int) ∧ SlR w x y room i wr)
  case atStart => exact ⟨0, by omega, by omega, rfl, hT0⟩
  case round =>
    obtain ⟨i, hi, rfl, rfl, hT⟩ := hrel
    clear hT0
    by_cases hlt : i < L
    · obtain ⟨o, hox⟩ : ∃ o, (os.take L)[i]? = some o := ⟨_, List.getElem?_eq_getElem (by rw [hr5.len]; exact hlt)⟩
      have hom : o ∈ os := List.mem_of_mem_take (List.mem_of_getElem? hox)
      obtain ⟨m, hTw, hnow, hmost, hbel⟩ := hT
      obtain ⟨gb, off, rfl, hgb, hrg⟩ := (hr5.below hbel).range hox
      obtain ⟨r, hr, hr4⟩ : ∃ r : Int, (o.k : Int) % 4 = r ∧ (r = 0 ∨ r = 1 ∨ r = 2 ∨ r = 3) := ⟨_, rfl, by omega⟩
      have b0 := heap_alloc_new wr (.cells #[.int .u8 0, .int .i64 0, .int .i64 0] 32)
      obtain ⟨_, wid, waf⟩ := HU.out o hom
      clear hox hom
      go_upto_block 2 with (first
        | (with_reducible refine wpList_loadM rowO13 rfl _ rfl _ _ rfl (opV13 o) hrg rfl ?_)
        | (with_reducible refine wpList_storeR rowO13 rfl _ _ rfl _ _ rfl rfl b0 rfl rfl (op13_ones _) ?_
           have bW := setRow_heap _ _ _ (opV13 o) _ _ b0
           have kW : Below wr.heap.size wr ((wr.alloc (.cells #[.int .u8 0, .int .i64 0, .int .i64 0] 32)).setRow wr.heap.size (opV13 o)) := below_setRow (bnew0 wr _) (Nat.le_refl _) _
           have x0 := (bx3o bW).1))
      have hTW : TwO w.heap.size ((wr.alloc (.cells #[.int .u8 0, .int .i64 0, .int .i64 0] 32)).setRow wr.heap.size (opV13 o)) x y m m := hTw.below kW
      have hnx := (hTw.new (Nat.le_refl _)).1
      have hny := (hTw.new (Nat.le_refl _)).2
      have hbel := bstep hbel kW
      have hrow := hr5
      clear hTw hrg hgb b0 kW x0
      generalize (wr.alloc (.cells #[.int .u8 0, .int .i64 0, .int .i64 0] 32)).setRow wr.heap.size (opV13 o) = W at *
      generalize wr.heap.size = b at *
      rw [hr]
      clear hr
      have hn : m.now ≤ 1000000000 := by omega
      go_cut [14] (fun v14 wx => v14 = .pointer (some ⟨b, 0, none⟩) ∧ SlR w x y room (i + 1) wx)
      case first =>
        have hD := hTW.below ((Below.refl _ W).drew)
        have hbd := hbel.drew
        rcases hr4 with rfl | rfl | hr4
        · clear hTW hbel
          go_wp2
          have HS : W.drew.heap[b]? = some (.cells (opV13 o) 32 (0, 0)) := bW
          refine Rest.begin (S := fun w' => w'.heap[b]? = some (.cells (opV13 o) 32 (0, 0))) (X := [5, 11]) (by kernel_rfl) ?_
          change Rest _ _ _ _ _ _ _ _ _ W.drew
          refine Rest.take (i := 0) (v := .pointer (some ⟨x.g, 0, none⟩)) rfl (by kernel_rfl) (by kernel_rfl) (by kernel_rfl) (by kernel_rfl) (fun _ _ _ h => h) (.inl HS) (Or.inl ⟨by simp [Region.wanted], ?_⟩) ?_
          · intro w; go_simp
          refine Rest.take (i := 1) (v := .pointer (some ⟨b, 1, none⟩)) rfl (by kernel_rfl) (by kernel_rfl) (by kernel_rfl) (by kernel_rfl) (fun _ _ _ h => h) (.inl HS) (Or.inl ⟨by simp [Region.wanted], ?_⟩) ?_
          · intro w; go_simp
          refine Rest.takeS (i := 2) (v := .int .i64 o.id) rfl (by kernel_rfl) (by kernel_rfl) (by kernel_rfl) (by kernel_rfl) (fun _ _ _ h => h) HS (.inl ⟨by simp [Region.wanted], ?_⟩) ?_
          · intro w hw; have hx := (bx3o (show w.heap[b]? = _ from hw)).2.1; go_simp
          refine Rest.take (i := 3) (v := .pointer (some ⟨b, 2, none⟩)) rfl (by kernel_rfl) (by kernel_rfl) (by kernel_rfl) (by kernel_rfl) (fun _ _ _ h => h) (.inl HS) (Or.inl ⟨by simp [Region.wanted], ?_⟩) ?_
          · intro w; go_simp
          refine Rest.takeS (i := 4) (v := .int .i64 o.af) rfl (by kernel_rfl) (by kernel_rfl) (by kernel_rfl) (by kernel_rfl) (fun _ _ _ h => h) HS (.inl ⟨by simp [Region.wanted], ?_⟩) ?_
          · intro w hw; have hx := (bx3o (show w.heap[b]? = _ from hw)).2.2; go_simp
          refine Rest.take (i := 6) (v := .pointer (some ⟨y.g, 0, none⟩)) rfl (by kernel_rfl) (by kernel_rfl) (by kernel_rfl) (by kernel_rfl) (fun _ _ _ h => h) (.inl HS) (Or.inl ⟨by simp [Region.wanted], ?_⟩) ?_
          · intro w; go_simp
          refine Rest.take (i := 7) (v := .pointer (some ⟨b, 1, none⟩)) rfl (by kernel_rfl) (by kernel_rfl) (by kernel_rfl) (by kernel_rfl) (fun _ _ _ h => h) (.inl HS) (Or.inl ⟨by simp [Region.wanted], ?_⟩) ?_
          · intro w; go_simp
          refine Rest.takeS (i := 8) (v := .int .i64 o.id) rfl (by kernel_rfl) (by kernel_rfl) (by kernel_rfl) (by kernel_rfl) (fun _ _ _ h => h) HS (.inl ⟨by simp [Region.wanted], ?_⟩) ?_
          · intro w hw; have hx := (bx3o (show w.heap[b]? = _ from hw)).2.1; go_simp
          refine Rest.take (i := 9) (v := .pointer (some ⟨b, 2, none⟩)) rfl (by kernel_rfl) (by kernel_rfl) (by kernel_rfl) (by kernel_rfl) (fun _ _ _ h => h) (.inl HS) (Or.inl ⟨by simp [Region.wanted], ?_⟩) ?_
          · intro w; go_simp
          refine Rest.takeS (i := 10) (v := .int .i64 o.af) rfl (by kernel_rfl) (by kernel_rfl) (by kernel_rfl) (by kernel_rfl) (fun _ _ _ h => h) HS (.inl ⟨by simp [Region.wanted], ?_⟩) ?_
          · intro w hw; have hx := (bx3o (show w.heap[b]? = _ from hw)).2.2; go_simp
          refine Rest.one (i := 5) (by kernel_rfl) rfl (fun K hK => ?_)
          refine draw_callF 12 (by kernel_rfl) (by simp [Region.wanted]) _ _ _ rfl (by simp [Act.eval]) #[.pointer (some ⟨x.g, 0, none⟩), .int .i64 o.id, .int .i64 o.af] (by simp [Act.eval, Act.put]) _ (whSet_any hD.l wid hn) ?_
          rintro e w3 ⟨rfl, h3, k3⟩
          refine ⟨_, rfl, ?_⟩
          have hb3 := k3.bx (w := W.drew) bW hnx
          have hT3 := hD.left h3 k3
          refine hK _ _ ⟨.inl hb3, ?_⟩; clear hK K
          refine Rest.one (i := 11) (by kernel_rfl) rfl (fun K hK => ?_)
          refine draw_callF 12 (by kernel_rfl) (by simp [Region.wanted]) _ _ _ rfl (by simp [Act.eval]) #[.pointer (some ⟨y.g, 0, none⟩), .int .i64 o.id, .int .i64 o.af] (by simp [Act.eval, Act.put]) _ (whSet_any hT3.r wid hn) ?_
          rintro e w4 ⟨rfl, h4, k4⟩
          refine ⟨_, rfl, ?_⟩
          have hT4 := hT3.right h4 k4
          refine hK _ _ ⟨.inr (thru_of (by kernel_rfl)), Rest.of_any _ _ _ _ (thru_of (by kernel_rfl)) ?_⟩; clear hK K
          refine wpAny_take (i := 12) (v := .bool false) rfl (by kernel_rfl) (by kernel_rfl) (by kernel_rfl) (fun _ _ _ h => h) (Or.inl ⟨by simp [Region.wanted], ?_⟩) ?_
          · intro w; go_simp
          refine wpAny_done (by kernel_rfl) ?_ _
          have g3 := hD.outL k3 (Nat.le_refl _) hbd
          have g4 := hT3.outR k4 (Nat.le_refl _) g3
          clear HS hD hT3 h3 h4 hbd k3 k4 hb3 g3 bW
          simp [Act.put]
          go_wp2
          go_meet
          exact ⟨rfl, _, hT4, by rw [(set_now m o.id o.af).1]; omega, by rw [(set_now m o.id o.af).2]; exact hmost, g4⟩
        · clear hTW hbel
          go_wp2
          have HS : W.drew.heap[b]? = some (.cells (opV13 o) 32 (0, 0)) := bW
          refine Rest.begin (S := fun w' => w'.heap[b]? = some (.cells (opV13 o) 32 (0, 0))) (X := [3, 7]) (by kernel_rfl) ?_
          change Rest _ _ _ _ _ _ _ _ _ W.drew
          refine Rest.take (i := 0) (v := .pointer (some ⟨x.g, 0, none⟩)) rfl (by kernel_rfl) (by kernel_rfl) (by kernel_rfl) (by kernel_rfl) (fun _ _ _ h => h) (.inl HS) (Or.inl ⟨by simp [Region.wanted], ?_⟩) ?_
          · intro w; go_simp
          refine Rest.take (i := 1) (v := .pointer (some ⟨b, 1, none⟩)) rfl (by kernel_rfl) (by kernel_rfl) (by kernel_rfl) (by kernel_rfl) (fun _ _ _ h => h) (.inl HS) (Or.inl ⟨by simp [Region.wanted], ?_⟩) ?_
          · intro w; go_simp
          refine Rest.takeS (i := 2) (v := .int .i64 o.id) rfl (by kernel_rfl) (by kernel_rfl) (by kernel_rfl) (by kernel_rfl) (fun _ _ _ h => h) HS (.inl ⟨by simp [Region.wanted], ?_⟩) ?_
          · intro w hw; have hx := (bx3o (show w.heap[b]? = _ from hw)).2.1; go_simp
          refine Rest.take (i := 4) (v := .pointer (some ⟨y.g, 0, none⟩)) rfl (by kernel_rfl) (by kernel_rfl) (by kernel_rfl) (by kernel_rfl) (fun _ _ _ h => h) (.inl HS) (Or.inl ⟨by simp [Region.wanted], ?_⟩) ?_
          · intro w; go_simp
          refine Rest.take (i := 5) (v := .pointer (some ⟨b, 1, none⟩)) rfl (by kernel_rfl) (by kernel_rfl) (by kernel_rfl) (by kernel_rfl) (fun _ _ _ h => h) (.inl HS) (Or.inl ⟨by simp [Region.wanted], ?_⟩) ?_
          · intro w; go_simp
          refine Rest.takeS (i := 6) (v := .int .i64 o.id) rfl (by kernel_rfl) (by kernel_rfl) (by kernel_rfl) (by kernel_rfl) (fun _ _ _ h => h) HS (.inl ⟨by simp [Region.wanted], ?_⟩) ?_
          · intro w hw; have hx := (bx3o (show w.heap[b]? = _ from hw)).2.1; go_simp
          refine Rest.one (i := 3) (by kernel_rfl) rfl (fun K hK => ?_)
          refine draw_callF 14 (by kernel_rfl) (by simp [Region.wanted]) _ _ _ rfl (by simp [Act.eval]) #[.pointer (some ⟨x.g, 0, none⟩), .int .i64 o.id] (by simp [Act.eval, Act.put]) _ (whCancel_any hD.l wid hn) ?_
          rintro e w3 ⟨rfl, h3, k3⟩
          refine ⟨_, rfl, ?_⟩
          have hb3 := k3.bx (w := W.drew) bW hnx
          have hT3 := hD.left h3 k3
          refine hK _ _ ⟨.inl hb3, ?_⟩; clear hK K
          refine Rest.one (i := 7) (by kernel_rfl) rfl (fun K hK => ?_)
          refine draw_callF 14 (by kernel_rfl) (by simp [Region.wanted]) _ _ _ rfl (by simp [Act.eval]) #[.pointer (some ⟨y.g, 0, none⟩), .int .i64 o.id] (by simp [Act.eval, Act.put]) _ (whCancel_any hT3.r wid hn) ?_
          rintro e w4 ⟨rfl, h4, k4⟩
          refine ⟨_, rfl, ?_⟩
          have hT4 := hT3.right h4 k4
          refine hK _ _ ⟨.inr (thru_of (by kernel_rfl)), Rest.of_any _ _ _ _ (thru_of (by kernel_rfl)) ?_⟩; clear hK K
          refine wpAny_take (i := 8) (v := .bool false) rfl (by kernel_rfl) (by kernel_rfl) (by kernel_rfl) (fun _ _ _ h => h) (Or.inl ⟨by simp [Region.wanted], ?_⟩) ?_
          · intro w; go_simp
          refine wpAny_done (by kernel_rfl) ?_ _
          have g3 := hD.outL k3 (Nat.le_refl _) hbd
          have g4 := hT3.outR k4 (Nat.le_refl _) g3
          clear HS hD hT3 h3 h4 hbd k3 k4 hb3 g3 bW
          simp [Act.put]
          go_wp2
          go_meet
          exact ⟨rfl, _, hT4, by show m.now ≤ _; omega, hmost, g4⟩
        · clear hD hbd
          have d0 : (r == 0) = false := by rw [beq_eq_false_iff_ne]; omega
          have d1 : (r == 1) = false := by rw [beq_eq_false_iff_ne]; omega
          clear hr4
          have x2 := (bx3o bW).2.2
          have hA := and_15 o.af
          obtain ⟨K, hK, hK1⟩ : ∃ K : Nat, o.af % 16 = (K : Int) ∧ K < 16 := ⟨(o.af % 16).toNat, by omega, by omega⟩
          rw [hK] at hA
          go_wp2
          go_loopg [58] (K + 1) (fun gn vi wr => ∃ j : Nat, j ≤ K + 1 ∧ gn = K + 1 - j ∧ vi = .int .i64 (j : Int) ∧ ∃ m', TwO w.heap.size wr x y m' m' ∧ m'.now ≤ 16 * (i : Int) + (j : Int) ∧ m'.most = (room : Int) ∧ Below w.heap.size w wr)
          case atStart => exact ⟨0, by omega, by omega, rfl, m, hTW, by omega, hmost, hbel⟩
          case round =>
            obtain ⟨j, hj, rfl, rfl, m', hTj, hnj, hmj, hbj⟩ := hrel
            clear hTW hbel hmost hnow bW
            by_cases hjl : j < K + 1
            · have hn : m'.now ≤ 1000000000 := by omega
              have kT := whTick_any hTj.l hn
              go_wp2_with (first
                | (go_at_call 17; (with_reducible refine kT.mono ?_); rintro e w3 ⟨a3, c3, t3, rfl, o3, td3, l3, h3, k3⟩
                   have hL3 := hTj.l.sL
                   have hT3 := hTj.left h3 k3
                   have g3 := hTj.outL k3 (Nat.le_refl _) hbj
                   have kU := whTick_any hT3.r hn)
                | (go_at_call 17; (with_reducible refine kU.mono ?_); rintro e w4 ⟨a4, c4, t4, rfl, o4, td4, l4, h4, k4⟩
                   have hT4 := hT3.right h4 k4
                   have g4 := hT3.outR k4 (Nat.le_refl _) g3
                   have p3 := o3.ch k4 (fun p hp e => by have := (o3.ltB hp).2; have := hTj.r.sL _ e; omega)
                   obtain rfl : t3 = t4 := rising_eq td3.up td4.up (fun i => (td3.has i).trans (td4.has i).symm)
                   have kI := aw_ints p3 o4.rl (by omega) (by omega) (Below.refl _ _) rfl)
                | (go_at_call 16; (with_reducible refine kI.mono ?_); rintro e w5 ⟨rfl, g5⟩))
              go_roundg (K + 1 - (j + 1))
              case measure => omega
              case rel => exact ⟨j + 1, by omega, rfl, by go_num, _, hT4.below g5, by show m'.now + 1 ≤ _; push_cast; omega, hmj, bstep g4 g5⟩
            · obtain rfl : j = K + 1 := by omega
              go_wp2
              go_meet
              exact ⟨rfl, m', hTj, by push_cast; omega, hmj, hbj⟩
      case rest =>
        obtain ⟨rfl, m', hT', hn', hm', hb'⟩ := hcut
        have lx := whLen_any hT'.l
        have ly := whLen_any hT'.r
        have nx := whNow_any hT'.l
        have ny := whNow_any hT'.r
        have hle : (m'.L.length : Int) ≤ (room : Int) := by have := hT'.l.inv.len; omega
        obtain ⟨N, hN⟩ : ∃ N, N = m'.L.length := ⟨_, rfl⟩
        rw [← hN] at lx ly hle
        obtain ⟨T, hTn⟩ : ∃ T, T = m'.now := ⟨_, rfl⟩
        rw [← hTn] at nx ny
        have HT := hid hTn
        have HNW := hid hn'
        clear hN hTn hn'
        go_wp2_with (first
          | (go_at_call 21; (with_reducible refine lx.mono ?_); rintro e w3 ⟨rfl, rfl⟩)
          | (go_at_call 21; (with_reducible refine ly.mono ?_); rintro e w3 ⟨rfl, rfl⟩)
          | (go_at_call 20; (with_reducible refine nx.mono ?_); rintro e w3 ⟨rfl, rfl⟩)
          | (go_at_call 20; (with_reducible refine ny.mono ?_); rintro e w3 ⟨rfl, rfl⟩))
        go_roundg (L - (i + 1))
        case measure => omega
        case rel => exact ⟨i + 1, by omega, rfl, by go_num, m', hT', HNW.out, hm', hb'⟩
    · obtain rfl : i = L := by omega
      obtain ⟨m, _, _, _, hb⟩ := hT
      go_wp2_with (go_at_call 10; (with_reducible refine (awake13_any _).mono ?_); rintro e w5 ⟨rfl, g5⟩)
      go_ret
      exact ⟨rfl, bstep hb g5⟩
end Go.Proofs.Ytpnmnffefdjegaa
