/-
  The walk of the statement FifoOrder: for any room and any row of comings and takings it returns true, and nothing that was there has changed.
-/
import Derived.Test.YtkojljmhgeehoaaB12f
import Derived.Test.YtkojljmhgeehoaaQl
import Derived.Test.YtkojljmhgeehoaaTyB
import Derived.Test.YtkojljmhgeehoaaCt0
import Derived.Deep.DeepCutAuto
namespace Go.Proofs.Ytkojljmhgeehoaa
open Go.RowKit Go.Sort
set_option linter.unusedVariables false

theorem tIo : ElT Try.prog 50 3 (.int .i64 0) 8 := ⟨by kernel_rfl, by kernel_rfl, by kernel_rfl, by kernel_rfl, by kernel_rfl⟩

/-- The fifo and the list beside it are alike; they lie apart. -/
structure OrI (fs : List Rx) (ins : List Int) : Prop where
  eq : fs.map (·.2) = ins
  id : ∀ x ∈ fs, x.2 = (x.1.1.id : Int) ∧ x.2 ≤ 1000
def OrR (w : World) (g N n : Nat) (lo : Bool) (ai : Option Addr) (ci : Nat) (wr : World) : Prop :=
  ∃ s a c st S fs ins, FfO w.heap.size wr g s ⟨N, fs, lo⟩ a c st S ∧ fs.length = n ∧ OrI fs ins ∧ QL (Value.int .i64) 3 w.heap.size wr ai n ci ins ∧ (0 < ci → ∀ q, ai = some q → ¬ S q.block) ∧ Below w.heap.size w wr

section
variable {w w1 : World} {g N n : Nat} {lo : Bool} {ai : Option Addr} {ci : Nat}
theorem OrR.bel (h : OrR w g N n lo ai ci w1) : Below w.heap.size w w1 := by obtain ⟨s, a, c, st, S, fs, ins, h, hl, hI, hq, hd, hb⟩ := h; exact hb
theorem OrR.le (h : OrR w g N n lo ai ci w1) : n ≤ N := by obtain ⟨s, a, c, st, S, fs, ins, h, hl, hI, hq, hd, hb⟩ := h; rw [← hl]; exact h.le
theorem ordLen_any (h : OrR w g N n lo ai ci w1) : Calls Try.prog 15 #[.pointer (some ⟨g, 0, none⟩)] w1 fun e w' => e = .returned (.int .i64 (n : Int)) ∧ w1 = w' := by
  obtain ⟨s, a, c, st, S, fs, ins, h, rfl, hI, hq, hd, hb⟩ := h; exact ffLen_any h
theorem ordOver_any (h : OrR w g N n lo ai ci w1) : Calls Try.prog 16 #[.pointer (some ⟨g, 0, none⟩)] w1 fun e w' => e = .returned (.bool lo) ∧ w1 = w' := by
  obtain ⟨s, a, c, st, S, fs, ins, h, rfl, hI, hq, hd, hb⟩ := h; exact ffOver_any h
theorem ordClear_any (h : OrR w g N n lo ai ci w1) : Calls Try.prog 14 #[.pointer (some ⟨g, 0, none⟩)] w1 fun e w' => e = .returned (.bool lo) ∧ OrR w g N n false ai ci w' := by
  obtain ⟨s, a, c, st, S, fs, ins, h, rfl, hI, hq, hd, hb⟩ := h
  exact (ffClear_any h).mono fun e w' ⟨he, h', k⟩ => ⟨he, s, a, c, st, S, fs, ins, h', rfl, hI, hq.ch k hd, hd, k.below hb (Nat.le_refl _) h.sB⟩
end

set_option maxRecDepth 100000 in
set_option maxHeartbeats 16000000 in
theorem fifoOrder_walk (w : World) (room : Nat) (a1 : Option Addr) (n1 c1 : Nat) (xs : List Bool) (hr : room ≤ 255) (hx : RL .bool w a1 n1 c1 xs) (m1 : n1 ≤ 9223372036854775807) :
    Calls Try.prog 4 #[.int .u8 (room : Int), .slice a1 n1 c1] w fun e w' => e = .returned (.bool true) ∧ Below w.heap.size w w' := by
  obtain ⟨L, hmin, hL1, hL2⟩ : ∃ L : Nat, (∀ ts t w', (Builtin.min_ ts t #[.int .i64 (n1 : Int), .int .i64 1000]).run Try.prog w' = .ok (.int .i64 (L : Int)) w') ∧ L ≤ n1 ∧ L ≤ 1000 := by
    refine ⟨min n1 1000, fun ts t w' => ?_, by omega, by omega⟩
    rw [run_min_int2]; congr 2; split <;> omega
  obtain ⟨N, hN, hN1, hN2⟩ : ∃ N : Nat, (1 : Int) + (room : Int) = (N : Int) ∧ 1 ≤ N ∧ N ≤ 256 := ⟨1 + room, by omega, by omega, by omega⟩
  have hNew := ffNew_any w N hN1 hN2
  have HX := hid hx; clear hx
  go_enter Try.func4, Try.ntmps4
  go_wp2_with (first
    | (go_at_call 7; (with_reducible refine hNew.mono ?_); rintro e w1 ⟨g, s, rfl, h1, g1⟩)
    | (with_reducible refine wpList_cutTo0 (f := Value.bool) tB rfl _ _ rfl _ _ L rfl rfl rfl HX.out hL1 ?_; intro a5 hr5))
  have HR5 := hid hr5
  have hR0 : OrR w g N 0 false none 0 w1 := ⟨s, _, _, _, _, _, _, h1, rfl, ⟨rfl, fun x hx => (by cases hx)⟩, QL.nil _ _ _ _, fun h => absurd h (by omega), g1⟩
  clear hNew h1 hN hmin hr5
  go_loopg [8, 9, 31] L (fun gn v8 v9 vi wr => ∃ (i n : Nat) (lo : Bool) (ai : Option Addr) (ci : Nat), i ≤ L ∧ gn = L - i ∧ v8 = .slice ai n ci ∧ v9 = .bool lo ∧ vi = .int .i64 (i : Int) ∧ OrR w g N n lo ai ci wr)
  case atStart => exact ⟨0, 0, false, none, 0, by omega, by omega, rfl, rfl, rfl, hR0⟩
  case round =>
    obtain ⟨i, n, lo, ai, ci, hi, rfl, rfl, rfl, rfl, hR⟩ := hrel
    clear hR0
    by_cases hlt : i < L
    · obtain ⟨bk, off, rfl, hbk, hcc⟩ := HR5.out.cell (by omega)
      obtain ⟨x, hx⟩ : ∃ x, (xs.take L)[i]? = some x := ⟨_, List.getElem?_eq_getElem (by rw [HR5.out.len]; exact hlt)⟩
      have hcx := (hR.bel.cell (p := ⟨bk, off + i, none⟩) hbk).trans (hcc i x hx)
      clear hcc hx
      have hle := hR.le
      have hiL : (i : Int) + 1 ≤ 1000 := by omega
      go_upto_if 36 with fail
      go_cut [8, 9] (fun v8 v9 wx => ∃ (n2 : Nat) (lo2 : Bool) (a2 : Option Addr) (c2 : Nat), v8 = .slice a2 n2 c2 ∧ v9 = .bool lo2 ∧ OrR w g N n2 lo2 a2 c2 wx)
      case first =>
        obtain ⟨s2, a, c, st, S, fs, ins, h, hl, hI, hq, hd, hb⟩ := hR
        have HI := hid hI; have HL := hid hl; have HD := hid hd
        clear hI hl hd
        cases x
        · by_cases h0 : n = 0
          · have hd0 : decide (0 < n) = false := by rw [decide_eq_false_iff_not]; omega
            have hfs : fs = [] := List.eq_nil_of_length_eq_zero (by rw [HL.out, h0])
            have hpo := ffPop_no h hfs
            have H0 := hid h0
            clear h0 hfs
            go_wp2_with (first
              | (go_at_call 12; (with_reducible refine hpo.mono ?_); rintro e w4 ⟨rfl, g4⟩
                 have h4 := h.below g4
                 have b4 := heap_alloc_new w4 (.cells rxZ 36)
                 have k5 : Below w4.heap.size w4 ((w4.alloc (.cells rxZ 36)).setRow w4.heap.size rxZ) := below_setRow (bnew0 w4 _) (Nat.le_refl _) rxZ
                 have h5 := h4.below k5
                 have hq5 := (hq.below g4).below k5
                 have gg5 := bstep (bstep hb g4) k5)
              | (with_reducible refine wpList_storeR rowX rfl _ _ rfl _ _ rfl rfl b4 rfl rfl rxZ_ones ?_))
            clear h4 b4 k5 hpo h hq hb hcx
            generalize (w4.alloc (.cells rxZ 36)).setRow w4.heap.size rxZ = w5 at *
            go_quiet (fail)
            have h6 := h5.drewN nq
            have q6 := hq5.below (below_drewN (Below.refl w5.heap.size w5) nq)
            have gg6 := below_drewN gg5 nq
            clear h5 hq5 gg5
            generalize w5.drewN nq = w6 at *
            go_wp2
            go_meet
            exact ⟨n, lo, ai, ci, rfl, rfl, s2, a, c, st, S, fs, ins, h6, HL.out, HI.out, q6, HD.out, gg6⟩
          · obtain ⟨x, hx0⟩ : ∃ x, fs[0]? = some x := ⟨_, List.getElem?_eq_getElem (by rw [HL.out]; omega)⟩
            have hd0 : decide (0 < n) = true := by rw [decide_eq_true_iff]; omega
            have hpo := ffPop_any h x hx0
            have hxm : x ∈ fs := List.mem_of_getElem? hx0
            obtain ⟨hx1, hx2⟩ := HI.out.id x hxm
            have hn1 : 1 ≤ n := by omega
            have hin0 : ins[0]? = some x.2 := by rw [← HI.out.eq, List.getElem?_map, hx0]; rfl
            obtain ⟨bi, oi, cur, rfl, hBi, hhi, hsi, hci⟩ := hq.ad (by have := hq.cap; omega)
            obtain ⟨a2, hsl, hq2, hd2⟩ := hq.cut hn1
            have hbi : ¬ (bi = g ∨ bi = s2) := fun e => by
              have := HD.out (by have := hq.cap; omega) _ rfl
              rcases e with e | e
              · exact this (by rw [e]; exact h.sg)
              · exact this (by rw [e]; exact h.ss)
            have hci0 := hci 0 _ hin0
            rw [Nat.add_zero] at hci0
            have hk0 : x.2 % 4294967296 = (x.1.1.id : Int) := by omega
            have HK := hid hk0
            have H0 := hid hx0
            clear h0 hci hin0 hxm hx1 hx2 hx0
            go_wp2_with (first
              | (go_at_call 12; (with_reducible refine hpo.mono ?_); rintro e w4 ⟨a', rfl, h4, hX, k4⟩
                 have b4 := heap_alloc_new w4 (.cells rxZ 36)
                 have k5 : Below w4.heap.size w4 ((w4.alloc (.cells rxZ 36)).setRow w4.heap.size (rxV x)) := below_setRow (bnew0 w4 _) (Nat.le_refl _) (rxV x)
                 have h5 := h4.below k5
                 have gg5 := bstep (k4.below hb (Nat.le_refl _) (fun k hk => by rcases hk with e | e; rw [e]; exact h.hB; rw [e]; exact h.sB _ h.ss)) k5
                 have hhi5 := bx_below (k4.bx hhi hbi) k5
                 have hq5 := (hq2.ch k4 (fun e0 q hq' e => by obtain ⟨q0, e1, e2⟩ := hd2 e0 q hq'; cases e1; exact hbi (by rw [← e2] at e; exact e))).below k5
                 have b5 := setRow_heap _ _ _ (rxV x) _ _ b4
                 have ci5 := (cell_of_row _ bi oi _ _ _ hhi5).trans hci0
                 obtain ⟨x0, x1, x2, x3, x4, x5⟩ := bx6 b5)
              | (with_reducible refine wpList_storeR rowX rfl _ _ rfl _ _ rfl rfl b4 rfl rfl (rx_ones x) ?_))
            clear hpo h hb hhi h4 k4 hX b4 k5 b5 hhi5 x1 x2 x3 x4 hci0 hcx hq hq2
            generalize (w4.alloc (.cells rxZ 36)).setRow w4.heap.size (rxV x) = w5 at *
            generalize w4.heap.size = r at *
            clear w4
            go_quiet (fail)
            have h6 := h5.drewN nq
            have q6 := hq5.below (below_drewN (Below.refl w5.heap.size w5) nq)
            have gg6 := below_drewN gg5 nq
            clear h5 hq5 gg5 x0 x5 ci5
            generalize w5.drewN nq = w6 at *
            go_wp2_with (with_reducible refine wpList_cutFromE tIo rfl _ _ rfl .i64 1 1 rfl rfl rfl hn1 hsl ?_)
            go_meet
            refine ⟨n - 1, lo, a2, ci - 1, rfl, rfl, s2, a', c - 1, _, _, fs.drop 1, ins.drop 1, h6, ?_, ⟨?_, fun y hy => HI.out.id y (List.mem_of_mem_drop hy)⟩, q6, fun e0 q hq' e => ?_, gg6⟩
            · rw [List.length_drop, HL.out]
            · rw [← HI.out.eq, List.map_drop]
            · obtain ⟨q0, e1, e2⟩ := hd2 e0 q hq'
              exact HD.out (by omega) q0 e1 (by rw [e2]; exact e.1)
        · have hrx : Calls Try.prog 17 #[.int .i64 ((i : Int) + 1)] wr fun e w' => e = .returned (.agg (rxV (rxN (i + 1) ((i : Int) + 1)))) ∧ Below wr.heap.size wr w' := rx_any wr _ _ (by omega)
          by_cases hful : n = N
          · have hd1 : decide (n < N) = false := by rw [decide_eq_false_iff_not]; omega
            have HF := hid hful
            clear hful
            go_wp2_with (first
              | (go_at_call 17; (with_reducible refine hrx.mono ?_); rintro e w4 ⟨rfl, g4⟩; have h4 := h.below g4)
              | (go_at_call 10; (with_reducible refine (ffPush_full h4 _ (by show fs.length = N; rw [HL.out]; exact HF.out)).mono ?_); rintro e w5 ⟨rfl, h5, k5⟩))
            go_meet
            exact ⟨n, true, ai, ci, rfl, rfl, s2, a, c, st, S, fs, ins, h5, HL.out, HI.out, (hq.below g4).ch k5 HD.out, HD.out, k5.below (bstep hb g4) (Nat.le_refl _) h.sB⟩
          · have hd1 : decide (n < N) = true := by rw [decide_eq_true_iff]; omega
            have hlN : fs.length < N := by rw [HL.out]; omega
            have hn9 : n + 1 ≤ 1000000 := by omega
            clear hful
            have eI : (i : Int) + 1 = ((i + 1 : Nat) : Int) := by omega
            have HE := hid eI; clear eI
            go_wp2_with (first
              | (go_at_call 17; (with_reducible refine hrx.mono ?_); rintro e w4 ⟨rfl, g4⟩; have h4 := h.below g4)
              | (go_at_call 10; (with_reducible refine (ffPush_any h4 ⟨i + 1, false, false, 0, []⟩ ((i : Int) + 1) none 0 hlN (fun w' _ => RL.nil _ _ _ _) (Nat.zero_le _)).mono ?_); rintro e w5 ⟨a', c', st', S', da, dc, rfl, h5, k5, s5⟩
                 have hq5 := (hq.below g4).ch k5 HD.out
                 have gg5 := k5.below (bstep hb g4) (Nat.le_refl _) h.sB
                 have hd5 : Hid (0 < ci → ∀ q, ai = some q → ¬ S' q.block) := fun h0 q hq' e => by
                   rcases s5 _ e with e | e
                   · exact HD.out h0 q hq' e
                   · have := (hq.lt h0 hq').1; have := g4.size; omega
                 have h6 := h5.alloc (.cells #[.int .i64 ((i : Int) + 1)] 3)
                 have hq6 := hq5.alloc (.cells #[.int .i64 ((i : Int) + 1)] 3)
                 have hr6 := (ol_lit (Value.int .i64) 3 0 w5 [(i : Int) + 1] #[.int .i64 ((i : Int) + 1)] 1 rfl rfl (by omega) (Nat.zero_le _)).rl
                 have gg6 := bnew gg5 (.cells #[.int .i64 ((i : Int) + 1)] 3)
                 have hba := gg6.size)
              | (with_reducible refine wpList_appQ tIo rfl _ _ rfl rfl hq6 rfl hr6 (fun _ => rfl) hn9 (by omega) hba ?_; intro w7 a7 c7 q7 k7 n7))
            have hns : ∀ b, S' b → ¬ (0 < ci ∧ ∃ q, ai = some q ∧ q.block = b) := fun b hb ⟨e0, q, e1, e2⟩ => hd5.out e0 q e1 (by rw [e2]; exact hb)
            have h7 := h6.ch k7 hns
            have gg7 := k7.below gg6 (Nat.le_refl _) (fun k ⟨e0, q, e1, e2⟩ => by have := (hq6.lt e0 e1).2; omega)
            go_meet
            refine ⟨n + 1, lo, a7, c7, rfl, rfl, s2, a', c', st', S', _, _, h7, ?_, ⟨?_, fun x hx => ?_⟩, q7, fun h0 q hq' e => ?_, gg7⟩
            · simp [HL.out]
            · simp [HI.out.eq]
            · rcases List.mem_append.1 hx with hx | hx
              · exact HI.out.id x hx
              · simp at hx
                subst hx
                exact ⟨by show (i : Int) + 1 = ((i + 1 : Nat) : Int); omega, hiL⟩
            · rcases n7 q hq' with ⟨e0, q0, e1, e2⟩ | e
              · exact hd5.out e0 q0 e1 (by rw [e2]; assumption)
              · rename_i eS _
                have := h6.sL _ (by assumption); omega
      case rest =>
      obtain ⟨n2, lo2, a2, c2, rfl, rfl, hR2⟩ := hcut
      have hle2 := hR2.le
      have hgt : decide (N < n2) = false := by rw [decide_eq_false_iff_not]; omega
      have hbb : (lo2 != lo2) = false := by cases lo2 <;> rfl
      clear hR hcx hle
      obtain ⟨r, hr1, hr2⟩ : ∃ r : Int, (i : Int) % 50 = r ∧ Int.tmod (i : Int) 50 = r := ⟨_, rfl, Int.tmod_eq_emod_of_nonneg (by omega)⟩
      by_cases h49 : r = 49
      · have h49b : (r == 49) = true := by rw [h49]; rfl
        clear h49
        have hov : ∀ {w'}, OrR w g N n2 false a2 c2 w' → Calls Try.prog 16 #[.pointer (some ⟨g, 0, none⟩)] w' fun e w'' => e = .returned (.bool false) ∧ w' = w'' := fun h => ordOver_any h
        go_wp2_with (first
          | (go_at_call 15; (with_reducible refine (ordLen_any hR2).mono ?_); rintro e w4 ⟨rfl, rfl⟩)
          | (go_at_call 16; (with_reducible refine (ordOver_any hR2).mono ?_); rintro e w4 ⟨rfl, rfl⟩)
          | (go_at_call 14; (with_reducible refine (ordClear_any hR2).mono ?_); rintro e w5 ⟨rfl, hR5⟩)
          | (go_at_call 16; (with_reducible refine (hov hR5).mono ?_); rintro e w6 ⟨rfl, rfl⟩))
        go_roundg (L - (i + 1))
        case measure => omega
        case rel => exact ⟨i + 1, n2, false, a2, c2, by omega, rfl, rfl, rfl, by go_num, hR5⟩
      · have h49b : (r == 49) = false := by rw [beq_eq_false_iff_ne]; exact h49
        clear h49
        go_wp2_with (first
          | (go_at_call 15; (with_reducible refine (ordLen_any hR2).mono ?_); rintro e w4 ⟨rfl, rfl⟩)
          | (go_at_call 16; (with_reducible refine (ordOver_any hR2).mono ?_); rintro e w4 ⟨rfl, rfl⟩))
        go_roundg (L - (i + 1))
        case measure => omega
        case rel => exact ⟨i + 1, n2, lo2, a2, c2, by omega, rfl, rfl, rfl, by go_num, hR2⟩
    · obtain rfl : i = L := by omega
      go_wp2_with (go_at_call 8; (with_reducible refine (awake12_any _).mono ?_); rintro e w5 ⟨rfl, g5⟩)
      go_ret
      exact ⟨rfl, bstep hR.bel g5⟩
end Go.Proofs.Ytkojljmhgeehoaa
