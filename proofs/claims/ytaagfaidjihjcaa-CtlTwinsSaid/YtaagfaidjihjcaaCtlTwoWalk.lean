/-
  The walk of the statement CtlTwo: for any two frames it returns true, and nothing that was there has changed.
-/
import Derived.Test.YtaagfaidjihjcaaCtlTwoLoop
namespace Go.Proofs.Ytaagfaidjihjcaa
open Go.RowKit Go.Sort
set_option linter.unusedVariables false

/-- No panic. -/
def noP (Q : Exit → Act → World → Prop) : Exit → Act → World → Prop := fun e a w => match e with
  | .panic _ => False
  | e => Q e a w
theorem noP_imp {Q : Exit → Act → World → Prop} {e : Exit} {a : Act} {w : World} (h : noP Q e a w) : Q e a w := by
  cases e <;> first | exact h | exact h.elim

theorem cell_new_t {w : World} {p : Addr} {v : Value} (h : w.cell? p = some v) (o : Obj) : (w.alloc o).cell? p = some v := by
  rw [(bnew0 w o).cell (block_lt_of_cell h)]; exact h

/-- A frame's five cells. -/
abbrev fr5V (id : Nat) (ext rem : Bool) (dlc : Nat) (a : Option Addr) (n c : Nat) : Array Value := #[.int .u32 (id : Int), .bool ext, .bool rem, .int .u8 (dlc : Int), .slice a n c]

set_option maxRecDepth 100000 in
set_option maxHeartbeats 4000000 in
theorem ctlTwo_none (w : World) (id : Nat) (ext rem : Bool) (dlc : Nat) (a : Option Addr) (n c : Nat) (id2 : Nat) (ext2 rem2 : Bool) (dlc2 : Nat) (a2 : Option Addr) (n2 c2 : Nat) (hi : id < 4294967296) (hd : dlc < 256) (hi2 : id2 < 4294967296) (hd2 : dlc2 < 256)
    (hn1 : (riF id2 ext2 rem2 dlc2 n2 && riF id ext rem dlc n && bfL (conL id2 ext2 rem2) (conL id ext rem)) = false) (hn2 : (riF id ext rem dlc n && riF id2 ext2 rem2 dlc2 n2 && bfL (conL id ext rem) (conL id2 ext2 rem2)) = false) :
    Calls Try.prog 4 #[.agg #[.int .u32 (id : Int), .bool ext, .bool rem, .int .u8 (dlc : Int), .slice a n c], .agg #[.int .u32 (id2 : Int), .bool ext2, .bool rem2, .int .u8 (dlc2 : Int), .slice a2 n2 c2]] w fun e w' => e = .returned (.bool true) ∧ Below w.heap.size w w' := by
  obtain ⟨w0, hw0, hbx, hby, gg0⟩ := boxed2 w 25 #[.int .u32 (id : Int), .bool ext, .bool rem, .int .u8 (dlc : Int), .slice a n c] #[.int .u32 (id2 : Int), .bool ext2, .bool rem2, .int .u8 (dlc2 : Int), .slice a2 n2 c2]
  have hB1 := fun w1 => before_any w1 id2 ext2 rem2 dlc2 a2 n2 c2 id ext rem dlc a n c hi2 hd2 hi hd
  have hB2 := fun w1 => before_any w1 id ext rem dlc a n c id2 ext2 rem2 dlc2 a2 n2 c2 hi hd hi2 hd2
  rw [hn1] at hB1
  rw [hn2] at hB2
  clear hn1 hn2
  go_enter Try.func4, Try.ntmps4
  go_upto_region 1 with fail
  rw [hw0.out]
  obtain ⟨x0, x1, x2, x3, x4⟩ := bx5 hbx
  obtain ⟨y0, y1, y2, y3, y4⟩ := bx5 hby
  have a0 := fun o => cell_new_t x0 o
  have a1 := fun o => cell_new_t x1 o
  have a2' := fun o => cell_new_t x2 o
  have a3 := fun o => cell_new_t x3 o
  have a4 := fun o => cell_new_t x4 o
  have b0 := fun o => cell_new_t y0 o
  have b1 := fun o => cell_new_t y1 o
  have b2 := fun o => cell_new_t y2 o
  have b3 := fun o => cell_new_t y3 o
  have b4 := fun o => cell_new_t y4 o
  have d0 := fun o1 o2 => cell_new_t (a0 o1) o2
  have d1 := fun o1 o2 => cell_new_t (a1 o1) o2
  have d2 := fun o1 o2 => cell_new_t (a2' o1) o2
  have d3 := fun o1 o2 => cell_new_t (a3 o1) o2
  have d4 := fun o1 o2 => cell_new_t (a4 o1) o2
  have e0 := fun o1 o2 => cell_new_t (b0 o1) o2
  have e1 := fun o1 o2 => cell_new_t (b1 o1) o2
  have e2 := fun o1 o2 => cell_new_t (b2 o1) o2
  have e3 := fun o1 o2 => cell_new_t (b3 o1) o2
  have e4 := fun o1 o2 => cell_new_t (b4 o1) o2
  have lb := bx_lt hby
  go_cut [5, 6] (fun s5 s6 wx => ∃ q1 q2 : Nat, s5 = .pointer (some ⟨q1, 0, none⟩) ∧ s6 = .pointer (some ⟨q2, 0, none⟩) ∧ (w0.heap.size ≤ q1 ∧ w0.heap.size ≤ q2 ∧ q1 ≠ q2) ∧ wx.heap[w.heap.size]? = some (.cells #[.int .u32 (id : Int), .bool ext, .bool rem, .int .u8 (dlc : Int), .slice a n c] 25 (0, 0)) ∧ wx.heap[w.heap.size + 1]? = some (.cells #[.int .u32 (id2 : Int), .bool ext2, .bool rem2, .int .u8 (dlc2 : Int), .slice a2 n2 c2] 25 (0, 0)) ∧ Below w0.heap.size w0 wx)
  case first =>
    go_region
    all_goals
      clear x0 x1 x2 x3 x4 y0 y1 y2 y3 y4 a0 a1 a2' a3 a4 b0 b1 b2 b3 b4 d0 d1 d2 d3 d4 e0 e1 e2 e3 e4
      have gw := fun o1 o2 => below_drew1 (bnew (bnew0 w0 o1) o2)
      have hx := fun o1 o2 => bx_below hbx (gw o1 o2)
      have hy := fun o1 o2 => bx_below hby (gw o1 o2)
      go_wp2_with fail
      go_meet
      exact ⟨_, _, rfl, rfl, ⟨by omega, by omega, by omega⟩, hx _ _, hy _ _, gw _ _⟩
  case rest =>
    clear x0 x1 x2 x3 x4 y0 y1 y2 y3 y4 a0 a1 a2' a3 a4 b0 b1 b2 b3 b4 d0 d1 d2 d3 d4 e0 e1 e2 e3 e4 hbx hby
    obtain ⟨q1, q2, rfl, rfl, hq, hbx, hby, g1⟩ := hcut
    have gg1 := gg0.trans (g1.mono gg0.size)
    clear gg0 g1
    obtain ⟨x0, x1, x2, x3, x4⟩ := bx5 hbx
    obtain ⟨y0, y1, y2, y3, y4⟩ := bx5 hby
    go_wp2_with (first
      | (go_at_call 17; (with_reducible refine (hB1 _).mono ?_); rintro e w2 ⟨rfl, g2⟩; clear x0 x1 x2 x3 x4 y0 y1 y2 y3 y4 hB1; obtain ⟨x0, x1, x2, x3, x4⟩ := bx5 (bx_below hbx g2); obtain ⟨y0, y1, y2, y3, y4⟩ := bx5 (bx_below hby g2))
      | (go_at_call 17; (with_reducible refine (hB2 _).mono ?_); rintro e w3 ⟨rfl, g3⟩)
      | (go_at_call 12; refine (awake8_any _).mono ?_; rintro e w4 ⟨rfl, g4⟩))
    go_ret
    exact ⟨rfl, bstep (bstep (bstep gg1 g2) g3) g4⟩

set_option maxRecDepth 100000 in
set_option maxHeartbeats 8000000 in
theorem ctlTwo_some (w : World) (id : Nat) (ext rem : Bool) (dlc : Nat) (a : Option Addr) (c : Nat) (l : List UInt8) (id2 : Nat) (ext2 rem2 : Bool) (dlc2 : Nat) (a2 : Option Addr) (c2 : Nat) (l2 : List UInt8) (hi : id < 4294967296) (hd : dlc < 256) (h : RL bv w a l.length c l) (hi2 : id2 < 4294967296) (hd2 : dlc2 < 256) (h2 : RL bv w a2 l2.length c2 l2)
    (hr1 : riF id ext rem dlc l.length = true) (hr2 : riF id2 ext2 rem2 dlc2 l2.length = true) (sw : Bool) (hn1 : bfL (conL id2 ext2 rem2) (conL id ext rem) = sw) (hn2 : sw = false → bfL (conL id ext rem) (conL id2 ext2 rem2) = true) :
    Calls Try.prog 4 #[.agg #[.int .u32 (id : Int), .bool ext, .bool rem, .int .u8 (dlc : Int), .slice a l.length c], .agg #[.int .u32 (id2 : Int), .bool ext2, .bool rem2, .int .u8 (dlc2 : Int), .slice a2 l2.length c2]] w fun e w' => e = .returned (.bool true) ∧ Below w.heap.size w w' := by
  obtain ⟨w0, hw0, hbx, hby, gg0⟩ := boxed2 w 25 #[.int .u32 (id : Int), .bool ext, .bool rem, .int .u8 (dlc : Int), .slice a l.length c] #[.int .u32 (id2 : Int), .bool ext2, .bool rem2, .int .u8 (dlc2 : Int), .slice a2 l2.length c2]
  have hB1 := fun w1 => before_any w1 id2 ext2 rem2 dlc2 a2 l2.length c2 id ext rem dlc a l.length c hi2 hd2 hi hd
  have hB2 := fun w1 => before_any w1 id ext rem dlc a l.length c id2 ext2 rem2 dlc2 a2 l2.length c2 hi hd hi2 hd2
  rw [hn1, hr1, hr2] at hB1
  rw [hr1, hr2] at hB2
  simp only [Bool.true_and] at hB1 hB2
  have H1 := hid hn1
  have H2 := hid hn2
  have HR1 := hid hr1
  have HR2 := hid hr2
  clear hn1 hn2 hr1 hr2
  go_enter Try.func4, Try.ntmps4
  go_upto_region 1 with fail
  rw [hw0.out]
  obtain ⟨x0, x1, x2, x3, x4⟩ := bx5 hbx
  obtain ⟨y0, y1, y2, y3, y4⟩ := bx5 hby
  have a0 := fun o => cell_new_t x0 o
  have a1 := fun o => cell_new_t x1 o
  have a2' := fun o => cell_new_t x2 o
  have a3 := fun o => cell_new_t x3 o
  have a4 := fun o => cell_new_t x4 o
  have b0 := fun o => cell_new_t y0 o
  have b1 := fun o => cell_new_t y1 o
  have b2 := fun o => cell_new_t y2 o
  have b3 := fun o => cell_new_t y3 o
  have b4 := fun o => cell_new_t y4 o
  have d0 := fun o1 o2 => cell_new_t (a0 o1) o2
  have d1 := fun o1 o2 => cell_new_t (a1 o1) o2
  have d2 := fun o1 o2 => cell_new_t (a2' o1) o2
  have d3 := fun o1 o2 => cell_new_t (a3 o1) o2
  have d4 := fun o1 o2 => cell_new_t (a4 o1) o2
  have e0 := fun o1 o2 => cell_new_t (b0 o1) o2
  have e1 := fun o1 o2 => cell_new_t (b1 o1) o2
  have e2 := fun o1 o2 => cell_new_t (b2 o1) o2
  have e3 := fun o1 o2 => cell_new_t (b3 o1) o2
  have e4 := fun o1 o2 => cell_new_t (b4 o1) o2
  have lb := bx_lt hby
  go_cut [5, 6] (fun s5 s6 wx => ∃ q1 q2 : Nat, s5 = .pointer (some ⟨q1, 0, none⟩) ∧ s6 = .pointer (some ⟨q2, 0, none⟩) ∧ (w0.heap.size ≤ q1 ∧ w0.heap.size ≤ q2 ∧ q1 ≠ q2) ∧ wx.heap[w.heap.size]? = some (.cells #[.int .u32 (id : Int), .bool ext, .bool rem, .int .u8 (dlc : Int), .slice a l.length c] 25 (0, 0)) ∧ wx.heap[w.heap.size + 1]? = some (.cells #[.int .u32 (id2 : Int), .bool ext2, .bool rem2, .int .u8 (dlc2 : Int), .slice a2 l2.length c2] 25 (0, 0)) ∧
    wx.heap[q1]? = some (.cells #[.int .u32 (id : Int), .bool ext, .bool rem, .int .u8 (dlc : Int), .slice a l.length c] 25 (0, 0)) ∧ wx.heap[q2]? = some (.cells #[.int .u32 (id2 : Int), .bool ext2, .bool rem2, .int .u8 (dlc2 : Int), .slice a2 l2.length c2] 25 (0, 0)) ∧ Below w0.heap.size w0 wx)
  case first =>
    go_region
    all_goals
      clear x0 x1 x2 x3 x4 y0 y1 y2 y3 y4 a0 a1 a2' a3 a4 b0 b1 b2 b3 b4 d0 d1 d2 d3 d4 e0 e1 e2 e3 e4
      have gw := fun o1 o2 => below_drew1 (bnew (bnew0 w0 o1) o2)
      have hx := fun o1 o2 => bx_below hbx (gw o1 o2)
      have hy := fun o1 o2 => bx_below hby (gw o1 o2)
      have n1 := fun o1 o2 => heap_alloc_new (w0.alloc o1) o2
      have n2 := fun o1 o2 => bx_alloc o2 (heap_alloc_new w0 o1)
      simp only [heap_size_alloc] at n1
      go_wp2_with fail
      go_meet
      exact ⟨_, _, rfl, rfl, ⟨by omega, by omega, by omega⟩, hx _ _, hy _ _, by first | exact n1 _ _ | exact n2 _ _, by first | exact n1 _ _ | exact n2 _ _, gw _ _⟩
  case rest =>
    clear x0 x1 x2 x3 x4 y0 y1 y2 y3 y4 a0 a1 a2' a3 a4 b0 b1 b2 b3 b4 d0 d1 d2 d3 d4 e0 e1 e2 e3 e4 hbx hby
    obtain ⟨q1, q2, rfl, rfl, hq, hbx, hby, hq1, hq2, g1⟩ := hcut
    have gg1 := gg0.trans (g1.mono gg0.size)
    have l0 := gg0.size
    obtain ⟨x0, x1, x2, x3, x4⟩ := bx5 hbx
    obtain ⟨y0, y1, y2, y3, y4⟩ := bx5 hby
    go_upto_if 26 with (go_at_call 17; (with_reducible refine (hB1 _).mono ?_); rintro e w2 ⟨rfl, g2⟩; clear x0 x1 x2 x3 x4 y0 y1 y2 y3 y4 hB1; have hbx2 := bx_below hbx g2; have hby2 := bx_below hby g2; have hq12 := bx_below hq1 g2; have hq22 := bx_below hq2 g2; obtain ⟨x0, x1, x2, x3, x4⟩ := bx5 hbx2; obtain ⟨y0, y1, y2, y3, y4⟩ := bx5 hby2)
    go_cut [4] (fun s4 wx => s4 = .bool false ∧ ∃ (i1 : Nat) (x1 r1 : Bool) (d1 : Nat) (a1 : Option Addr) (c1 : Nat) (l1 : List UInt8) (i2 : Nat) (x2 r2 : Bool) (d2 : Nat) (a2 : Option Addr) (c2 : Nat) (l2 : List UInt8), i1 < 4294967296 ∧ d1 < 256 ∧ i2 < 4294967296 ∧ d2 < 256 ∧
      wx.heap[q1]? = some (.cells #[.int .u32 (i1 : Int), .bool x1, .bool r1, .int .u8 (d1 : Int), .slice a1 l1.length c1] 25 (0, 0)) ∧ wx.heap[q2]? = some (.cells #[.int .u32 (i2 : Int), .bool x2, .bool r2, .int .u8 (d2 : Int), .slice a2 l2.length c2] 25 (0, 0)) ∧ RL bv wx a1 l1.length c1 l1 ∧ RL bv wx a2 l2.length c2 l2 ∧ Below w.heap.size w wx ∧
      Hid (riF i1 x1 r1 d1 l1.length = true ∧ riF i2 x2 r2 d2 l2.length = true ∧ bfL (conL i1 x1 r1) (conL i2 x2 r2) = true))
    case first =>
      have HH1 := H1.out
      have HH2 := H2.out
      clear H1 H2
      cases sw
      · have hbf := hid (HH2 rfl)
        clear HH1 HH2
        rw [hbf.out] at hB2
        go_wp2_with (go_at_call 17; (with_reducible refine (hB2 _).mono ?_); rintro e w3 ⟨rfl, g3⟩)
        go_meet
        have gw := bstep (bstep gg1 g2) g3
        exact ⟨rfl, id, ext, rem, dlc, a, c, l, id2, ext2, rem2, dlc2, a2, c2, l2, hi, hd, hi2, hd2, bx_below hq12 g3, bx_below hq22 g3, h.below gw, h2.below gw, gw, hid ⟨HR1.out, HR2.out, hbf.out⟩⟩
      · clear hB2
        obtain ⟨hl1, hl2, hl3⟩ := hq
        have gw2 : Below w.heap.size w w2.drew := below_drew1 (bstep gg1 g2)
        have kx : w2.drew.heap[w.heap.size]? = some (.cells #[.int .u32 (id : Int), .bool ext, .bool rem, .int .u8 (dlc : Int), .slice a l.length c] 25 (0, 0)) := hbx2
        have ky : w2.drew.heap[w.heap.size + 1]? = some (.cells #[.int .u32 (id2 : Int), .bool ext2, .bool rem2, .int .u8 (dlc2 : Int), .slice a2 l2.length c2] 25 (0, 0)) := hby2
        have o1 : w2.drew.heap[q1]? = some (.cells #[.int .u32 (id : Int), .bool ext, .bool rem, .int .u8 (dlc : Int), .slice a l.length c] 25 (0, 0)) := hq12
        have o2 : w2.drew.heap[q2]? = some (.cells #[.int .u32 (id2 : Int), .bool ext2, .bool rem2, .int .u8 (dlc2 : Int), .slice a2 l2.length c2] 25 (0, 0)) := hq22
        have sx1 := (setRow_other w2.drew q1 w.heap.size #[.int .u32 (id2 : Int), .bool ext2, .bool rem2, .int .u8 (dlc2 : Int), .slice a2 l2.length c2] (by omega)).trans kx
        have sq2 := (setRow_other w2.drew q1 q2 #[.int .u32 (id2 : Int), .bool ext2, .bool rem2, .int .u8 (dlc2 : Int), .slice a2 l2.length c2] (by omega)).trans o2
        have e1 : (w2.drew.setRow q1 #[.int .u32 (id2 : Int), .bool ext2, .bool rem2, .int .u8 (dlc2 : Int), .slice a2 l2.length c2]).heap[q1]? = some (.cells #[.int .u32 (id2 : Int), .bool ext2, .bool rem2, .int .u8 (dlc2 : Int), .slice a2 l2.length c2] 25 (0, 0)) := setRow_heap _ _ _ _ _ _ o1
        have gA : Below w.heap.size w ((w2.drew.setRow q1 #[.int .u32 (id2 : Int), .bool ext2, .bool rem2, .int .u8 (dlc2 : Int), .slice a2 l2.length c2]).setRow q2 #[.int .u32 (id : Int), .bool ext, .bool rem, .int .u8 (dlc : Int), .slice a l.length c]) := below_setRow (below_setRow gw2 (by omega) _) (by omega) _
        have e3 : ((w2.drew.setRow q1 #[.int .u32 (id2 : Int), .bool ext2, .bool rem2, .int .u8 (dlc2 : Int), .slice a2 l2.length c2]).setRow q2 #[.int .u32 (id : Int), .bool ext, .bool rem, .int .u8 (dlc : Int), .slice a l.length c]).heap[q2]? = some (.cells #[.int .u32 (id : Int), .bool ext, .bool rem, .int .u8 (dlc : Int), .slice a l.length c] 25 (0, 0)) := setRow_heap _ _ _ _ _ _ sq2
        have HB := hid HH1
        have hoF : (show Array Value from #[.int .u32 (id : Int), .bool ext, .bool rem, .int .u8 (dlc : Int), .slice a l.length c]).all (·.oneCell') = true := by simp [Value.oneCell']
        have hoG : (show Array Value from #[.int .u32 (id2 : Int), .bool ext2, .bool rem2, .int .u8 (dlc2 : Int), .slice a2 l2.length c2]).all (·.oneCell') = true := by simp [Value.oneCell']
        clear HH1 HH2
        go_upto_region 3 with fail
        refine wp_region_any (by kernel_rfl) ?_
        change wpAny _ _ _ _ _ _ _ w2.drew
        refine wpAny_ready (rs := [0, 1]) (by kernel_rfl) (by simp) ?_
        refine AllReady.cons rfl (fun K hK => ?_) (AllReady.cons rfl (fun K hK => ?_) AllReady.nil)
        · refine draw_loadR rowF rfl _ rfl (w.heap.size + 1) rfl (w := w2.drew) ky rfl ?_
          refine hK _ _ ?_; clear hK K
          refine wpAny_ready (rs := [1, 2]) (by kernel_rfl) (by simp) ?_
          refine AllReady.cons rfl (fun K hK => ?_) (AllReady.cons rfl (fun K hK => ?_) AllReady.nil)
          · refine draw_loadR rowF rfl _ rfl w.heap.size rfl (w := w2.drew) kx rfl ?_
            refine hK _ _ ?_; clear hK K
            refine wpAny_ready (rs := [2]) (by kernel_rfl) (by simp) ?_
            refine AllReady.cons rfl (fun K hK => ?_) AllReady.nil
            refine draw_storeR rowF rfl _ _ rfl q1 #[.int .u32 (id2 : Int), .bool ext2, .bool rem2, .int .u8 (dlc2 : Int), .slice a2 l2.length c2] rfl rfl (w := w2.drew) o1 rfl rfl hoG ?_
            refine hK _ _ ?_; clear hK K
            refine wpAny_ready (rs := [3]) (by kernel_rfl) (by simp) ?_
            refine AllReady.cons rfl (fun K hK => ?_) AllReady.nil
            refine draw_storeR rowF rfl _ _ rfl q2 #[.int .u32 (id : Int), .bool ext, .bool rem, .int .u8 (dlc : Int), .slice a l.length c] rfl rfl (w := (w2.drew.setRow q1 #[.int .u32 (id2 : Int), .bool ext2, .bool rem2, .int .u8 (dlc2 : Int), .slice a2 l2.length c2])) sq2 rfl rfl hoF ?_
            refine hK _ _ ?_; clear hK K
            refine wpAny_done (by kernel_rfl) ?_ _
            go_wp2_with fail
            go_meet
            exact ⟨rfl, id2, ext2, rem2, dlc2, a2, c2, l2, id, ext, rem, dlc, a, c, l, hi2, hd2, hi, hd, (setRow_other _ q2 q1 #[.int .u32 (id : Int), .bool ext, .bool rem, .int .u8 (dlc : Int), .slice a l.length c] (by omega)).trans e1, e3, h2.below gA, h.below gA, gA, hid ⟨HR2.out, HR1.out, HB.out⟩⟩
          · refine draw_storeR rowF rfl _ _ rfl q1 #[.int .u32 (id2 : Int), .bool ext2, .bool rem2, .int .u8 (dlc2 : Int), .slice a2 l2.length c2] rfl rfl (w := w2.drew) o1 rfl rfl hoG ?_
            refine hK _ _ ?_; clear hK K
            refine wpAny_ready (rs := [1]) (by kernel_rfl) (by simp) ?_
            refine AllReady.cons rfl (fun K hK => ?_) AllReady.nil
            refine draw_loadR rowF rfl _ rfl w.heap.size rfl (w := (w2.drew.setRow q1 #[.int .u32 (id2 : Int), .bool ext2, .bool rem2, .int .u8 (dlc2 : Int), .slice a2 l2.length c2])) sx1 rfl ?_
            refine hK _ _ ?_; clear hK K
            refine wpAny_ready (rs := [3]) (by kernel_rfl) (by simp) ?_
            refine AllReady.cons rfl (fun K hK => ?_) AllReady.nil
            refine draw_storeR rowF rfl _ _ rfl q2 #[.int .u32 (id : Int), .bool ext, .bool rem, .int .u8 (dlc : Int), .slice a l.length c] rfl rfl (w := (w2.drew.setRow q1 #[.int .u32 (id2 : Int), .bool ext2, .bool rem2, .int .u8 (dlc2 : Int), .slice a2 l2.length c2])) sq2 rfl rfl hoF ?_
            refine hK _ _ ?_; clear hK K
            refine wpAny_done (by kernel_rfl) ?_ _
            go_wp2_with fail
            go_meet
            exact ⟨rfl, id2, ext2, rem2, dlc2, a2, c2, l2, id, ext, rem, dlc, a, c, l, hi2, hd2, hi, hd, (setRow_other _ q2 q1 #[.int .u32 (id : Int), .bool ext, .bool rem, .int .u8 (dlc : Int), .slice a l.length c] (by omega)).trans e1, e3, h2.below gA, h.below gA, gA, hid ⟨HR2.out, HR1.out, HB.out⟩⟩
        · refine draw_loadR rowF rfl _ rfl w.heap.size rfl (w := w2.drew) kx rfl ?_
          refine hK _ _ ?_; clear hK K
          refine wpAny_ready (rs := [0]) (by kernel_rfl) (by simp) ?_
          refine AllReady.cons rfl (fun K hK => ?_) AllReady.nil
          refine draw_loadR rowF rfl _ rfl (w.heap.size + 1) rfl (w := w2.drew) ky rfl ?_
          refine hK _ _ ?_; clear hK K
          refine wpAny_ready (rs := [2]) (by kernel_rfl) (by simp) ?_
          refine AllReady.cons rfl (fun K hK => ?_) AllReady.nil
          refine draw_storeR rowF rfl _ _ rfl q1 #[.int .u32 (id2 : Int), .bool ext2, .bool rem2, .int .u8 (dlc2 : Int), .slice a2 l2.length c2] rfl rfl (w := w2.drew) o1 rfl rfl hoG ?_
          refine hK _ _ ?_; clear hK K
          refine wpAny_ready (rs := [3]) (by kernel_rfl) (by simp) ?_
          refine AllReady.cons rfl (fun K hK => ?_) AllReady.nil
          refine draw_storeR rowF rfl _ _ rfl q2 #[.int .u32 (id : Int), .bool ext, .bool rem, .int .u8 (dlc : Int), .slice a l.length c] rfl rfl (w := (w2.drew.setRow q1 #[.int .u32 (id2 : Int), .bool ext2, .bool rem2, .int .u8 (dlc2 : Int), .slice a2 l2.length c2])) sq2 rfl rfl hoF ?_
          refine hK _ _ ?_; clear hK K
          refine wpAny_done (by kernel_rfl) ?_ _
          go_wp2_with fail
          go_meet
          exact ⟨rfl, id2, ext2, rem2, dlc2, a2, c2, l2, id, ext, rem, dlc, a, c, l, hi2, hd2, hi, hd, (setRow_other _ q2 q1 #[.int .u32 (id : Int), .bool ext, .bool rem, .int .u8 (dlc : Int), .slice a l.length c] (by omega)).trans e1, e3, h2.below gA, h.below gA, gA, hid ⟨HR2.out, HR1.out, HB.out⟩⟩
    case rest =>
      clear hB2 hbx2 hby2 hq12 hq22 x0 x1 x2 x3 x4 y0 y1 y2 y3 y4 g2 gg1 hbx hby hq1 hq2 HR1 HR2 H1 H2 hi hd hi2 hd2 h h2 g1 l0 lb hq gg0 hw0
      obtain ⟨rfl, i1, e1, r1, d1, a1, c1, l1, i2, e2, r2, d2, a2, c2, l2, hi1, hd1, hi2, hd2, hbF, hbG, hl1, hl2, gg2, HH⟩ := hcut
      obtain ⟨hr1, hr2, hbf⟩ := HH.out
      clear HH
      have hgF : Good ⟨i1, e1, r1, d1, l1⟩ := (good_iff ⟨i1, e1, r1, d1, l1⟩ _ rfl).1 hr1
      have hgG : Good ⟨i2, e2, r2, d2, l2⟩ := (good_iff ⟨i2, e2, r2, d2, l2⟩ _ rfl).1 hr2
      have hWF := fun (w1 : World) (h1 : RL bv w1 a1 l1.length c1 l1) => wire_any w1 i1 e1 r1 d1 a1 l1.length c1 l1 hi1 hd1 h1 hr1
      have hWG := fun (w1 : World) (h1 : RL bv w1 a2 l2.length c2 l2) => wire_any w1 i2 e2 r2 d2 a2 l2.length c2 l2 hi2 hd2 h1 hr2
      obtain ⟨F, hF⟩ : ∃ F : Fr, F = ⟨i1, e1, r1, d1, l1⟩ := ⟨_, rfl⟩
      obtain ⟨G, hG⟩ : ∃ G : Fr, G = ⟨i2, e2, r2, d2, l2⟩ := ⟨_, rfl⟩
      simp only [← hF] at hgF hWF
      simp only [← hG] at hgG hWG
      obtain ⟨d, hp⟩ := Pair.mk' hgF hgG (by rw [hF, hG]; exact hbf)
      have hGF := fun (w1 : World) (h1 : RL bv w1 a1 l1.length c1 l1) => give_fr F i1 e1 r1 d1 l1 hF hgF a1 c1 w1 h1
      have hGG := fun (w1 : World) (h1 : RL bv w1 a2 l2.length c2 l2) => give_fr G i2 e2 r2 d2 l2 hG hgG a2 c2 w1 h1
      obtain ⟨hd0, hd40, hdP, hdQ, hP34, hQ34, hP150, hQ150⟩ := hp.bd
      have hwF := wiL_length F
      obtain ⟨P, hP⟩ : ∃ P, P = (putL (boL F)).length := ⟨_, rfl⟩
      obtain ⟨Q, hQ⟩ : ∃ Q, Q = (putL (boL G)).length := ⟨_, rfl⟩
      simp only [← hP, ← hQ] at hp hWF hWG hwF hdP hdQ hP34 hQ34 hP150 hQ150
      have tOk := fun (i : Nat) (a b : Ct) hi' hh => tw_ok hp (i := i) (a := a) (b := b) hi' hh
      have tStep := fun (i : Nat) (a b : Ct) hi' hh => tw_step hp (i := i) (a := a) (b := b) hi' hh
      have tZero : TW F G P Q d 0 (giC F) (giC G) := .inl ⟨rfl, rfl, rfl⟩
      obtain ⟨W, hWe⟩ : ∃ W, W = wiL F := ⟨_, rfl⟩
      obtain ⟨V, hVe⟩ : ∃ V, V = wiL G := ⟨_, rfl⟩
      simp only [← hWe] at hWF hwF tStep
      simp only [← hVe] at hWG
      obtain ⟨N1, hN1⟩ : ∃ N1, N1 = P + 10 := ⟨_, rfl⟩
      obtain ⟨N2, hN2⟩ : ∃ N2, N2 = Q + 10 := ⟨_, rfl⟩
      rw [← hN1] at hWF hwF
      rw [← hN2] at hWG
      obtain ⟨M, hM⟩ : ∃ M, M = N1 + 3 + N2 := ⟨_, rfl⟩
      have bN1 : N1 ≤ 160 := by omega
      have bN2 : N2 ≤ 160 := by omega
      have bM : M ≤ 400 := by omega
      have HK := hid (show N1 = P + 10 ∧ N2 = Q + 10 ∧ M = N1 + 3 + N2 ∧ d < 40 ∧ d < P ∧ 34 ≤ P ∧ 34 ≤ Q from ⟨hN1, hN2, hM, hd40, hdP, hP34, hQ34⟩)
      have HT := hid (And.intro tOk tStep)
      have HS := hid tZero
      have HF := hid hF
      have HG := hid hG
      clear tOk tStep tZero hF hG hP hQ hWe hVe hN1 hN2 hM hp hgF hgG hr1 hr2 hbf hi1 hd1 hi2 hd2 hd0 hd40 hdP hdQ hP34 hQ34 hP150 hQ150 hwF
      obtain ⟨x0, x1, x2, x3, x4⟩ := bx5 hbF
      go_upto_region 7 with (first
        | (go_at_call 11; (with_reducible refine (hGF _ hl1).mono ?_); rintro e w2 ⟨s2, rfl, o2, g2⟩; have hz2 := heap_alloc_new w2 (.cells ctZ 37))
        | (with_reducible refine wpList_storeR rowC rfl _ _ rfl _ _ rfl rfl hz2 rfl rfl (ct_ones _ _) ?_))
      have g3 : Below wc.heap.size wc ((w2.alloc (.cells ctZ 37)).setRow w2.heap.size (ctA (giC F) s2)) := below_new g2 g2.size _ _
      have C3 := cb_new o2
      have lw : wc.heap.size ≤ w2.heap.size := g2.size
      clear x0 x1 x2 x3 x4 hz2 g2 o2 hGF
      change Code.wp _ _ _ _ ((w2.alloc (.cells ctZ 37)).setRow w2.heap.size (ctA (giC F) s2))
      generalize (w2.alloc (.cells ctZ 37)).setRow w2.heap.size (ctA (giC F) s2) = w3 at *
      have hl23 := hl2.below g3
      obtain ⟨x0, x1, x2, x3, x4⟩ := bx5 (bx_below hbG g3)
      go_upto_region 8 with (first
        | (go_at_call 11; (with_reducible refine (hGG _ hl23).mono ?_); rintro e w4 ⟨s4, rfl, o4, g4⟩; have hz4 := heap_alloc_new w4 (.cells ctZ 37))
        | (with_reducible refine wpList_storeR rowC rfl _ _ rfl _ _ rfl rfl hz4 rfl rfl (ct_ones _ _) ?_))
      have g5 : Below w3.heap.size w3 ((w4.alloc (.cells ctZ 37)).setRow w4.heap.size (ctA (giC G) s4)) := below_new g4 g4.size _ _
      have C5 := cb_new o4
      have A5 := C3.below g5
      have lw4 : w3.heap.size ≤ w4.heap.size := g4.size
      have l3 := C3.lt
      have NA : NBs s2 w4.heap.size := C3.o.fresh lw4
      have NB : NBs s4 w2.heap.size := o4.nbs l3
      have gg5 := bstep g3 g5
      clear x0 x1 x2 x3 x4 hz4 g4 o4 hGG hl23 C3
      change Code.wp _ _ _ _ ((w4.alloc (.cells ctZ 37)).setRow w4.heap.size (ctA (giC G) s4))
      generalize (w4.alloc (.cells ctZ 37)).setRow w4.heap.size (ctA (giC G) s4) = w5 at *
      have lA : wc.heap.size ≤ w2.heap.size := lw
      have lB : wc.heap.size ≤ w4.heap.size := by omega
      have lAB : w2.heap.size < w4.heap.size := by omega
      have lB5 := C5.lt
      generalize w2.heap.size = pa at *
      generalize w4.heap.size = pb at *
      clear g3 g5 lw lw4 l3
      have hl15 := hl1.below gg5
      have hl25 := hl2.below gg5
      have hbG5 := bx_below hbG gg5
      obtain ⟨x0, x1, x2, x3, x4⟩ := bx5 (bx_below hbF gg5)
      go_upto_region 10 with (first
        | (go_at_call 10; (with_reducible refine (hWF _ hl15).mono ?_); rintro e w6 ⟨a6, c6, rfl, ho6, g6⟩; obtain ⟨y0, y1, y2, y3, y4⟩ := bx5 (bx_below hbG5 g6); have hl26 := hl25.below g6)
        | (go_at_call 10; (with_reducible refine (hWG _ hl26).mono ?_); rintro e w7 ⟨a7, c7, rfl, ho7, g7⟩))
      have CA := (A5.below g6).below g7
      have CB := (C5.below g6).below g7
      have OW := ho6.below g7
      have gg7 := bstep (bstep gg5 g6) g7
      clear x0 x1 x2 x3 x4 y0 y1 y2 y3 y4 hl15 hl25 hl26 hbG5 A5 C5 ho6 ho7 g6 g7 gg5 hWF hWG
      generalize hB5 : w5.heap.size = B5 at *
      have HM : ((N1 : Int) + 3 + (N2 : Int)) = (M : Int) := by have := HK.out; omega
      go_wp2
      refine Code.wp_mono (fun _ _ _ h => noP_imp h) (ctlTwo_loop (Q0 := noP _) F G P Q d W s2 s4 i1 e1 r1 d1 a1 c1 l1 i2 e2 r2 d2 a2 c2 l2 B5 bN1 bN2 bM HK HT HS HF HG hbF hbG hl1 hl2 lA lB lAB lB5 CA CB NA NB OW gg7 (fun _ _ _ _ h => h) ?_)
      clear HM HK HT HS HF HG hbF hbG hl1 hl2 CA CB NA NB OW gg7 lA lB lAB lB5 bN1 bN2 bM
      iterate 152 intro _
      intro lo tn se w8 k1 k2 k3 g8
      unfold noP
      dsimp only
      have t1 : ((lo : Int) == 1) = true := by subst k1; rfl
      have t2 : ((tn : Int) == 2) = true := by subst k2; rfl
      have t3 : ((se : Int) == 2) = true := by subst k3; rfl
      clear k1 k2 k3
      go_wp2_with (go_at_call 12; (with_reducible refine (awake8_any _).mono ?_); rintro e w9 ⟨rfl, g9⟩)
      go_ret
      exact ⟨rfl, bstep (bstep gg2 g8) g9⟩

theorem ctlTwo_walk (w : World) (id : Nat) (ext rem : Bool) (dlc : Nat) (a : Option Addr) (n c : Nat) (l : List UInt8) (id2 : Nat) (ext2 rem2 : Bool) (dlc2 : Nat) (a2 : Option Addr) (n2 c2 : Nat) (l2 : List UInt8) (hi : id < 4294967296) (hd : dlc < 256) (h : RL bv w a n c l) (hi2 : id2 < 4294967296) (hd2 : dlc2 < 256) (h2 : RL bv w a2 n2 c2 l2) (m1 : n ≤ 9223372036854775807) (m2 : n2 ≤ 9223372036854775807) :
    Calls Try.prog 4 #[.agg #[.int .u32 (id : Int), .bool ext, .bool rem, .int .u8 (dlc : Int), .slice a n c], .agg #[.int .u32 (id2 : Int), .bool ext2, .bool rem2, .int .u8 (dlc2 : Int), .slice a2 n2 c2]] w fun e w' => e = .returned (.bool true) ∧ Below w.heap.size w w' := by
  obtain rfl : l.length = n := h.len
  obtain rfl : l2.length = n2 := h2.len
  cases hA : riF id ext rem dlc l.length
  · exact ctlTwo_none w id ext rem dlc a _ c id2 ext2 rem2 dlc2 a2 _ c2 hi hd hi2 hd2 (by rw [hA]; simp) (by rw [hA]; simp)
  cases hB : riF id2 ext2 rem2 dlc2 l2.length
  · exact ctlTwo_none w id ext rem dlc a _ c id2 ext2 rem2 dlc2 a2 _ c2 hi hd hi2 hd2 (by rw [hB]; simp) (by rw [hB]; simp)
  cases h1 : bfL (conL id2 ext2 rem2) (conL id ext rem)
  · cases h3 : bfL (conL id ext rem) (conL id2 ext2 rem2)
    · exact ctlTwo_none w id ext rem dlc a _ c id2 ext2 rem2 dlc2 a2 _ c2 hi hd hi2 hd2 (by rw [h1]; simp) (by rw [h3]; simp)
    · exact ctlTwo_some w id ext rem dlc a c l id2 ext2 rem2 dlc2 a2 c2 l2 hi hd h hi2 hd2 h2 hA hB false h1 (fun _ => h3)
  · exact ctlTwo_some w id ext rem dlc a c l id2 ext2 rem2 dlc2 a2 c2 l2 hi hd h hi2 hd2 h2 hA hB true h1 (fun e => by cases e)
end Go.Proofs.Ytaagfaidjihjcaa
