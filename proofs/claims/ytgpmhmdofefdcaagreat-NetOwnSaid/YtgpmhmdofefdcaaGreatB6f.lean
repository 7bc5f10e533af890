/-
  Contracts of the statements' own last and of their examples (awake, stage 7).
  Contracts of within, Right, Mode (the program's and the document's).
  Contracts of the document's Right, of Mode (the program's and the document's).
  Contracts of afterTaking and count.
  Contract of Event.
  Contract of the document's Event.
  The document's Event at whatever counters; contracts of Bit (the program's and the document's).
-/
import Derived.Test.YtgpmhmdofefdcaaGreatM7b
import Derived.Test.YtgpmhmdofefdcaaGreatB1f
import Derived.Test.YtgpmhmdofefdcaaGreatM8
namespace Go.Proofs.YtgpmhmdofefdcaaGreat
open Go.RowKit
set_option linter.unusedVariables false

/-- What is said of the last of some bits. -/
def laT (l : List Bool) : Nat := (alT s0 l).2.getLast?.getD 255

theorem alT_ne (s : Tk) {l : List Bool} (h : l ≠ []) : (alT s l).2 ≠ [] := by
  cases l with
  | nil => exact absurd rfl h
  | cons x l => rw [alT]; split <;> simp

theorem alT_len (l : List Bool) : ∀ s, (alT s l).2.length ≤ l.length := by
  induction l with
  | nil => intro s; simp [alT]
  | cons x l ih =>
    intro s
    rw [alT]
    split
    · simp only [List.length_cons]; have := ih (nxT s x).1; omega
    · simp

/-- The wire of ID 1 without data, and what it is read as. -/
def W1 : List Bool := wiL ⟨1, false, false, 0, []⟩
def O1 : List Nat := List.replicate 45 0 ++ [4, 6]
theorem W1_len : W1.length = 47 := by decide +kernel
theorem aw1O : (alT s0 W1).2 = O1 := by decide +kernel
theorem aw1p : (alT s0 W1).1.p = 11 := by decide +kernel
theorem aw2p : (alT s0 (W1.take 38)).1.p = 2 := by decide +kernel
theorem aw2f : (alT s0 (W1.take 38)).1.fi = true := by decide +kernel
theorem aw3 : laT (W1.set 37 false) = 2 := by decide +kernel
theorem aw4 : laT (List.replicate 6 false) = 1 := by decide +kernel
theorem aw5 : laT (List.replicate 5 false) = 0 := by decide +kernel
theorem W1_37 : W1[37]? = some true := by decide +kernel
theorem O1_at : O1[46]? = some 6 ∧ O1[45]? = some 4 ∧ O1[44]? = some 0 := ⟨rfl, rfl, rfl⟩

theorem aw_wire (w : World) : Calls Tryz.prog 15 #[.agg #[.int .u32 1, .bool false, .bool false, .int .u8 0, .slice none 0 0]] w fun e w' => ∃ a' c', e = .returned (.tuple #[.slice a' 47 c', .int .i64 0]) ∧ OL .bool 4 w.heap.size w' a' 47 c' W1 ∧ Below w.heap.size w w' := by
  have := wire_any w 1 false false 0 none 0 0 [] (by omega) (by omega) (RL.nil _ _ _ _) rfl
  rw [← wiL_length, show (wiL ⟨1, false, false, 0, []⟩).length = 47 from W1_len] at this
  exact this

theorem aw_drive (w : World) (b : Bool) (m : Nat) (a : Option Addr) (n c : Nat) :
    Calls Tryz.prog 55 #[.agg #[.bool b, .int .u8 (m : Int), .slice a n c, .int .u8 2, .bool true]] w fun e w' => e = .returned (.bool false) ∧ Below w.heap.size w w' := drive7_any w b m a n c 2 true

theorem mk_run (w : World) (n : Nat) (hn : n ≤ 1000) : ∃ W, (Instr.makeSlice 29 (.int .i64 (n : Int)) (.int .i64 (n : Int))).run Tryz.prog w = .ok (.slice (some ⟨w.heap.size, 0, none⟩) n n) W ∧
    RL .bool W (some ⟨w.heap.size, 0, none⟩) n n (List.replicate n false) ∧ Below w.heap.size w W := by
  obtain ⟨i, hi, hz0, hz1, hz2⟩ := info_parts tB.info
  have hb2 : ((i.bytes * n : Nat) : Int) ≤ 281474976710656 := by
    rw [hz2]; omega
  have hr := run_make (P := Tryz.prog) w 29 4 i (.bool false) tB.und hi hz0 .i64 .i64 n n (by omega) (Int.le_refl _) (by rw [Int.natCast_mul] at hb2; exact hb2) (by omega)
  simp only [Int.toNat_natCast] at hr
  refine ⟨_, hr, ?_, bnew0 _ _⟩
  have hcz : (madeCells (Value.bool false).cells (n * i.size)).toList = (List.replicate n false).map Value.bool := by rw [show (Value.bool false).cells = #[.bool false] from rfl, toList_madeCells_one]; simp [hz1]
  have ho := World.ownsRow_lit (base := w.heap.size) (e := 4) (size := 1) w (madeCells (Value.bool false).cells (n * i.size)) n (Nat.le_refl _) (by unfold maxLen; omega) (by rw [size_madeCells, hz1])
  have hol : OL .bool 4 w.heap.size (w.alloc (.cells (madeCells (Value.bool false).cells (n * i.size)) 4)) (some ⟨w.heap.size, 0, none⟩) n n (List.replicate n false) := ⟨by simp, Nat.le_refl _, by rw [← hcz]; exact ho⟩
  exact hol.rl

theorem cells3 {w : World} {a : Option Addr} {c : Nat} (h : RL nv w a 47 c O1) : ∃ b off, a = some ⟨b, off, none⟩ ∧ w.cell? ⟨b, off + 46, none⟩ = some (.int .u8 6) ∧ w.cell? ⟨b, off + 45, none⟩ = some (.int .u8 4) ∧ w.cell? ⟨b, off + 44, none⟩ = some (.int .u8 0) := by
  obtain ⟨b, off, e, _, hc⟩ := h.cell (by omega)
  exact ⟨b, off, e, hc 46 6 O1_at.1, hc 45 4 O1_at.2.1, hc 44 0 O1_at.2.2⟩

theorem own_at {B : Nat} {w : World} {a : Option Addr} {c : Nat} {l : List Bool} (h : OL .bool 4 B w a 47 c l) : ∃ g, a = some ⟨g, 0, none⟩ ∧ B ≤ g := by
  rcases h.ex with ⟨_, h0, _⟩ | ⟨g, cur, hg, hB, _⟩
  · omega
  · exact ⟨g, hg, hB⟩

end Go.Proofs.YtgpmhmdofefdcaaGreat

namespace Go.Proofs.YtgpmhmdofefdcaaGreat
open Go.RowKit
set_option linter.unusedVariables false

theorem within_any (w : World) (n a b : Int) : Calls Tryz.prog 98 #[.int .i64 n, .int .i64 a, .int .i64 b] w fun e w' => e = .returned (.bool (wi n a b)) ∧ w = w' := by
  unfold wi
  by_cases h1 : a ≤ n <;> by_cases h2 : n ≤ b
  all_goals
    go_enter Tryz.func98, Tryz.ntmps98
    go_wp2
    go_ret
    exact ⟨ret_bool (by simp [h1, h2]), rfl⟩

set_option maxHeartbeats 1000000 in
theorem cRight_any (w : World) (t r : Int) (o : Bool) (n m : Int) : Calls Tryz.prog 93 #[.agg #[.int .i64 t, .int .i64 r, .bool o, .int .i64 n, .int .i64 m]] w fun e w' => e = .returned (.bool (riC ⟨t, r, o, n, m⟩)) ∧ Below w.heap.size w w' := by
  have k1 := fun w => within_any w r 0 255
  have k2 := fun w => within_any w t 0 255
  have k3 := fun w => within_any w t 256 263
  have k4 := fun w => within_any w n 0 10
  have k5 := fun w => within_any w m 0 127
  have e : riC ⟨t, r, o, n, m⟩ = (wi r 0 255 && (if o then wi t 256 263 && wi n 0 10 && wi m 0 127 else wi t 0 255 && decide (n = 0) && decide (m = 0))) := rfl
  rw [e]
  clear e
  generalize wi r 0 255 = b1 at k1 ⊢
  generalize wi t 0 255 = b2 at k2 ⊢
  generalize wi t 256 263 = b3 at k3 ⊢
  generalize wi n 0 10 = b4 at k4 ⊢
  generalize wi m 0 127 = b5 at k5 ⊢
  cases b1
  · rw [Bool.false_and]
    go_enter Tryz.func93, Tryz.ntmps93
    go_wp2_with (go_at_call 98; (with_reducible refine (k1 _).mono ?_); rintro e w1 ⟨rfl, rfl⟩)
    go_ret
    exact ⟨rfl, bnew0 w _⟩
  cases o
  · cases b2
    · go_enter Tryz.func93, Tryz.ntmps93
      go_wp2_with (first
        | (go_at_call 98; (with_reducible refine (k1 _).mono ?_); rintro e w1 ⟨rfl, rfl⟩)
        | (go_at_call 98; (with_reducible refine (k2 _).mono ?_); rintro e w1 ⟨rfl, rfl⟩))
      go_ret
      exact ⟨rfl, bnew0 w _⟩
    · by_cases h1 : n = 0 <;> by_cases h2 : m = 0
      all_goals
        go_enter Tryz.func93, Tryz.ntmps93
        go_wp2_with (first
          | (go_at_call 98; (with_reducible refine (k1 _).mono ?_); rintro e w1 ⟨rfl, rfl⟩)
          | (go_at_call 98; (with_reducible refine (k2 _).mono ?_); rintro e w1 ⟨rfl, rfl⟩))
        go_ret
        exact ⟨ret_bool (by simp [h2]), bnew0 w _⟩
  · cases b3
    · go_enter Tryz.func93, Tryz.ntmps93
      go_wp2_with (first
        | (go_at_call 98; (with_reducible refine (k1 _).mono ?_); rintro e w1 ⟨rfl, rfl⟩)
        | (go_at_call 98; (with_reducible refine (k3 _).mono ?_); rintro e w1 ⟨rfl, rfl⟩))
      go_ret
      exact ⟨rfl, bnew0 w _⟩
    cases b4
    · go_enter Tryz.func93, Tryz.ntmps93
      go_wp2_with (first
        | (go_at_call 98; (with_reducible refine (k1 _).mono ?_); rintro e w1 ⟨rfl, rfl⟩)
        | (go_at_call 98; (with_reducible refine (k3 _).mono ?_); rintro e w1 ⟨rfl, rfl⟩)
        | (go_at_call 98; (with_reducible refine (k4 _).mono ?_); rintro e w1 ⟨rfl, rfl⟩))
      go_ret
      exact ⟨rfl, bnew0 w _⟩
    · go_enter Tryz.func93, Tryz.ntmps93
      go_wp2_with (first
        | (go_at_call 98; (with_reducible refine (k1 _).mono ?_); rintro e w1 ⟨rfl, rfl⟩)
        | (go_at_call 98; (with_reducible refine (k3 _).mono ?_); rintro e w1 ⟨rfl, rfl⟩)
        | (go_at_call 98; (with_reducible refine (k4 _).mono ?_); rintro e w1 ⟨rfl, rfl⟩)
        | (go_at_call 98; (with_reducible refine (k5 _).mono ?_); rintro e w1 ⟨rfl, rfl⟩))
      go_ret
      exact ⟨rfl, bnew0 w _⟩
end Go.Proofs.YtgpmhmdofefdcaaGreat

namespace Go.Proofs.YtgpmhmdofefdcaaGreat
open Go.RowKit
set_option linter.unusedVariables false

theorem mode_any (w : World) (t r : Int) (o : Bool) (n m : Int) : Calls Tryz.prog 92 #[.agg #[.int .i64 t, .int .i64 r, .bool o, .int .i64 n, .int .i64 m]] w fun e w' => e = .returned (.int .u8 (moC ⟨t, r, o, n, m⟩ : Int)) ∧ Below w.heap.size w w' := by
  cases o
  · have k := fun w => cRight_any w t r false n m
    obtain ⟨q, hq⟩ : ∃ q, q = moC ⟨t, r, false, n, m⟩ := ⟨_, rfl⟩
    rw [← hq]
    simp only [moC, Bool.false_or] at hq
    generalize riC ⟨t, r, false, n, m⟩ = b at k hq
    cases b
    · obtain rfl : q = 2 := hq
      go_enter Tryz.func92, Tryz.ntmps92
      go_wp2_with (go_at_call 93; (with_reducible refine (k _).mono ?_); rintro e w1 ⟨rfl, g1⟩)
      go_ret
      exact ⟨rfl, (one_bx g1).2.1⟩
    · by_cases h1 : 127 < t
      · obtain rfl : q = 1 := by rw [hq]; simp; omega
        clear hq
        go_enter Tryz.func92, Tryz.ntmps92
        go_wp2_with (go_at_call 93; (with_reducible refine (k _).mono ?_); rintro e w1 ⟨rfl, g1⟩; obtain ⟨b1, gg1, _⟩ := one_bx g1; obtain ⟨c0, c1, c2, c3, c4⟩ := bx5 b1)
        go_ret
        exact ⟨rfl, gg1⟩
      by_cases h2 : 127 < r
      · obtain rfl : q = 1 := by rw [hq]; simp; omega
        clear hq
        go_enter Tryz.func92, Tryz.ntmps92
        go_wp2_with (go_at_call 93; (with_reducible refine (k _).mono ?_); rintro e w1 ⟨rfl, g1⟩; obtain ⟨b1, gg1, _⟩ := one_bx g1; obtain ⟨c0, c1, c2, c3, c4⟩ := bx5 b1)
        go_ret
        exact ⟨rfl, gg1⟩
      · obtain rfl : q = 0 := by rw [hq]; simp; omega
        clear hq
        go_enter Tryz.func92, Tryz.ntmps92
        go_wp2_with (go_at_call 93; (with_reducible refine (k _).mono ?_); rintro e w1 ⟨rfl, g1⟩; obtain ⟨b1, gg1, _⟩ := one_bx g1; obtain ⟨c0, c1, c2, c3, c4⟩ := bx5 b1)
        go_ret
        exact ⟨rfl, gg1⟩
  · rw [show moC ⟨t, r, true, n, m⟩ = 2 from rfl]
    go_enter Tryz.func92, Tryz.ntmps92
    go_wp2
    go_ret
    exact ⟨rfl, bnew0 w _⟩

end Go.Proofs.YtgpmhmdofefdcaaGreat

namespace Go.Proofs.YtgpmhmdofefdcaaGreat
open Go.RowKit
set_option linter.unusedVariables false

theorem cAfter_any (w : World) (r : Int) (h0 : 0 ≤ r) (h1 : r ≤ 255) : Calls Tryz.prog 110 #[.int .i64 r] w fun e w' => e = .returned (.int .i64 (reA r 9)) ∧ w = w' := by
  by_cases h : 127 < r
  · rw [show reA r 9 = 119 by simp [reA]; omega]
    go_enter Tryz.func110, Tryz.ntmps110
    go_wp2
    go_ret
    exact ⟨rfl, rfl⟩
  · obtain ⟨q, hq0⟩ : ∃ q, q = reA r 9 := ⟨_, rfl⟩
    rw [← hq0]
    have hq : q = max (r - 1) 0 := by rw [hq0]; simp [reA]; omega
    have hmax : ∀ (ts : Array TypeId) (t : TypeId) (w' : World), (Builtin.max_ ts t #[.int .i64 (r - 1), .int .i64 0]).run Tryz.prog w' = .ok (.int .i64 q) w' := fun ts t w' => by
      rw [run_max_int2]; congr 2; split <;> omega
    clear hq hq0
    go_enter Tryz.func110, Tryz.ntmps110
    go_wp2
    go_ret
    exact ⟨rfl, rfl⟩

theorem count_first (w : World) (t r n m : Int) (h0 : 0 ≤ r) (h1 : r ≤ 255) (t0 : 0 ≤ t) (t1 : t ≤ 255) :
    Calls Tryz.prog 99 #[.agg #[.int .i64 t, .int .i64 r, .bool false, .int .i64 n, .int .i64 m], .int .u8 1] w fun e w' => e = .returned (.agg #[.int .i64 t, .int .i64 (reA r 1), .bool false, .int .i64 n, .int .i64 m]) ∧ Below w.heap.size w w' := by
  obtain ⟨q, hq0⟩ : ∃ q, q = reA r 1 := ⟨_, rfl⟩
  rw [← hq0]
  have hq : q = min (r + 1) 255 := by rw [hq0]; simp [reA]
  have hmin : ∀ (ts : Array TypeId) (t : TypeId) (w' : World), (Builtin.min_ ts t #[.int .i64 (r + 1), .int .i64 255]).run Tryz.prog w' = .ok (.int .i64 q) w' := fun ts t w' => by
    rw [run_min_int2]; congr 2; split <;> omega
  clear hq hq0
  go_enter Tryz.func99, Tryz.ntmps99
  go_wp2
  refine bodyPost_ret (v := .agg #[.int .i64 t, .int .i64 q, .bool false, .int .i64 n, .int .i64 m]) (by simp [results, Tryz.results99, go_sem]) rfl ⟨rfl, ?_⟩
  repeat (first | with_reducible exact bnew0 _ _ | with_reducible refine Below.setCell ?_ (by simp) _ | with_reducible refine bnew ?_ _)

theorem count_heavy (w : World) (t r n m : Int) (k : Nat) (hk : 2 ≤ k ∧ k ≤ 4) (h0 : 0 ≤ r) (h1 : r ≤ 255) (t0 : 0 ≤ t) (t1 : t ≤ 255) :
    Calls Tryz.prog 99 #[.agg #[.int .i64 t, .int .i64 r, .bool false, .int .i64 n, .int .i64 m], .int .u8 (k : Int)] w fun e w' => e = .returned (.agg #[.int .i64 t, .int .i64 (reA r k), .bool false, .int .i64 n, .int .i64 m]) ∧ Below w.heap.size w w' := by
  obtain ⟨q, hq0⟩ : ∃ q, q = reA r k := ⟨_, rfl⟩
  rw [← hq0]
  have hq : q = min (r + 8) 255 := by rw [hq0]; unfold reA; rw [if_neg (by omega), if_pos (by omega)]
  have hmin : ∀ (ts : Array TypeId) (t : TypeId) (w' : World), (Builtin.min_ ts t #[.int .i64 (r + 7 + 1), .int .i64 255]).run Tryz.prog w' = .ok (.int .i64 q) w' := fun ts t w' => by
    rw [run_min_int2]; congr 2; split <;> omega
  clear hq hq0
  obtain rfl | rfl | rfl : k = 2 ∨ k = 3 ∨ k = 4 := by omega
  all_goals
    go_enter Tryz.func99, Tryz.ntmps99
    go_wp2
    refine bodyPost_ret (v := .agg #[.int .i64 t, .int .i64 q, .bool false, .int .i64 n, .int .i64 m]) (by simp [results, Tryz.results99, go_sem]) rfl ⟨rfl, ?_⟩
    repeat (first | with_reducible exact bnew0 _ _ | with_reducible refine Below.setCell ?_ (by simp) _ | with_reducible refine bnew ?_ _)

theorem count_send (w : World) (t r n m : Int) (k : Nat) (hk : 5 ≤ k ∧ k ≤ 7) (h0 : 0 ≤ r) (h1 : r ≤ 255) (t0 : 0 ≤ t) (t1 : t ≤ 255) :
    Calls Tryz.prog 99 #[.agg #[.int .i64 t, .int .i64 r, .bool false, .int .i64 n, .int .i64 m], .int .u8 (k : Int)] w fun e w' => e = .returned (.agg #[.int .i64 (t + 8), .int .i64 r, .bool (decide (t + 8 > 255)), .int .i64 n, .int .i64 m]) ∧ Below w.heap.size w w' := by
  by_cases h : 255 < t + 8
  · have hd : decide (t + 8 > 255) = true := by simp; omega
    rw [hd]; clear hd
    obtain rfl | rfl | rfl : k = 5 ∨ k = 6 ∨ k = 7 := by omega
    all_goals
      go_enter Tryz.func99, Tryz.ntmps99
      go_wp2
      refine bodyPost_ret (v := .agg #[.int .i64 (t + 8), .int .i64 r, .bool true, .int .i64 n, .int .i64 m]) (by simp [results, Tryz.results99, go_sem]) rfl ⟨rfl, ?_⟩
      repeat (first | with_reducible exact bnew0 _ _ | with_reducible refine Below.setCell ?_ (by simp) _ | with_reducible refine bnew ?_ _)
  · have hd : decide (t + 8 > 255) = false := by simp; omega
    rw [hd]; clear hd
    obtain rfl | rfl | rfl : k = 5 ∨ k = 6 ∨ k = 7 := by omega
    all_goals
      go_enter Tryz.func99, Tryz.ntmps99
      go_wp2
      refine bodyPost_ret (v := .agg #[.int .i64 (t + 8), .int .i64 r, .bool false, .int .i64 n, .int .i64 m]) (by simp [results, Tryz.results99, go_sem]) rfl ⟨rfl, ?_⟩
      repeat (first | with_reducible exact bnew0 _ _ | with_reducible refine Below.setCell ?_ (by simp) _ | with_reducible refine bnew ?_ _)

theorem count_sent (w : World) (t r n m : Int) (h0 : 0 ≤ r) (h1 : r ≤ 255) (t0 : 0 ≤ t) (t1 : t ≤ 255) :
    Calls Tryz.prog 99 #[.agg #[.int .i64 t, .int .i64 r, .bool false, .int .i64 n, .int .i64 m], .int .u8 8] w fun e w' => e = .returned (.agg #[.int .i64 (teA t 8), .int .i64 r, .bool false, .int .i64 n, .int .i64 m]) ∧ Below w.heap.size w w' := by
  obtain ⟨q, hq0⟩ : ∃ q, q = teA t 8 := ⟨_, rfl⟩
  rw [← hq0]
  have hq : q = max (t - 1) 0 := by rw [hq0]; simp [teA]
  have hmax : ∀ (ts : Array TypeId) (ty : TypeId) (w' : World), (Builtin.max_ ts ty #[.int .i64 (t - 1), .int .i64 0]).run Tryz.prog w' = .ok (.int .i64 q) w' := fun ts t w' => by
    rw [run_max_int2]; congr 2; split <;> omega
  clear hq hq0
  go_enter Tryz.func99, Tryz.ntmps99
  go_wp2
  refine bodyPost_ret (v := .agg #[.int .i64 q, .int .i64 r, .bool false, .int .i64 n, .int .i64 m]) (by simp [results, Tryz.results99, go_sem]) rfl ⟨rfl, ?_⟩
  repeat (first | with_reducible exact bnew0 _ _ | with_reducible refine Below.setCell ?_ (by simp) _ | with_reducible refine bnew ?_ _)

theorem count_took (w : World) (t r n m : Int) (h0 : 0 ≤ r) (h1 : r ≤ 255) (t0 : 0 ≤ t) (t1 : t ≤ 255) :
    Calls Tryz.prog 99 #[.agg #[.int .i64 t, .int .i64 r, .bool false, .int .i64 n, .int .i64 m], .int .u8 9] w fun e w' => e = .returned (.agg #[.int .i64 t, .int .i64 (reA r 9), .bool false, .int .i64 n, .int .i64 m]) ∧ Below w.heap.size w w' := by
  have k := fun w => cAfter_any w r h0 h1
  generalize reA r 9 = q at k ⊢
  go_enter Tryz.func99, Tryz.ntmps99
  go_wp2_with (go_at_call 110; (with_reducible refine (k _).mono ?_); rintro e w1 ⟨rfl, rfl⟩)
  refine bodyPost_ret (v := .agg #[.int .i64 t, .int .i64 q, .bool false, .int .i64 n, .int .i64 m]) (by simp [results, Tryz.results99, go_sem]) rfl ⟨rfl, ?_⟩
  repeat (first | with_reducible exact bnew0 _ _ | with_reducible refine Below.setCell ?_ (by simp) _ | with_reducible refine bnew ?_ _)

/-- All events of a controller that is on. -/
theorem count_any (w : World) (t r n m : Int) (k : Nat) (h0 : 0 ≤ r) (h1 : r ≤ 255) (t0 : 0 ≤ t) (t1 : t ≤ 255) (hk : 1 ≤ k ∧ k ≤ 9) :
    Calls Tryz.prog 99 #[.agg #[.int .i64 t, .int .i64 r, .bool false, .int .i64 n, .int .i64 m], .int .u8 (k : Int)] w fun e w' => e = .returned (.agg #[.int .i64 (teA t k), .int .i64 (reA r k), .bool (decide (teA t k > 255)), .int .i64 n, .int .i64 m]) ∧ Below w.heap.size w w' := by
  by_cases a1 : k = 1
  · subst a1
    rw [show teA t 1 = t from rfl, show decide (t > 255) = false by simp; omega]
    exact count_first w t r n m h0 h1 t0 t1
  by_cases a2 : k ≤ 4
  · rw [show teA t k = t by unfold teA; rw [if_neg (by omega), if_neg (by omega)], show decide (t > 255) = false by simp; omega]
    exact count_heavy w t r n m k (by omega) h0 h1 t0 t1
  by_cases a3 : k ≤ 7
  · rw [show teA t k = t + 8 by unfold teA; rw [if_pos (by omega)], show reA r k = r by unfold reA; rw [if_neg (by omega), if_neg (by omega), if_neg (by omega)]]
    exact count_send w t r n m k (by omega) h0 h1 t0 t1
  by_cases a4 : k = 8
  · subst a4
    rw [show decide (teA t 8 > 255) = false by simp [teA]; omega, show reA r 8 = r from rfl]
    exact count_sent w t r n m h0 h1 t0 t1
  · obtain rfl : k = 9 := by omega
    rw [show teA t 9 = t from rfl, show decide (t > 255) = false by simp; omega]
    exact count_took w t r n m h0 h1 t0 t1
end Go.Proofs.YtgpmhmdofefdcaaGreat

namespace Go.Proofs.YtgpmhmdofefdcaaGreat
open Go.RowKit
set_option linter.unusedVariables false

set_option maxHeartbeats 1000000 in
theorem event_any (w : World) (t r : Int) (o : Bool) (n m : Int) (k : Nat) (hk : k < 256) : Calls Tryz.prog 91 #[.agg #[.int .i64 t, .int .i64 r, .bool o, .int .i64 n, .int .i64 m], .int .u8 (k : Int)] w fun e w' =>
    e = .returned (.tuple #[.agg #[.int .i64 (evC ⟨t, r, o, n, m⟩ k).t, .int .i64 (evC ⟨t, r, o, n, m⟩ k).r, .bool (evC ⟨t, r, o, n, m⟩ k).o, .int .i64 (evC ⟨t, r, o, n, m⟩ k).n, .int .i64 (evC ⟨t, r, o, n, m⟩ k).m], .int .i64 (evE ⟨t, r, o, n, m⟩ k)]) ∧ Below w.heap.size w w' := by
  have hR := fun w => cRight_any w t r o n m
  have hW := fun w => within_any w (k : Int) 1 9
  cases hr : riC ⟨t, r, o, n, m⟩
  · rw [hr] at hR
    rw [show evC ⟨t, r, o, n, m⟩ k = ⟨t, r, o, n, m⟩ by simp [evC, hr], show evE ⟨t, r, o, n, m⟩ k = 60 by simp [evE, hr]]
    clear hr hW
    go_enter Tryz.func91, Tryz.ntmps91
    go_wp2_with (first
      | (go_at_call 93; (with_reducible refine (hR _).mono ?_); rintro e w1 ⟨rfl, g1⟩; obtain ⟨b1, b2, gg1⟩ := two_bx g1; obtain ⟨c0, c1, c2, c3, c4⟩ := bx5 b1; obtain ⟨d0, d1, d2, d3, d4⟩ := bx5 b2; have f2 := bx_thaw b2))
    refine bodyPost_ret (v := .tuple #[.agg #[.int .i64 t, .int .i64 r, .bool o, .int .i64 n, .int .i64 m], .int .i64 60]) (by simp [results, Tryz.results91, go_sem, d0, d1, d2, d3, d4]) rfl ⟨rfl, ?_⟩
    repeat (first | with_reducible exact gg1 | with_reducible refine Below.setCell ?_ (by simp) _ | with_reducible refine bnew ?_ _)
  rw [hr] at hR
  by_cases hkk : 1 ≤ k ∧ k ≤ 9
  · have hwi : wi (k : Int) 1 9 = true := by rw [wi_iff]; omega
    rw [hwi] at hW
    rw [show evE ⟨t, r, o, n, m⟩ k = 0 by unfold evE; rw [if_neg (by rw [hr]; simp; omega)]]
    cases o
    · obtain ⟨r0, r1, t0, t1, n0, m0⟩ := ri_on hr rfl
      rw [show evC ⟨t, r, false, n, m⟩ k = evO ⟨t, r, false, n, m⟩ k by unfold evC; rw [if_neg (by rw [hr]; simp; omega)]; rfl]
      have hC := fun w => count_any w t r n m k r0 r1 t0 t1 hkk
      unfold evO
      dsimp only
      generalize decide (teA t k > 255) = oo at hC ⊢
      generalize teA t k = tt at hC ⊢
      generalize reA r k = rr at hC ⊢
      clear hr hwi r0 r1 t0 t1 n0 m0
      go_enter Tryz.func91, Tryz.ntmps91
      go_wp2_with (first
        | (go_at_call 93; (with_reducible refine (hR _).mono ?_); rintro e w1 ⟨rfl, g1⟩; obtain ⟨b1, b2, gg1⟩ := two_bx g1; obtain ⟨c0, c1, c2, c3, c4⟩ := bx5 b1)
        | (go_at_call 98; (with_reducible refine (hW _).mono ?_); rintro e w2 ⟨rfl, rfl⟩)
        | (go_at_call 99; (with_reducible refine (hC _).mono ?_); rintro e w2 ⟨rfl, g2⟩; have b3 := bx_below b2 g2; obtain ⟨d0, d1, d2, d3, d4⟩ := bx5 b3; have f2 := bx_thaw b3; have gg2 := bstep gg1 g2))
      refine bodyPost_ret (v := .tuple #[.agg #[.int .i64 tt, .int .i64 rr, .bool oo, .int .i64 n, .int .i64 m], .int .i64 0]) (by simp [results, Tryz.results91, go_sem, d0, d1, d2, d3, d4]) rfl ⟨rfl, ?_⟩
      repeat (first | with_reducible exact gg2 | with_reducible refine Below.setCell ?_ (by simp) _ | with_reducible refine bnew ?_ _)
    · rw [show evC ⟨t, r, true, n, m⟩ k = ⟨t, r, true, n, m⟩ by simp [evC]]
      clear hr hwi
      go_enter Tryz.func91, Tryz.ntmps91
      go_wp2_with (first
        | (go_at_call 93; (with_reducible refine (hR _).mono ?_); rintro e w1 ⟨rfl, g1⟩; obtain ⟨b1, b2, gg1⟩ := two_bx g1; obtain ⟨c0, c1, c2, c3, c4⟩ := bx5 b1; obtain ⟨d0, d1, d2, d3, d4⟩ := bx5 b2; have f2 := bx_thaw b2)
        | (go_at_call 98; (with_reducible refine (hW _).mono ?_); rintro e w2 ⟨rfl, rfl⟩))
      refine bodyPost_ret (v := .tuple #[.agg #[.int .i64 t, .int .i64 r, .bool true, .int .i64 n, .int .i64 m], .int .i64 0]) (by simp [results, Tryz.results91, go_sem, d0, d1, d2, d3, d4]) rfl ⟨rfl, ?_⟩
      repeat (first | with_reducible exact gg1 | with_reducible refine Below.setCell ?_ (by simp) _ | with_reducible refine bnew ?_ _)
  · have hwi : wi (k : Int) 1 9 = false := by rw [Bool.eq_false_iff, Ne, wi_iff]; omega
    rw [hwi] at hW
    rw [show evC ⟨t, r, o, n, m⟩ k = ⟨t, r, o, n, m⟩ by unfold evC; rw [if_pos (by omega)], show evE ⟨t, r, o, n, m⟩ k = 60 by unfold evE; rw [if_pos (by omega)]]
    clear hr hwi
    go_enter Tryz.func91, Tryz.ntmps91
    go_wp2_with (first
      | (go_at_call 93; (with_reducible refine (hR _).mono ?_); rintro e w1 ⟨rfl, g1⟩; obtain ⟨b1, b2, gg1⟩ := two_bx g1; obtain ⟨c0, c1, c2, c3, c4⟩ := bx5 b1; obtain ⟨d0, d1, d2, d3, d4⟩ := bx5 b2; have f2 := bx_thaw b2)
      | (go_at_call 98; (with_reducible refine (hW _).mono ?_); rintro e w2 ⟨rfl, rfl⟩))
    refine bodyPost_ret (v := .tuple #[.agg #[.int .i64 t, .int .i64 r, .bool o, .int .i64 n, .int .i64 m], .int .i64 60]) (by simp [results, Tryz.results91, go_sem, d0, d1, d2, d3, d4]) rfl ⟨rfl, ?_⟩
    repeat (first | with_reducible exact gg1 | with_reducible refine Below.setCell ?_ (by simp) _ | with_reducible refine bnew ?_ _)
end Go.Proofs.YtgpmhmdofefdcaaGreat

namespace Go.Proofs.YtgpmhmdofefdcaaGreat
open Go.RowKit
set_option linter.unusedVariables false

/-- A pair of boxes behind a call, and that the second one may be written. -/
theorem two_five {w w1 : World} {E F : TypeId} {v0 v1 v2 v3 v4 u0 u1 u2 u3 u4 : Value} (g1 : Below ((w.alloc (.cells #[v0, v1, v2, v3, v4] E)).alloc (.cells #[u0, u1, u2, u3, u4] F)).heap.size ((w.alloc (.cells #[v0, v1, v2, v3, v4] E)).alloc (.cells #[u0, u1, u2, u3, u4] F)) w1) :
    (w1.cell? ⟨w.heap.size, 0, none⟩ = some v0 ∧ w1.cell? ⟨w.heap.size, 1, none⟩ = some v1 ∧ w1.cell? ⟨w.heap.size, 2, none⟩ = some v2 ∧ w1.cell? ⟨w.heap.size, 3, none⟩ = some v3 ∧ w1.cell? ⟨w.heap.size, 4, none⟩ = some v4) ∧
    (w1.cell? ⟨w.heap.size + 1, 0, none⟩ = some u0 ∧ w1.cell? ⟨w.heap.size + 1, 1, none⟩ = some u1 ∧ w1.cell? ⟨w.heap.size + 1, 2, none⟩ = some u2 ∧ w1.cell? ⟨w.heap.size + 1, 3, none⟩ = some u3 ∧ w1.cell? ⟨w.heap.size + 1, 4, none⟩ = some u4) ∧
    (∀ i, w1.frozen? ⟨w.heap.size, i, none⟩ = false) ∧ (∀ i, w1.frozen? ⟨w.heap.size + 1, i, none⟩ = false) ∧ Below w.heap.size w w1 := by
  obtain ⟨b1, b2, gg⟩ := two_bx g1
  exact ⟨bx5 b1, bx5 b2, bx_thaw b1, bx_thaw b2, gg⟩

end Go.Proofs.YtgpmhmdofefdcaaGreat

namespace Go.Proofs.YtgpmhmdofefdcaaGreat
open Go.RowKit
set_option linter.unusedVariables false

set_option maxHeartbeats 1000000 in
theorem bit_any (w : World) (t r : Int) (o : Bool) (n m : Int) (x : Bool) : Calls Tryz.prog 82 #[.agg #[.int .i64 t, .int .i64 r, .bool o, .int .i64 n, .int .i64 m], .bool x] w fun e w' =>
    e = .returned (.agg #[.int .i64 (biC ⟨t, r, o, n, m⟩ x).t, .int .i64 (biC ⟨t, r, o, n, m⟩ x).r, .bool (biC ⟨t, r, o, n, m⟩ x).o, .int .i64 (biC ⟨t, r, o, n, m⟩ x).n, .int .i64 (biC ⟨t, r, o, n, m⟩ x).m]) ∧ Below w.heap.size w w' := by
  have hR := fun w => cRight_any w t r o n m
  cases hr : riC ⟨t, r, o, n, m⟩
  · rw [hr] at hR
    rw [show biC ⟨t, r, o, n, m⟩ x = ⟨t, r, o, n, m⟩ by simp [biC, hr]]
    clear hr
    go_enter Tryz.func82, Tryz.ntmps82
    go_wp2_with (go_at_call 93; (with_reducible refine (hR _).mono ?_); rintro e w1 ⟨rfl, g1⟩; obtain ⟨⟨c0, c1, c2, c3, c4⟩, ⟨d0, d1, d2, d3, d4⟩, f1, f2, gg1⟩ := two_five g1)
    refine bodyPost_ret (v := .agg #[.int .i64 t, .int .i64 r, .bool o, .int .i64 n, .int .i64 m]) (by simp [results, Tryz.results82, go_sem, d0, d1, d2, d3, d4]) rfl ⟨rfl, ?_⟩
    repeat (first | with_reducible exact gg1 | with_reducible refine Below.setCell ?_ (by simp) _ | with_reducible refine bnew ?_ _)
  rw [hr] at hR
  cases o
  · rw [show biC ⟨t, r, false, n, m⟩ x = ⟨t, r, false, n, m⟩ by simp [biC]]
    clear hr
    go_enter Tryz.func82, Tryz.ntmps82
    go_wp2_with (go_at_call 93; (with_reducible refine (hR _).mono ?_); rintro e w1 ⟨rfl, g1⟩; obtain ⟨⟨c0, c1, c2, c3, c4⟩, ⟨d0, d1, d2, d3, d4⟩, f1, f2, gg1⟩ := two_five g1)
    refine bodyPost_ret (v := .agg #[.int .i64 t, .int .i64 r, .bool false, .int .i64 n, .int .i64 m]) (by simp [results, Tryz.results82, go_sem, d0, d1, d2, d3, d4]) rfl ⟨rfl, ?_⟩
    repeat (first | with_reducible exact gg1 | with_reducible refine Below.setCell ?_ (by simp) _ | with_reducible refine bnew ?_ _)
  obtain ⟨r0, r1, t0, t1, n0, n1, m0, m1⟩ := ri_off hr rfl
  dsimp only at r0 r1 t0 t1 n0 n1 m0 m1
  cases x
  · rw [show biC ⟨t, r, true, n, m⟩ false = ⟨t, r, true, 0, m⟩ by simp [biC, hr]]
    clear hr
    go_enter Tryz.func82, Tryz.ntmps82
    go_wp2_with (go_at_call 93; (with_reducible refine (hR _).mono ?_); rintro e w1 ⟨rfl, g1⟩; obtain ⟨⟨c0, c1, c2, c3, c4⟩, ⟨d0, d1, d2, d3, d4⟩, f1, f2, gg1⟩ := two_five g1)
    refine bodyPost_ret (v := .agg #[.int .i64 t, .int .i64 r, .bool true, .int .i64 0, .int .i64 m]) (by simp [results, Tryz.results82, go_sem, d0, d1, d2, d3, d4]) rfl ⟨rfl, ?_⟩
    repeat (first | with_reducible exact gg1 | with_reducible refine Below.setCell ?_ (by simp) _ | with_reducible refine bnew ?_ _)
  rw [show biC ⟨t, r, true, n, m⟩ true = upC ⟨t, r, true, n, m⟩ by simp [biC, hr]]
  clear hr
  by_cases h : n + 1 < 11
  · rw [show upC ⟨t, r, true, n, m⟩ = ⟨t, r, true, n + 1, m⟩ by unfold upC; rw [if_pos h]]
    have e1 : (n + 1 == 11) = false := by simp; omega
    have e2 : (m == 128) = false := by simp; omega
    go_enter Tryz.func82, Tryz.ntmps82
    go_wp2_with (go_at_call 93; (with_reducible refine (hR _).mono ?_); rintro e w1 ⟨rfl, g1⟩; obtain ⟨⟨c0, c1, c2, c3, c4⟩, ⟨d0, d1, d2, d3, d4⟩, f1, f2, gg1⟩ := two_five g1)
    refine bodyPost_ret (v := .agg #[.int .i64 t, .int .i64 r, .bool true, .int .i64 (n + 1), .int .i64 m]) (by simp [results, Tryz.results82, go_sem, d0, d1, d2, d3, d4]) rfl ⟨rfl, ?_⟩
    repeat (first | with_reducible exact gg1 | with_reducible refine Below.setCell ?_ (by simp) _ | with_reducible refine bnew ?_ _)
  have e1 : (n + 1 == 11) = true := by simp; omega
  by_cases h2 : m + 1 = 128
  · rw [show upC ⟨t, r, true, n, m⟩ = ⟨0, 0, false, 0, 0⟩ by unfold upC; rw [if_neg h, if_pos h2]]
    have e2 : (m + 1 == 128) = true := by simp; omega
    clear h2
    go_enter Tryz.func82, Tryz.ntmps82
    go_wp2_with (go_at_call 93; (with_reducible refine (hR _).mono ?_); rintro e w1 ⟨rfl, g1⟩; obtain ⟨⟨c0, c1, c2, c3, c4⟩, ⟨d0, d1, d2, d3, d4⟩, f1, f2, gg1⟩ := two_five g1)
    refine bodyPost_ret (v := .agg #[.int .i64 0, .int .i64 0, .bool false, .int .i64 0, .int .i64 0]) (by simp [results, Tryz.results82, go_sem, d0, d1, d2, d3, d4]) rfl ⟨rfl, ?_⟩
    repeat (first | with_reducible exact gg1 | with_reducible refine Below.setCell ?_ (by simp) _ | with_reducible refine bnew ?_ _)
  · rw [show upC ⟨t, r, true, n, m⟩ = ⟨t, r, true, 0, m + 1⟩ by unfold upC; rw [if_neg h, if_neg h2]]
    have e2 : (m + 1 == 128) = false := by simp; omega
    clear h2
    go_enter Tryz.func82, Tryz.ntmps82
    go_wp2_with (go_at_call 93; (with_reducible refine (hR _).mono ?_); rintro e w1 ⟨rfl, g1⟩; obtain ⟨⟨c0, c1, c2, c3, c4⟩, ⟨d0, d1, d2, d3, d4⟩, f1, f2, gg1⟩ := two_five g1)
    refine bodyPost_ret (v := .agg #[.int .i64 t, .int .i64 r, .bool true, .int .i64 0, .int .i64 (m + 1)]) (by simp [results, Tryz.results82, go_sem, d0, d1, d2, d3, d4]) rfl ⟨rfl, ?_⟩
    repeat (first | with_reducible exact gg1 | with_reducible refine Below.setCell ?_ (by simp) _ | with_reducible refine bnew ?_ _)

end Go.Proofs.YtgpmhmdofefdcaaGreat
