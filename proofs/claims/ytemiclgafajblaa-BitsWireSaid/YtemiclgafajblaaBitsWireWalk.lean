/-
  The walk of the statement BitsWire: it returns true for every input, and nothing that was there has changed.
-/
import Derived.Test.YtemiclgafajblaaB1d
namespace Go.Proofs.Ytemiclgafajblaa
open Go.RowKit
set_option linter.unusedVariables false

theorem keepB {w w2 : World} {b1 b2 : Nat} {v1 v2 : Value} (h1 : w.cell? ⟨b1, 0, none⟩ = some v1) (h2 : w.cell? ⟨b2, 0, none⟩ = some v2) (hb1 : b1 < w.heap.size) (hb2 : b2 < w.heap.size)
    (hb : Below w.heap.size w w2) : w2.cell? ⟨b1, 0, none⟩ = some v1 ∧ w2.cell? ⟨b2, 0, none⟩ = some v2 ∧ Below w.heap.size w w2 :=
  ⟨(hb.cell (p := ⟨b1, 0, none⟩) hb1).trans h1, (hb.cell (p := ⟨b2, 0, none⟩) hb2).trans h2, hb⟩

set_option maxHeartbeats 400000 in
theorem wireWith_any (w : World) (b1 b2 : Nat) (a : Option Addr) (n c k : Nat) (l : List Bool) (x : Bool) (hc1 : w.cell? ⟨b1, 0, none⟩ = some (.slice a n c)) (hc2 : w.cell? ⟨b2, 0, none⟩ = some (.int .i64 (k : Int)))
    (h : RL .bool w a n c l) (hk : k ≤ n) (hn : n ≤ 1000) :
    Calls Try.prog 21 #[.bool x, .pointer (some ⟨b1, 0, none⟩), .pointer (some ⟨b2, 0, none⟩)] w fun e w' => ∃ a' c', e = .returned (.slice a' (n + 1) c') ∧ RL .bool w' a' (n + 1) c' (l.take k ++ [x] ++ l.drop k) ∧ Below w.heap.size w w' := by
  have hb1 := World.block_lt_of_cell? w _ hc1
  have hb2 := World.block_lt_of_cell? w _ hc2
  have hcap := h.cap
  obtain ⟨a1, e1, e2, hr1⟩ := run_cutTo tB h .i64 k hk
  obtain ⟨a2, c2, e3, e4, hr2⟩ := run_cutFrom tB h .i64 k hk
  go_enter Try.func21, Try.ntmps21
  go_wp2_with fail
  go_region_held3 (fun w' => w'.cell? ⟨b1, 0, none⟩ = some (.slice a n c) ∧ w'.cell? ⟨b2, 0, none⟩ = some (.int .i64 (k : Int)) ∧ Below w.heap.size w w')
    (first
      | exact ⟨hc1, hc2, (Below.refl _ _).drew⟩
      | (go_split_ands; exact keepB hc1 hc2 hb1 hb2 (bstep (by assumption) g5))
      | (go_split_ands; exact keepB hc1 hc2 hb1 hb2 (bnew (by assumption) _))
      | (go_split_ands; exact keepB hc1 hc2 hb1 hb2 (Below.trans (by assumption) g6))
      | (go_split_ands; exact keepB hc1 hc2 hb1 hb2 (Below.trans (by assumption) g7)))
    (first
      | (go_simp; go_at_call 8; refine Calls.mono (anew_any _ a1 k c (l.take k) ?_ (by omega)) ?_; (go_split_ands; exact hr1.below (by assumption)); rintro e w5 ⟨a5, c5, rfl, hol5', g5⟩; have hol5 : OL .bool 4 w.heap.size w5 a5 k c5 (l.take k) := OL.mono hol5' (by go_split_ands; exact Below.size (by assumption)))
      | (refine step_app (f := Value.bool) (B := w.heap.size) (a := a5) (n := k) (c := c5) (l := l.take k) (n2 := 1) (m := [x]) tB rfl (.tmp 8) (.tmp 10) rfl rfl ?_ rfl ?_ (fun _ => rfl) (by omega) (by omega) ?_ ?_; (first | exact hol5 | exact hol5.alloc _); (first | exact (ol_lit Value.bool 4 0 _ [x] #[.bool x] 1 rfl rfl (by omega) (Nat.zero_le _)).rl | exact (ol_lit Value.bool 4 0 w.drew [x] #[.bool x] 1 rfl rfl (by omega) (Nat.zero_le _)).rl.below g5); (go_split_ands; exact Below.size (by assumption)); intro w6 a6 c6 hol6 g6)
      | (refine step_app (f := Value.bool) (B := w.heap.size) (a := a6) (n := k + 1) (c := c6) (l := l.take k ++ [x]) (a2 := a2) (n2 := n - k) (c2 := c2) (m := l.drop k) tB rfl (.tmp 11) (.tmp 14) rfl rfl hol6 rfl ?_ (fun _ => rfl) ?_ ?_ ?_ ?_; (go_split_ands; exact hr2.below (by assumption)); omega; omega; (go_split_ands; exact Below.size (by assumption)); intro w7 a7 c7 hol7 g7))
  all_goals
    have e9 : k + 1 + (n - k) = n + 1 := by omega
    have E9 := hid e9; clear e9
    have gB : Below w.heap.size w w7 := by go_split_ands; assumption
    clear e1 e2 e3 e4
    go_wp2
    go_ret
    exact ⟨a7, c7, congrArg (fun m => Ending.returned (.slice a7 m c7)) E9.out, by rw [← E9.out]; exact hol7.rl, gB⟩

theorem bitsWire_walk (w : World) (a : Option Addr) (n c : Nat) (l : List Bool) (y : Nat) (h : RL .bool w a n c l) (hy : y < 256) (m1 : n ≤ 9223372036854775807) :
    Calls Try.prog 6 #[.slice a n c, .int .u8 (y : Int)] w fun e w' => e = .returned (.bool true) ∧ Below w.heap.size w w' := by
  have hmf : ∀ (fn : Fn) (first cap : Array Value) (w : World), (Instr.makeFunc fn first cap).run Try.prog w = .ok (.func fn first cap) w := fun _ _ _ _ => rfl
  by_cases h1 : 100 < n
  · go_enter Try.func6, Try.ntmps6
    go_wp2_with (go_at_call 7; refine (awake1_any _).mono ?_; rintro e w1 ⟨rfl, hb1⟩)
    go_ret
    exact ⟨rfl, bstep (bnew0 w _) hb1⟩
  obtain ⟨k, hk0⟩ : ∃ k, k = y % (n + 1) := ⟨_, rfl⟩
  have hki : (y : Int) % ((n : Int) + 1) = (k : Int) := by rw [hk0]; norm_cast
  have hk : k ≤ n := by have := Nat.mod_lt y (show 0 < n + 1 by omega); omega
  clear hk0
  have hlen := h.len
  have ht : Hid ((l.take k ++ [true] ++ l.drop k).all id = l.all id) := by
    show _ = _
    rw [List.all_append, List.all_append, show ([true] : List Bool).all id = true from rfl, Bool.and_true, ← List.all_append, List.take_append_drop]
  have hf : Hid ((l.take k ++ [false] ++ l.drop k).all id = false) := by
    show _ = _
    simp [List.all_append]
  have hs : Hid (l.all id = ((l.take k).all id && (l.drop k).all id)) := by
    show _ = _
    rw [← List.all_append, List.take_append_drop]
  have g2 : Below w.heap.size w ((w.alloc (.cells #[.slice a n c] 24)).alloc (.cells #[.int .i64 (k : Int)] 3)) := bnew (bnew0 w _) _
  have c1 : ((w.alloc (.cells #[.slice a n c] 24)).alloc (.cells #[.int .i64 (k : Int)] 3)).cell? ⟨w.heap.size, 0, none⟩ = some (.slice a n c) := by
    rw [World.cell?_alloc_past _ _ _ (by simp), World.cell?_alloc_at _ _ _ _ rfl]; rfl
  have c2 : ((w.alloc (.cells #[.slice a n c] 24)).alloc (.cells #[.int .i64 (k : Int)] 3)).cell? ⟨w.heap.size + 1, 0, none⟩ = some (.int .i64 (k : Int)) := by
    rw [World.cell?_alloc_at _ _ _ _ (by simp)]; rfl
  have hr2 := h.below g2
  obtain ⟨bt, hbt⟩ : ∃ bt, bt = l.all id := ⟨_, rfl⟩
  obtain ⟨b1, hb1⟩ : ∃ b1, b1 = (l.take k).all id := ⟨_, rfl⟩
  obtain ⟨b2, hb2⟩ : ∃ b2, b2 = (l.drop k).all id := ⟨_, rfl⟩
  have hbb : bt = (b1 && b2) := by rw [hbt, hb1, hb2]; exact hs.out
  rw [← hbt] at ht
  have HBT := hid hbt; have HB1 := hid hb1; have HB2 := hid hb2
  clear hs hbt hb1 hb2
  go_enter Try.func6, Try.ntmps6
  go_wp2_with (first
    | (go_at_call 19; (with_reducible refine (bus_any ((w.alloc (.cells #[.slice a n c] 24)).alloc (.cells #[.int .i64 (k : Int)] 3)) a n c l hr2 (by omega)).mono ?_); rw [← HBT.out]; rintro e w3 ⟨rfl, rfl⟩)
    | (go_at_call 21; (with_reducible refine (wireWith_any ((w.alloc (.cells #[.slice a n c] 24)).alloc (.cells #[.int .i64 (k : Int)] 3)) w.heap.size (w.heap.size + 1) a n c k l true c1 c2 hr2 hk (by omega)).mono ?_); rintro e w3 ⟨a3, c3, rfl, hr3, g3⟩; have g03 := bstep g2 g3; have hl3 := h.below g03; have d1 := (g3.cell (World.block_lt_of_cell? _ _ c1)).trans c1; have d2 := (g3.cell (World.block_lt_of_cell? _ _ c2)).trans c2)
    | (go_at_call 19; (with_reducible refine (bus_any w3 a3 (n + 1) c3 _ hr3 (by omega)).mono ?_); rw [ht.out]; rintro e w4 ⟨rfl, rfl⟩)
    | (go_at_call 21; (with_reducible refine (wireWith_any w3 w.heap.size (w.heap.size + 1) a n c k l false d1 d2 hl3 hk (by omega)).mono ?_); rintro e w4 ⟨a4, c4, rfl, hr4, g4⟩; have g04 := bstep g03 g4; have hl4 := h.below g04; have e1 := (g4.cell (World.block_lt_of_cell? _ _ d1)).trans d1; have e2 := (g4.cell (World.block_lt_of_cell? _ _ d2)).trans d2; obtain ⟨a5, q1, q2, hr5⟩ := run_cutTo tB hl4 .i64 k hk; obtain ⟨a6, c6, q3, q4, hr6⟩ := run_cutFrom tB hl4 .i64 k hk)
    | (go_at_call 19; (with_reducible refine (bus_any w4 a4 (n + 1) c4 _ hr4 (by omega)).mono ?_); rw [hf.out]; rintro e w5 ⟨rfl, rfl⟩)
    | (go_at_call 19; (with_reducible refine (bus_any w4 a5 k c _ hr5 (by omega)).mono ?_); rw [← HB1.out]; rintro e w5 ⟨rfl, rfl⟩)
    | (go_at_call 19; (with_reducible refine (bus_any w4 a6 (n - k) c6 _ hr6 (by omega)).mono ?_); rw [← HB2.out]; rintro e w5 ⟨rfl, rfl⟩)
    | (go_at_call 7; refine (awake1_any w4).mono ?_; rintro e w5 ⟨rfl, g5⟩))
  all_goals
    go_ret
    exact ⟨rfl, bstep g04 g5⟩
end Go.Proofs.Ytemiclgafajblaa
