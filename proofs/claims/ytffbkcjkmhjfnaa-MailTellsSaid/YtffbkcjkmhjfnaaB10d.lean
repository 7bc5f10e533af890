/-
  Contracts: a mail's number is looked for (find); keys, compared.
  Contracts: keys.
  Contracts: the best of those that wait (compare, slices.MinFunc); find, made, Len, Waits.
-/
import Derived.Test.YtffbkcjkmhjfnaaB10
import Derived.Test.YtffbkcjkmhjfnaaB1f
import Derived.Test.YtffbkcjkmhjfnaaB4g
import Derived.BigQuiet
import Derived.Deep.QuietTactic
import Derived.Lib.QuietBelow
namespace Go.Proofs.Ytffbkcjkmhjfnaa
open Go.RowKit
set_option linter.unusedVariables false

theorem find1_any (w : World) (p : Wt) (n : Int) (b : Nat) (hb : b < w.heap.size) (hc : w.cell? ⟨b, 0, none⟩ = some (.int .i64 n)) :
    Calls Try.prog 41 #[.agg (wtV p), .pointer (some ⟨b, 0, none⟩)] w fun e w' => e = .returned (.bool (decide ((p.2 : Int) = n))) ∧ Below w.heap.size w w' := by
  have hne : b ≠ w.heap.size := by omega
  go_enter Try.func41, Try.ntmps41
  go_wp2
  all_goals (go_ret; exact ⟨ret_bool (by rw [Bool.eq_iff_iff]; simp), bnew0 w _⟩)

set_option maxHeartbeats 1000000 in
theorem mlIndex_any (w : World) (a : Option Addr) (n c : Nat) (ws : List Wt) (N : Int) (b : Nat) (h : RK enW 6 w a n c ws) (hn : n ≤ 100000) (hb : b < w.heap.size) (hc : w.cell? ⟨b, 0, none⟩ = some (.int .i64 N)) :
    Calls Try.prog 40 #[.slice a n c, .func (.func 41) #[] #[.pointer (some ⟨b, 0, none⟩)]] w fun e w' => e = .returned (.int .i64 (fiW N ws)) ∧ Below w.heap.size w w' := by
  have HL := hid h.len
  go_enter Try.func40, Try.ntmps40
  go_wp2
  go_loopg [8] n (fun gn vi wr => ∃ k : Nat, k ≤ n ∧ gn = n - k ∧ vi = .int .i64 (k : Int) ∧ Hid (∀ j q, j < k → ws[j]? = some q → (q.2 : Int) ≠ N) ∧ Below w.heap.size w wr)
  case atStart => exact ⟨0, by omega, by omega, rfl, fun j q hj => by omega, Below.refl _ _⟩
  case round =>
    obtain ⟨k, hk, rfl, rfl, HF, hbl⟩ := hrel
    by_cases hlt : k < n
    · obtain ⟨p, hp⟩ : ∃ p, ws[k]? = some p := ⟨ws[k]'(by rw [HL.out]; exact hlt), by simp⟩
      obtain ⟨gb, off, rfl, hgb, hr⟩ := (h.below hbl).range hp
      have HP := hid hp; clear hp
      have hcl := find1_any wr p N b (Nat.lt_of_lt_of_le hb hbl.size) ((hbl.cell (p := ⟨b, 0, none⟩) hb).trans hc)
      by_cases he : (p.2 : Int) = N
      · rw [decide_eq_true he] at hcl
        have HE := hid he; clear he
        go_wp2_with (first
          | (with_reducible refine wpList_loadM rowW rfl _ rfl _ _ rfl (wtV p) hr rfl ?_)
          | (go_at_call 41; (with_reducible refine hcl.mono ?_); rintro e w1 ⟨rfl, g1⟩))
        go_ret
        exact ⟨ret_int (fiW_at HP.out HE.out HF.out).symm, bstep hbl g1⟩
      · rw [decide_eq_false he] at hcl
        have HE := hid he; clear he
        go_wp2_with (first
          | (with_reducible refine wpList_loadM rowW rfl _ rfl _ _ rfl (wtV p) hr rfl ?_)
          | (go_at_call 41; (with_reducible refine hcl.mono ?_); rintro e w1 ⟨rfl, g1⟩))
        go_roundg (n - (k + 1))
        case measure => omega
        case rel => exact ⟨k + 1, by omega, rfl, by go_num, fun j q hj hq => by
          by_cases e : j = k
          · subst e; rw [HP.out] at hq; simp at hq; rw [← hq]; exact HE.out
          · exact HF.out j q (by omega) hq, bstep hbl g1⟩
    · obtain rfl : k = n := by omega
      go_wp2
      go_ret
      exact ⟨ret_int (fiW_no (fun q hq => by
        obtain ⟨j, hj, rfl⟩ := List.mem_iff_getElem.1 hq
        exact HF.out j _ (by rw [HL.out] at hj; exact hj) (by simp))).symm, hbl⟩
end Go.Proofs.Ytffbkcjkmhjfnaa

namespace Go.Proofs.Ytffbkcjkmhjfnaa
open Go.RowKit
set_option linter.unusedVariables false

theorem or_plus {a b k : Nat} (hb : b < 2 ^ k) (ha : a % 2 ^ k = 0) : a ||| b = a + b := by
  have h := Nat.two_pow_add_eq_or_of_lt hb (a / 2 ^ k)
  have e : 2 ^ k * (a / 2 ^ k) = a := by have := Nat.div_add_mod a (2 ^ k); omega
  rw [e] at h
  exact h.symm

theorem kb1 (id : Nat) : (id : Int) * 2097152 % 4294967296 = ((keyF id false false : Nat) : Int) := by rw [key_base]; simp; omega
theorem kb2 (id : Nat) : bits .or .u32 ((id : Int) * 2097152 % 4294967296) 1048576 = ((keyF id false true : Nat) : Int) := by
  have h1 : (id : Int) * 2097152 % 4294967296 = ((id % 2048 * 2097152 : Nat) : Int) := by omega
  have h2 := (u32_bits (id % 2048 * 2097152) 1048576 (by omega) (by omega)).2
  have h3 : (1048576 : Int) = ((1048576 : Nat) : Int) := rfl
  rw [h1, h3, h2, or_plus (k := 21) (by omega) (by omega), key_base]; simp; omega
theorem ke0 (id : Nat) (hi : id < 4294967296) : bits .or .u32 (bits .or .u32 ((id : Int) / 262144 * 2097152 % 4294967296) 1572864) (bits .and .u32 (id : Int) 262143 * 2 % 4294967296) = ((id / 262144 % 2048 * 2097152 + 1572864 + id % 262144 * 2 : Nat) : Int) := by
  have h1 : (id : Int) / 262144 * 2097152 % 4294967296 = ((id / 262144 % 2048 * 2097152 : Nat) : Int) := by omega
  have h2 := (u32_bits (id / 262144 % 2048 * 2097152) 1572864 (by omega) (by omega)).2
  have h3 : (1572864 : Int) = ((1572864 : Nat) : Int) := rfl
  have h4 := (u32_bits id 262143 hi (by omega)).1
  have h5 : (262143 : Int) = ((262143 : Nat) : Int) := rfl
  have h6 : id &&& 262143 = id % 262144 := Nat.and_two_pow_sub_one_eq_mod id 18
  have h7 : ((id % 262144 : Nat) : Int) * 2 % 4294967296 = ((id % 262144 * 2 : Nat) : Int) := by omega
  rw [h1, h3, h2, h5, h4, h6, h7, or_plus (k := 21) (a := id / 262144 % 2048 * 2097152) (by omega) (by omega)]
  have h8 := (u32_bits (id / 262144 % 2048 * 2097152 + 1572864) (id % 262144 * 2) (by omega) (by omega)).2
  rw [h8, or_plus (k := 19) (by omega) (by omega)]
theorem ke1 (id : Nat) (hi : id < 4294967296) : bits .or .u32 (bits .or .u32 ((id : Int) / 262144 * 2097152 % 4294967296) 1572864) (bits .and .u32 (id : Int) 262143 * 2 % 4294967296) = ((keyF id true false : Nat) : Int) := by
  rw [ke0 id hi, key_ext]; simp; omega
theorem ke2 (id : Nat) (hi : id < 4294967296) : bits .or .u32 (bits .or .u32 (bits .or .u32 ((id : Int) / 262144 * 2097152 % 4294967296) 1572864) (bits .and .u32 (id : Int) 262143 * 2 % 4294967296)) 1 = ((keyF id true true : Nat) : Int) := by
  rw [ke0 id hi]
  have h8 := (u32_bits (id / 262144 % 2048 * 2097152 + 1572864 + id % 262144 * 2) 1 (by omega) (by omega)).2
  have h3 : (1 : Int) = ((1 : Nat) : Int) := rfl
  rw [h3, h8, or_plus (k := 1) (by omega) (by omega), key_ext]; simp; omega

set_option maxHeartbeats 1000000 in
theorem key_any (w : World) (id : Nat) (ext rem : Bool) (dlc : Nat) (a : Option Addr) (n c : Nat) (hi : id < 4294967296) :
    Calls Try.prog 14 #[.agg #[.int .u32 (id : Int), .bool ext, .bool rem, .int .u8 (dlc : Int), .slice a n c]] w fun e w' => e = .returned (.int .u32 (keyF id ext rem : Int)) ∧ Below w.heap.size w w' := by
  cases ext <;> cases rem
  all_goals
    go_enter Try.func14, Try.ntmps14
    go_wp2
    go_ret
    exact ⟨ret_int (by first | exact kb1 id | exact kb2 id | exact ke1 id hi | exact ke2 id hi), bnew0 w _⟩

theorem isNaN_u32 (a : Int) (w : World) : Calls Try.prog 45 #[.int .u32 a] w fun e w' => e = .returned (.bool false) ∧ w = w' := by
  go_enter Try.func45, Try.ntmps45
  go_wp2
  go_ret
  exact ⟨ret_bool (by simp), rfl⟩

/-- Comparing two numbers. -/
def cmpV (a b : Nat) : Int := if a < b then -1 else if b < a then 1 else 0
theorem cmp_u32 (a b : Nat) (w : World) : Calls Try.prog 44 #[.int .u32 (a : Int), .int .u32 (b : Int)] w fun e w' => e = .returned (.int .i64 (cmpV a b)) ∧ w = w' := by
  unfold cmpV
  by_cases h1 : a < b
  · rw [if_pos h1]
    have d1 : (a : Int) < b := by omega
    have d2 : decide (a < b) = true := decide_eq_true h1
    clear h1
    go_enter Try.func44, Try.ntmps44
    go_wp2_with (go_at_call 45; refine (isNaN_u32 _ _).mono ?_; rintro e w' ⟨rfl, rfl⟩)
    go_ret
    exact ⟨rfl, rfl⟩
  · rw [if_neg h1]
    by_cases h2 : b < a
    · rw [if_pos h2]
      have d1 : ¬ (a : Int) < b := by omega
      have d2 : decide (a < b) = false := decide_eq_false h1
      have d3 : (b : Int) < a := by omega
      have d4 : decide (b < a) = true := decide_eq_true h2
      clear h1 h2
      go_enter Try.func44, Try.ntmps44
      go_wp2_with (go_at_call 45; refine (isNaN_u32 _ _).mono ?_; rintro e w' ⟨rfl, rfl⟩)
      go_ret
      exact ⟨rfl, rfl⟩
    · rw [if_neg h2]
      have d1 : ¬ (a : Int) < b := by omega
      have d2 : decide (a < b) = false := decide_eq_false h1
      have d3 : ¬ (b : Int) < a := by omega
      have d4 : decide (b < a) = false := decide_eq_false h2
      clear h1 h2
      go_enter Try.func44, Try.ntmps44
      go_wp2_with (go_at_call 45; refine (isNaN_u32 _ _).mono ?_; rintro e w' ⟨rfl, rfl⟩)
      go_ret
      exact ⟨rfl, rfl⟩
end Go.Proofs.Ytffbkcjkmhjfnaa

namespace Go.Proofs.Ytffbkcjkmhjfnaa
open Go.RowKit Go.Sort
set_option linter.unusedVariables false

/-- A box of six cells. -/
theorem bx6r {w : World} {g : Nat} {E : TypeId} {v0 v1 v2 v3 v4 v5 : Value} (h : w.heap[g]? = some (.cells #[v0, v1, v2, v3, v4, v5] E (0, 0))) :
    (∀ d os, (grow (redrawn w d) os).cell? ⟨g, 0, none⟩ = some v0) ∧ (∀ d os, (grow (redrawn w d) os).cell? ⟨g, 1, none⟩ = some v1) ∧ (∀ d os, (grow (redrawn w d) os).cell? ⟨g, 2, none⟩ = some v2) ∧
    (∀ d os, (grow (redrawn w d) os).cell? ⟨g, 3, none⟩ = some v3) ∧ (∀ d os, (grow (redrawn w d) os).cell? ⟨g, 4, none⟩ = some v4) ∧ (∀ d os, (grow (redrawn w d) os).cell? ⟨g, 5, none⟩ = some v5) := by
  obtain ⟨k0, k1, k2, k3, k4, k5⟩ := bx6 h
  exact ⟨fun d os => cell_regrown k0 d os, fun d os => cell_regrown k1 d os, fun d os => cell_regrown k2 d os, fun d os => cell_regrown k3 d os, fun d os => cell_regrown k4 d os, fun d os => cell_regrown k5 d os⟩

set_option maxRecDepth 100000 in
set_option maxHeartbeats 2000000 in
theorem compare_any (w : World) (p q : Wt) (hp : p.1.1.id < 4294967296) (hq : q.1.1.id < 4294967296) :
    Calls Try.prog 38 #[.agg (wtV p), .agg (wtV q)] w fun e w' => e = .returned (.int .i64 (cmpV (kyW p) (kyW q))) ∧ Below w.heap.size w w' := by
  obtain ⟨w0, hw0, hbx, hby, gg0⟩ := boxed2 w 65 (wtV p) (wtV q)
  obtain ⟨x0, x1, x2, x3, x4, x5⟩ := bx6r hbx
  obtain ⟨y0, y1, y2, y3, y4, y5⟩ := bx6r hby
  have kA : ∀ d os, Calls Try.prog 14 #[.agg #[.int .u32 (p.1.1.id : Int), .bool p.1.1.ext, .bool p.1.1.rem, .int .u8 (p.1.1.dlc : Int), .slice p.1.2.1 p.1.1.data.length p.1.2.2]] (grow (redrawn w0 d) os) fun e w'' => e = .returned (.int .u32 (kyW p : Int)) ∧ ∃ r : Regrown, w'' = grow (redrawn w0 r.d) r.os := fun d os =>
    Calls.regrown_of (key_any _ _ _ _ _ _ _ _ hp)
  have kB : ∀ d os, Calls Try.prog 14 #[.agg #[.int .u32 (q.1.1.id : Int), .bool q.1.1.ext, .bool q.1.1.rem, .int .u8 (q.1.1.dlc : Int), .slice q.1.2.1 q.1.1.data.length q.1.2.2]] (grow (redrawn w0 d) os) fun e w'' => e = .returned (.int .u32 (kyW q : Int)) ∧ ∃ r : Regrown, w'' = grow (redrawn w0 r.d) r.os := fun d os =>
    Calls.regrown_of (key_any _ _ _ _ _ _ _ _ hq)
  have kC : ∀ d os, Calls Try.prog 44 #[.int .u32 (kyW p : Int), .int .u32 (kyW q : Int)] (grow (redrawn w0 d) os) fun e w'' => e = .returned (.int .i64 (cmpV (kyW p) (kyW q))) ∧ ∃ r : Regrown, w'' = grow (redrawn w0 r.d) r.os := fun d os =>
    Calls.regrown_of ((cmp_u32 _ _ _).mono fun e w' he => ⟨he.1, he.2 ▸ Below.refl _ _⟩)
  generalize cmpV (kyW p) (kyW q) = cv at *
  generalize kyW p = kp at *
  generalize kyW q = kq at *
  go_enter Try.func38, Try.ntmps38
  go_wp2
  rw [hw0.out]
  refine wp_region_quiet_below (by kernel_rfl) (by kernel_rfl) ?_
  repeat (go_big_quiet_step (first | (go_at_call 14; with_reducible exact kA _ _) | (go_at_call 14; with_reducible exact kB _ _) | (go_at_call 44; with_reducible exact kC _ _)))
  refine wpQuiet_nil ?_
  intro w9 hw9
  have g9 : Below w0.heap.size w0 w9 := by obtain ⟨p9, rfl⟩ := hw9; exact below_regrown _ _ _
  clear hw9 kA kB kC x0 x1 x2 x3 x4 x5 y0 y1 y2 y3 y4 y5
  go_wp2
  go_ret
  exact ⟨rfl, bstep gg0 g9⟩
end Go.Proofs.Ytffbkcjkmhjfnaa
