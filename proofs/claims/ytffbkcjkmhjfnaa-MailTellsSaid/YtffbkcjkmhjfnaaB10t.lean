/-
  Contracts of the document's own answers on mails: its key of a frame is the key.
-/
import Derived.Test.YtffbkcjkmhjfnaaB10
import Derived.Deep.DeepCutAuto
namespace Go.Proofs.Ytffbkcjkmhjfnaa
open Go.RowKit Go.Sort
set_option linter.unusedVariables false
set_option linter.unusedSimpArgs false

theorem mod_more (x P : Nat) : x / 2 % P * 2 + x % 2 = x % (P * 2) := by
  rw [Nat.mul_comm P 2, Nat.mod_mul]; omega

/-- One bit more of a number, from above. -/
theorem bit_more (id m n : Nat) : id / 2 ^ (m + 1) % 2 ^ n * 2 + id / 2 ^ m % 2 = id / 2 ^ m % 2 ^ (n + 1) := by
  rw [Nat.pow_succ 2 m, ← Nat.div_div_eq_div_mul, mod_more, Nat.pow_succ]
theorem bit_round {id m N K Y : Nat} (hm : m < N) (hK : K = id / 2 ^ (m + 1) % 2 ^ (N - (m + 1))) (hY : Y = id / 2 ^ m) : K * 2 + Y % 2 = id / 2 ^ m % 2 ^ (N - m) := by
  rw [hK, hY, bit_more, show N - (m + 1) + 1 = N - m by omega]
theorem bit_round18 {id m N K Y : Nat} (hm : m < N) (hK : K = id / 2 ^ (18 + (m + 1)) % 2 ^ (N - (m + 1))) (hY : Y = id / 2 ^ (18 + m)) : K * 2 + Y % 2 = id / 2 ^ (18 + m) % 2 ^ (N - m) := by
  rw [hK, hY, ← Nat.add_assoc, bit_more, show N - (m + 1) + 1 = N - m by omega]
theorem key_round {id m K Y A : Nat} (hm : m < 18) (hK : K = A * 2 ^ (18 - (m + 1)) + id / 2 ^ (m + 1) % 2 ^ (18 - (m + 1))) (hY : Y = id / 2 ^ m) : K * 2 + Y % 2 = A * 2 ^ (18 - m) + id / 2 ^ m % 2 ^ (18 - m) := by
  have h := bit_more id m (18 - (m + 1))
  rw [show 18 - (m + 1) + 1 = 18 - m by omega] at h
  have hp : 2 ^ (18 - m) = 2 ^ (18 - (m + 1)) * 2 := by rw [← Nat.pow_succ]; congr 1; omega
  rw [hK, hY, ← h, hp, Nat.add_mul, Nat.mul_assoc, Nat.add_assoc]
theorem key_small {A K n x : Nat} (N : Nat) (hA : A < 8192) (hK : K = A * 2 ^ n + x % 2 ^ n) (h : n ≤ N) : K < 8192 * 2 ^ N := by
  have h1 : x % 2 ^ n < 2 ^ n := Nat.mod_lt _ (Nat.pow_pos (by decide))
  have h2 : 2 ^ n ≤ 2 ^ N := Nat.pow_le_pow_right (by decide) h
  have h3 : (A + 1) * 2 ^ n ≤ 8192 * 2 ^ N := Nat.mul_le_mul (by omega) h2
  rw [Nat.add_mul, Nat.one_mul] at h3
  omega
theorem bits_lt (x n N : Nat) (h : n ≤ N) : x % 2 ^ n < 2 ^ N := Nat.lt_of_lt_of_le (Nat.mod_lt _ (Nat.pow_pos (by decide))) (Nat.pow_le_pow_right (by decide) h)

set_option maxRecDepth 100000 in
set_option maxHeartbeats 4000000 in
theorem refKey_base (w : World) (id : Nat) (rem : Bool) (dlc : Nat) (a : Option Addr) (n c : Nat) (hi : id < 4294967296) :
    Calls Try.prog 15 #[.agg #[.int .u32 (id : Int), .bool false, .bool rem, .int .u8 (dlc : Int), .slice a n c]] w fun e w' => e = .returned (.int .u32 (keyF id false rem : Int)) ∧ Below w.heap.size w w' := by
  obtain ⟨w0, hw0, b0, g0⟩ : ∃ w0, Hid (w.alloc (.cells #[.int .u32 (id : Int), .bool false, .bool rem, .int .u8 (dlc : Int), .slice a n c] 34) = w0) ∧ w0.heap[w.heap.size]? = some (.cells #[.int .u32 (id : Int), .bool false, .bool rem, .int .u8 (dlc : Int), .slice a n c] 34 (0, 0)) ∧ Below w.heap.size w w0 := ⟨_, rfl, heap_alloc_new w _, bnew0 w _⟩
  obtain ⟨x0, x1, x2, x3, x4⟩ := bx5 b0
  clear b0
  have HI := hid hi
  go_enter Try.func15, Try.ntmps15
  go_wp2_with (rw [hw0.out])
  go_loopg [3, 4] 11 (fun gn s3 s4 wr => ∃ (i K : Nat) (v : Int), i ≤ 11 ∧ gn = 0 + i ∧ s3 = .int .u32 (K : Int) ∧ s4 = .int .i64 v ∧ v = (i : Int) - 1 ∧ K < 2048 ∧ Hid (K = id / 2 ^ i % 2 ^ (11 - i)) ∧ wr = w0)
  case atStart => exact ⟨11, 0, 10, by omega, by omega, rfl, rfl, by omega, by omega, hid (by simp [Nat.mod_one]), rfl⟩
  case round =>
    obtain ⟨i, K, v, hi11, rfl, rfl, rfl, hv, hK, HK, rfl⟩ := hrel
    cases i with
    | zero =>
      obtain rfl : v = -1 := by omega
      have hK2 : K = id % 2048 := by have := HK.out; simpa using this
      have HK2 := hid hK2
      clear hi11 hv hK2 hi
      cases rem
      all_goals
        go_wp2
        go_ret
        exact ⟨ret_int (by rw [key_base, ← HK2.out]; simp; try omega), g0⟩
    | succ m =>
      obtain rfl : v = (m : Int) := by omega
      have hm : m < 11 := by omega
      obtain ⟨Y, hY⟩ : ∃ Y, Y = id / 2 ^ m := ⟨_, rfl⟩
      have hYl : Y < 4294967296 := by rw [hY]; exact Nat.lt_of_le_of_lt (Nat.div_le_self _ _) hi
      have hsh : Op.shift .shr .u32 (id : Int) .u64 (m : Int) = pure (.int .u32 (Y : Int)) := by
        rw [shift_shr_any _ _ _ _ (by omega), Int.toNat_natCast, show min m IntKind.u32.bits = m from Nat.min_eq_left (show m ≤ 32 by omega), hY]
        norm_cast
      have hsv : (id : Int) / 2 ^ m = (Y : Int) := by rw [hY]; norm_cast
      have hrm : Int.tmod (Y : Int) 2 = ((Y % 2 : Nat) : Int) := by rw [Int.tmod_eq_emod_of_nonneg (by omega)]; norm_cast
      have HY := hid hY
      clear hY hv hi11
      go_wp2
      go_roundg (0 + m)
      case measure => omega
      case rel =>
        exact ⟨m, K * 2 + Y % 2, (m : Int) - 1, by omega, rfl, congrArg (Value.int .u32) (by omega), rfl, rfl, by rw [bit_round hm HK.out HY.out]; exact bits_lt _ _ 11 (by omega), hid (bit_round hm HK.out HY.out), rfl⟩

set_option maxRecDepth 100000 in
set_option maxHeartbeats 8000000 in
theorem refKey_ext (w : World) (id : Nat) (rem : Bool) (dlc : Nat) (a : Option Addr) (n c : Nat) (hi : id < 4294967296) :
    Calls Try.prog 15 #[.agg #[.int .u32 (id : Int), .bool true, .bool rem, .int .u8 (dlc : Int), .slice a n c]] w fun e w' => e = .returned (.int .u32 (keyF id true rem : Int)) ∧ Below w.heap.size w w' := by
  obtain ⟨w0, hw0, b0, g0⟩ : ∃ w0, Hid (w.alloc (.cells #[.int .u32 (id : Int), .bool true, .bool rem, .int .u8 (dlc : Int), .slice a n c] 34) = w0) ∧ w0.heap[w.heap.size]? = some (.cells #[.int .u32 (id : Int), .bool true, .bool rem, .int .u8 (dlc : Int), .slice a n c] 34 (0, 0)) ∧ Below w.heap.size w w0 := ⟨_, rfl, heap_alloc_new w _, bnew0 w _⟩
  obtain ⟨x0, x1, x2, x3, x4⟩ := bx5 b0
  clear b0
  go_enter Try.func15, Try.ntmps15
  go_wp2_with (rw [hw0.out])
  go_loopg [3, 5] 11 (fun gn s3 s4 wr => ∃ (i K : Nat) (v : Int), i ≤ 11 ∧ gn = 0 + i ∧ s3 = .int .u32 (K : Int) ∧ s4 = .int .i64 v ∧ v = (i : Int) + 17 ∧ K < 2048 ∧ Hid (K = id / 2 ^ (18 + i) % 2 ^ (11 - i)) ∧ wr = w0)
  case atStart => exact ⟨11, 0, 28, by omega, by omega, rfl, rfl, by omega, by omega, hid (by simp [Nat.mod_one]), rfl⟩
  case round =>
    obtain ⟨i, K, v, hi11, rfl, rfl, rfl, hv, hK, HK, rfl⟩ := hrel
    cases i with
    | zero =>
      obtain rfl : v = 17 := by omega
      obtain ⟨A, hA⟩ : ∃ A, K * 4 + 3 = A := ⟨_, rfl⟩
      have hAi : (K : Int) * 4 + 3 = (A : Int) := by omega
      have hAl : A < 8192 := by omega
      have hKA : A = id / 262144 % 2048 * 4 + 3 := by have := HK.out; simp at this; omega
      have HKA := hid hKA
      clear hi11 hv hKA HK hA
      go_wp2
      clear hAi
      go_loopg [3, 6] 18 (fun gn s3 s4 wr2 => ∃ (i K : Nat) (v : Int), i ≤ 18 ∧ gn = 0 + i ∧ s3 = .int .u32 (K : Int) ∧ s4 = .int .i64 v ∧ v = (i : Int) - 1 ∧ Hid (K = A * 2 ^ (18 - i) + id / 2 ^ i % 2 ^ (18 - i)) ∧ wr2 = wr)
      case atStart => exact ⟨18, A, 17, by omega, by omega, rfl, rfl, by omega, hid (by simp [Nat.mod_one]), rfl⟩
      case round =>
        obtain ⟨i, K, v, hi18, rfl, rfl, rfl, hv, HK, rfl⟩ := hrel
        have hK31 := key_small 18 hAl HK.out (by omega)
        rw [show 8192 * 2 ^ 18 = 2147483648 by decide] at hK31
        cases i with
        | zero =>
          obtain rfl : v = -1 := by omega
          have HK2 := hid (show K = A * 262144 + id % 262144 by have := HK.out; simpa using this)
          clear hi18 hv hi HK hAl
          cases rem
          all_goals
            go_wp2
            go_ret
            exact ⟨ret_int (by rw [key_ext, ← HKA.out, ← HK2.out]; simp; try omega), g0⟩
        | succ m =>
          obtain rfl : v = (m : Int) := by omega
          have hm : m < 18 := by omega
          have hK30 := key_small 17 hAl HK.out (by omega)
          rw [show 8192 * 2 ^ 17 = 1073741824 by decide] at hK30
          obtain ⟨Y, hY⟩ : ∃ Y, Y = id / 2 ^ m := ⟨_, rfl⟩
          have hYl : Y < 4294967296 := by rw [hY]; exact Nat.lt_of_le_of_lt (Nat.div_le_self _ _) hi
          have hsh : Op.shift .shr .u32 (id : Int) .u64 (m : Int) = pure (.int .u32 (Y : Int)) := by
            rw [shift_shr_any _ _ _ _ (by omega), Int.toNat_natCast, show min m IntKind.u32.bits = m from Nat.min_eq_left (show m ≤ 32 by omega), hY]
            norm_cast
          have hsv : (id : Int) / 2 ^ m = (Y : Int) := by rw [hY]; norm_cast
          have hrm : Int.tmod (Y : Int) 2 = ((Y % 2 : Nat) : Int) := by rw [Int.tmod_eq_emod_of_nonneg (by omega)]; norm_cast
          have HY := hid hY
          clear hY hv hi18
          go_wp2
          go_roundg (0 + m)
          case measure => omega
          case rel => exact ⟨m, K * 2 + Y % 2, (m : Int) - 1, by omega, rfl, congrArg (Value.int .u32) (by omega), rfl, rfl, hid (key_round hm HK.out HY.out), rfl⟩
    | succ m =>
      obtain rfl : v = ((18 + m : Nat) : Int) := by omega
      have hm : m < 11 := by omega
      obtain ⟨M, hM⟩ : ∃ M, 18 + m = M := ⟨_, rfl⟩
      obtain ⟨Y, hY⟩ : ∃ Y, Y = id / 2 ^ M := ⟨_, rfl⟩
      have hYl : Y < 4294967296 := by rw [hY]; exact Nat.lt_of_le_of_lt (Nat.div_le_self _ _) hi
      have hM2 : 18 ≤ M ∧ M ≤ 28 := by omega
      have hsh : Op.shift .shr .u32 (id : Int) .u64 (M : Int) = pure (.int .u32 (Y : Int)) := by
        rw [shift_shr_any _ _ _ _ (by omega), Int.toNat_natCast, show min M IntKind.u32.bits = M from Nat.min_eq_left (show M ≤ 32 by omega), hY]
        norm_cast
      have hsv : (id : Int) / 2 ^ M = (Y : Int) := by rw [hY]; norm_cast
      have hrm : Int.tmod (Y : Int) 2 = ((Y % 2 : Nat) : Int) := by rw [Int.tmod_eq_emod_of_nonneg (by omega)]; norm_cast
      have HY := hid (show Y = id / 2 ^ (18 + m) by rw [hM]; exact hY)
      rw [hM]
      have HM := hid hM
      obtain ⟨hM3, hM4⟩ := hM2
      clear hY hv hi11 hM
      go_wp2
      go_roundg (0 + m)
      case measure => omega
      case rel => exact ⟨m, K * 2 + Y % 2, (M : Int) - 1, by omega, rfl, congrArg (Value.int .u32) (by omega), rfl, by have := HM.out; omega, by rw [bit_round18 hm HK.out HY.out]; exact bits_lt _ _ 11 (by omega), hid (bit_round18 hm HK.out HY.out), rfl⟩

theorem refKey_any (w : World) (id : Nat) (ext rem : Bool) (dlc : Nat) (a : Option Addr) (n c : Nat) (hi : id < 4294967296) :
    Calls Try.prog 15 #[.agg #[.int .u32 (id : Int), .bool ext, .bool rem, .int .u8 (dlc : Int), .slice a n c]] w fun e w' => e = .returned (.int .u32 (keyF id ext rem : Int)) ∧ Below w.heap.size w w' := by
  cases ext
  · exact refKey_base w id rem dlc a n c hi
  · exact refKey_ext w id rem dlc a n c hi
end Go.Proofs.Ytffbkcjkmhjfnaa
