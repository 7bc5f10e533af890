/-
  The library's math/bits.Len, as it stands in this program; its random numbers, and what it does against patterns in a row: whatever they are, numbers of the range are exchanged.
-/
import Derived.Test.YtmaklneiedljjaaSr6
import Derived.Sort.Walk7a
import Derived.Sort.LotD1
import Derived.Shelf.Small.Bits
import Derived.Laws.BitsAllLaws
namespace Go.Proofs.Ytmaklneiedljjaa
open Go.RowKit Go.Sort Go.Shelf
set_option linter.unusedVariables false

def Try.len_ren : Go.Shelf.Ren := ⟨fun | 125 => 36 | 128 => 46 | 129 => 47 | n => n, fun | 3 => 3 | 4 => 4 | 5 => 5 | 9 => 9 | 46 => 56 | 51 => 23 | 53 => 69 | n => n, fun | n => n⟩
theorem Try.len_lay : Lays.n125 Try.prog Try.len_ren := {
  mixed := by kernel_rfl,
  f125 := Try.func36.trans (congrArg some (by kernel_rfl)),
  f128 := Try.func46.trans (congrArg some (by kernel_rfl)),
  f129 := Try.func47.trans (congrArg some (by kernel_rfl)),
  t3 := Try.underlying3, a3 := Try.isAgg3, z3 := Try.sizeOf3, v3 := Try.zeroValue3,
  t4 := Try.underlying4, a4 := Try.isAgg4, z4 := Try.sizeOf4, v4 := Try.zeroValue4,
  t5 := Try.underlying5, a5 := Try.isAgg5, z5 := Try.sizeOf5, v5 := Try.zeroValue5,
  t9 := Try.underlying9, a9 := Try.isAgg9, z9 := Try.sizeOf9, v9 := Try.zeroValue9,
  t46 := Try.underlying56, a46 := Try.isAgg56, z46 := Try.sizeOf56, v46 := Try.zeroValue56,
  t51 := Try.underlying23, a51 := Try.isAgg23, z51 := Try.sizeOf23, v51 := Try.zeroValue23,
  t53 := Try.underlying69, a53 := Try.isAgg69, z53 := Try.sizeOf69, v53 := Try.zeroValue69 }

theorem bitsLen_any (n : Nat) (hn : n ≤ 1000000) (w : World) : Calls Try.prog 36 #[.int .u64 (n : Int)] w fun e w' => e = .returned (.int .i64 (bitsLen n : Nat)) ∧ w' = w := by
  have h := Any.bits_Len Try.len_lay (n : Int) w (by omega) (by omega)
  rw [Int.toNat_natCast, bitLen_eq _ (by omega)] at h
  exact h

theorem nextPow_any (n : Nat) (hn : n ≤ 1000000) (w : World) : Calls Try.prog 49 #[.int .i64 (n : Int)] w fun e w' => e = .returned (.int .u64 ((2 ^ bitsLen n : Nat) : Int)) ∧ w' = w := by
  have hk : bitsLen n ≤ 20 := (bitsLen_le_iff n 20).2 (by omega)
  have hp := wrap_two_pow (bitsLen n) (by omega)
  rw [Nat.one_shiftLeft] at hp
  have hs : Op.shift .shl .u64 1 .i64 (bitsLen n : Nat) = pure (.int .u64 ((2 ^ bitsLen n : Nat) : Int)) := by
    rw [shift_shl .u64 .i64 1 _ (by omega) (by show ((bitsLen n : Nat) : Int) ≤ 64; omega), Int.one_mul, Int.toNat_natCast, hp]
  have hL := hid (fun w => bitsLen_any n hn w)
  generalize 2 ^ bitsLen n = p at *
  generalize bitsLen n = k at *
  go_enter Try.func49, Try.ntmps49
  go_wp2_with (first | (go_at_call 36; refine (hL.out _).mono ?_; rintro e w' ⟨rfl, rfl⟩))
  go_ret
  exact ⟨rfl, rfl⟩

theorem xor64 (a b : Nat) (ha : a < 18446744073709551616) (hb : b < 18446744073709551616) : ∃ c : Nat, c < 18446744073709551616 ∧ bits .xor .u64 (a : Int) (b : Int) = (c : Int) :=
  ⟨a ^^^ b, Nat.xor_lt_two_pow (n := 64) (by simpa using ha) (by simpa using hb), u64_xor_nat a b ha hb⟩
theorem shl64 (a q : Int) : ∃ c : Nat, c < 18446744073709551616 ∧ IntKind.u64.wrap (a * q) = (c : Int) := by
  refine ⟨(IntKind.u64.wrap (a * q)).toNat, ?_, ?_⟩
  · rw [IntKind.wrap_u64]; omega
  · rw [Int.toNat_of_nonneg (by rw [IntKind.wrap_u64]; omega)]
theorem shr64 (a : Nat) (ha : a < 18446744073709551616) : ∃ c : Nat, c < 18446744073709551616 ∧ (a : Int) / 128 = (c : Int) := ⟨a / 128, by omega, by omega⟩

set_option maxHeartbeats 2000000 in
theorem next_any (sb r : Nat) (w : World) (hr : r < 18446744073709551616) (hb : w.heap[sb]? = some (.cells #[.int .u64 (r : Int)] 70 (0, 0))) :
    Calls Try.prog 50 #[.pointer (some ⟨sb, 0, none⟩)] w fun e w' => ∃ v : Nat, v < 18446744073709551616 ∧ e = .returned (.int .u64 (v : Int)) ∧ w'.heap[sb]? = some (.cells #[.int .u64 (v : Int)] 70 (0, 0)) ∧ Wr sb w w' := by
  obtain ⟨s1, l1, e1⟩ := shl64 r 8192
  obtain ⟨r1, h1, x1⟩ := xor64 r s1 hr l1
  obtain ⟨s2, l2, e2⟩ := shr64 r1 h1
  obtain ⟨r2, h2, x2⟩ := xor64 r1 s2 h1 l2
  obtain ⟨s3, l3, e3⟩ := shl64 r2 131072
  obtain ⟨r3, h3, x3⟩ := xor64 r2 s3 h2 l3
  obtain ⟨b1, b2⟩ := box1 hb
  have HB := hid hb; clear hb
  go_enter Try.func50, Try.ntmps50
  go_wp2
  go_region
  all_goals
    have c1 : ((w.setCell ⟨sb, 0, none⟩ (.int .u64 (r1 : Int))).drew).heap[sb]? = some (.cells #[.int .u64 (r1 : Int)] 70 (0, 0)) := heap_setCell_same w sb 0 _ _ (.int .u64 (r1 : Int)) HB.out
    have k1 := ((Wr.refl sb w).setCell (p := ⟨sb, 0, none⟩) (.inl rfl) (.int .u64 (r1 : Int))).drew
    obtain ⟨b3, b4⟩ := box1 c1
    have C1 := hid c1; clear c1 b1 b2
    generalize (w.setCell ⟨sb, 0, none⟩ (.int .u64 (r1 : Int))).drew = w1 at *
    go_wp2
    go_region
    all_goals
      have c2 : ((w1.setCell ⟨sb, 0, none⟩ (.int .u64 (r2 : Int))).drew).heap[sb]? = some (.cells #[.int .u64 (r2 : Int)] 70 (0, 0)) := heap_setCell_same w1 sb 0 _ _ (.int .u64 (r2 : Int)) C1.out
      have k2 := k1.trans ((Wr.refl sb w1).setCell (p := ⟨sb, 0, none⟩) (.inl rfl) (.int .u64 (r2 : Int))).drew
      obtain ⟨b5, b6⟩ := box1 c2
      have C2 := hid c2; clear c2 b3 b4
      generalize (w1.setCell ⟨sb, 0, none⟩ (.int .u64 (r2 : Int))).drew = w2 at *
      go_wp2
      go_region
      all_goals
        have c3 : ((w2.setCell ⟨sb, 0, none⟩ (.int .u64 (r3 : Int))).drew).heap[sb]? = some (.cells #[.int .u64 (r3 : Int)] 70 (0, 0)) := heap_setCell_same w2 sb 0 _ _ (.int .u64 (r3 : Int)) C2.out
        have k3 := k2.trans ((Wr.refl sb w2).setCell (p := ⟨sb, 0, none⟩) (.inl rfl) (.int .u64 (r3 : Int))).drew
        obtain ⟨b7, b8⟩ := box1 c3
        have C3 := hid c3; clear c3 b5 b6
        generalize (w2.setCell ⟨sb, 0, none⟩ (.int .u64 (r3 : Int))).drew = w3 at *
        go_wp2
        go_ret
        exact ⟨r3, h3, rfl, C3.out, k3⟩
end Go.Proofs.Ytmaklneiedljjaa
