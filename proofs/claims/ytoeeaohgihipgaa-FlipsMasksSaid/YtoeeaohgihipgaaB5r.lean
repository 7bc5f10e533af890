/-
  Contracts: the library's count of bits.
-/
import Derived.Test.YtoeeaohgihipgaaB5q
import Derived.Lib.BitFns
namespace Go.Proofs.Ytoeeaohgihipgaa
open Go.RowKit Go.Sort
set_option linter.unusedVariables false

/-- How many bits of a number below 2^32 are set. -/
def popN (m : Nat) : Nat := (List.range 32).countP m.testBit
def popB (m : Nat) : Nat := (List.range 8).countP m.testBit

theorem pop8_byte : ∀ n : Fin 256, Lib.pop8 (n.val : Int) = (popB n.val : Int) := by decide +kernel
theorem popB_le (m : Nat) : popB m ≤ 8 := by
  have := List.countP_le_length (p := m.testBit) (l := List.range 8)
  simpa [popB] using this

theorem popB_shift (m k : Nat) : (List.range 8).countP (fun j => m.testBit (j + k)) = popB (m / 2 ^ k % 256) := by
  unfold popB
  refine List.countP_congr fun j hj => ?_
  have hj8 : j < 8 := by simpa using hj
  rw [show (256 : Nat) = 2 ^ 8 from rfl, Nat.testBit_mod_two_pow, ← Nat.shiftRight_eq_div_pow, Nat.testBit_shiftRight]
  simp [hj8, Nat.add_comm]

theorem popN_split (m : Nat) : popN m = popB (m % 256) + popB (m / 256 % 256) + popB (m / 65536 % 256) + popB (m / 16777216 % 256) := by
  have e : List.range 32 = List.range 8 ++ (List.range 8).map (· + 8) ++ (List.range 8).map (· + 16) ++ (List.range 8).map (· + 24) := by decide
  unfold popN
  rw [e, List.countP_append, List.countP_append, List.countP_append, List.countP_map, List.countP_map, List.countP_map]
  have h0 := popB_shift m 0
  have h1 := popB_shift m 8
  have h2 := popB_shift m 16
  have h3 := popB_shift m 24
  simp only [Nat.pow_zero, Nat.div_one, Nat.add_zero] at h0
  rw [show (2 : Nat) ^ 8 = 256 from rfl] at h1
  rw [show (2 : Nat) ^ 16 = 65536 from rfl] at h2
  rw [show (2 : Nat) ^ 24 = 16777216 from rfl] at h3
  rw [← h0, ← h1, ← h2, ← h3]
  rfl

set_option maxHeartbeats 1000000 in
theorem ones_any (w : World) (m : Nat) (hm : m < 4294967296) : Calls Try.prog 23 #[.int .u32 (m : Int)] w fun e w' => e = .returned (.int .i64 (popN m : Int)) ∧ Below w.heap.size w w' := by
  have hsp := popN_split m
  have pb : ∀ b : Nat, b < 256 → Lib.pop8 (b : Int) = (popB b : Int) := fun b hb => pop8_byte ⟨b, hb⟩
  have an : ∀ q : Nat, q < 4294967296 → bits BinOp.and IntKind.u32 (q : Int) 255 = ((q % 256 : Nat) : Int) := fun q hq => by
    rw [show (255 : Int) = ((255 : Nat) : Int) from rfl, (u32_bits q 255 hq (by omega)).1, show (255 : Nat) = 2 ^ 8 - 1 from rfl, Nat.and_two_pow_sub_one_eq_mod]
  obtain ⟨q1, hq1⟩ : ∃ q, q = m / 256 := ⟨_, rfl⟩
  obtain ⟨q2, hq2⟩ : ∃ q, q = m / 65536 := ⟨_, rfl⟩
  obtain ⟨b3, hb3⟩ : ∃ q, q = m / 16777216 % 256 := ⟨_, rfl⟩
  have e1 : (m : Int) / 256 = (q1 : Int) := by omega
  have e2 : (m : Int) / 65536 = (q2 : Int) := by omega
  have e3 : (m : Int) / 16777216 = (b3 : Int) := by omega
  have l1 : q1 < 4294967296 := by omega
  have l2 : q2 < 4294967296 := by omega
  have c3 : b3 < 256 := by omega
  rw [← hq1, ← hq2, ← hb3] at hsp
  clear hq1 hq2 hb3
  obtain ⟨b0, hb0⟩ : ∃ q, q = m % 256 := ⟨_, rfl⟩
  obtain ⟨b1, hb1⟩ : ∃ q, q = q1 % 256 := ⟨_, rfl⟩
  obtain ⟨b2, hb2⟩ : ∃ q, q = q2 % 256 := ⟨_, rfl⟩
  have a0 := an m hm
  have a1 := an q1 l1
  have a2 := an q2 l2
  have c0 : b0 < 256 := by omega
  have c1 : b1 < 256 := by omega
  have c2 : b2 < 256 := by omega
  rw [← hb0] at a0 hsp
  rw [← hb1] at a1 hsp
  rw [← hb2] at a2 hsp
  clear hb0 hb1 hb2 an
  have f0 := pb b0 c0
  have f1 := pb b1 c1
  have f2 := pb b2 c2
  have f3 := pb b3 c3
  have g0 := popB_le b0
  have g1 := popB_le b1
  have g2 := popB_le b2
  have g3 := popB_le b3
  clear pb
  generalize popB b0 = p0 at *
  generalize popB b1 = p1 at *
  generalize popB b2 = p2 at *
  generalize popB b3 = p3 at *
  have w1 : IntKind.u8.wrap ((p3 : Int) + (p2 : Int)) = (p3 : Int) + (p2 : Int) := IntWalk.u8_in _ (by omega)
  have w2 : IntKind.u8.wrap ((p3 : Int) + (p2 : Int) + (p1 : Int)) = (p3 : Int) + (p2 : Int) + (p1 : Int) := IntWalk.u8_in _ (by omega)
  have w3 : IntKind.u8.wrap ((p3 : Int) + (p2 : Int) + (p1 : Int) + (p0 : Int)) = (p3 : Int) + (p2 : Int) + (p1 : Int) + (p0 : Int) := IntWalk.u8_in _ (by omega)
  have w4 : IntKind.i64.wrap ((p3 : Int) + (p2 : Int) + (p1 : Int) + (p0 : Int)) = (p3 : Int) + (p2 : Int) + (p1 : Int) + (p0 : Int) := IntWalk.i64_in _ (by omega)
  have HE := hid (show (p3 : Int) + (p2 : Int) + (p1 : Int) + (p0 : Int) = (popN m : Int) by omega)
  clear hsp
  have d0 : (b0 : Int) ≤ 255 := by omega
  have d1 : (b1 : Int) ≤ 255 := by omega
  have d2 : (b2 : Int) ≤ 255 := by omega
  have d3 : (b3 : Int) ≤ 255 := by omega
  go_enter Try.func23, Try.ntmps23
  go_wp2
  refine wp_region_quiet_lit (by kernel_rfl) (by kernel_rfl) ?_
  repeat (go_big_quiet_step (fail))
  refine wpQuiet_nil ?_
  intro _ hw'
  obtain ⟨nq, hw''⟩ := hw'
  subst hw''
  go_wp2
  go_ret
  exact ⟨ret_int HE.out, below_drewN (Below.refl _ _) _⟩
end Go.Proofs.Ytoeeaohgihipgaa
