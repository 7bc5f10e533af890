/-
  Slices of bytes of the statements of layer 6; events by number, one by one.
-/
import Derived.Test.YtmdjofhkkkfehaaB6i
import Derived.Test.YtmdjofhkkkfehaaM6b
namespace Go.Proofs.Ytmdjofhkkkfehaa
open Go.RowKit Go.Sort
set_option linter.unusedVariables false

theorem tY : ElT Try.prog 40 5 (.int .u8 0) 1 := ⟨by kernel_rfl, by kernel_rfl, by kernel_rfl, by kernel_rfl, by kernel_rfl⟩

theorem bc_zero {w : World} {g : Nat} {T R : Int} (h : Bc w g ⟨T, R, false, 0, 0⟩) (hT : T = 0) (hR : R = 0) : Bc w g ⟨0, 0, false, 0, 0⟩ := by
  subst hT hR; exact h

/-- A byte of a slice, where the walk loads it. -/
theorem byte_at {w : World} {a : Option Addr} {n c : Nat} {l : List UInt8} (h : RL bv w a n c l) {k : Nat} (hk : k < n) :
    ∃ b off u, a = some ⟨b, off, none⟩ ∧ (∃ x, l[k]? = some x ∧ u = x.toNat) ∧ u < 256 ∧ w.cell? ⟨b, off + k, none⟩ = some (.int .u8 (u : Int)) := by
  obtain ⟨b, off, x, ha, hx, hc⟩ := h.at hk
  exact ⟨b, off, x.toNat, ha, ⟨x, hx, rfl⟩, x.toNat_lt, hc⟩

theorem cnt1 (T R : Int) (h0 : 0 ≤ T) (h1 : T ≤ 255) (h2 : 0 ≤ R) (h3 : R < 255) (w : World) : Calls Try.prog 10 #[.agg #[.int .i64 T, .int .i64 R, .bool false, .int .i64 0, .int .i64 0], .int .u8 1] w fun e w' => e = .returned (.tuple #[.agg #[.int .i64 T, .int .i64 (R + 1), .bool false, .int .i64 0, .int .i64 0], .int .i64 0]) ∧ Below w.heap.size w w' := by
  have hr : riC ⟨T, R, false, 0, 0⟩ = true := ri_mk (by omega) (by omega) (by omega) (by omega)
  refine event_at (k := 1) (by omega) ?_ (ee_ok hr (by omega)) w
  rw [ev_on hr (by omega), te_rec (by omega), show reA R 1 = R + 1 by simp [reA]; omega, show decide (T > 255) = false by simp; omega]

theorem cnt9 (T R R' : Int) (h0 : 0 ≤ T) (h1 : T ≤ 255) (h2 : 0 ≤ R) (h3 : R ≤ 127) (hR : R' = max (R - 1) 0) (w : World) : Calls Try.prog 10 #[.agg #[.int .i64 T, .int .i64 R, .bool false, .int .i64 0, .int .i64 0], .int .u8 9] w fun e w' => e = .returned (.tuple #[.agg #[.int .i64 T, .int .i64 R', .bool false, .int .i64 0, .int .i64 0], .int .i64 0]) ∧ Below w.heap.size w w' := by
  have hr : riC ⟨T, R, false, 0, 0⟩ = true := ri_mk (by omega) (by omega) (by omega) (by omega)
  refine event_at (k := 9) (by omega) ?_ (ee_ok hr (by omega)) w
  rw [ev_on hr (by omega), te_rec (by omega), show reA R 9 = R' by simp [reA]; omega, show decide (T > 255) = false by simp; omega]

theorem cnt5 (T R : Int) (h0 : 0 ≤ T) (h1 : T + 8 ≤ 255) (h2 : 0 ≤ R) (h3 : R ≤ 255) (w : World) : Calls Try.prog 10 #[.agg #[.int .i64 T, .int .i64 R, .bool false, .int .i64 0, .int .i64 0], .int .u8 5] w fun e w' => e = .returned (.tuple #[.agg #[.int .i64 (T + 8), .int .i64 R, .bool false, .int .i64 0, .int .i64 0], .int .i64 0]) ∧ Below w.heap.size w w' := by
  have hr : riC ⟨T, R, false, 0, 0⟩ = true := ri_mk (by omega) (by omega) (by omega) (by omega)
  refine event_at (k := 5) (by omega) ?_ (ee_ok hr (by omega)) w
  rw [ev_on hr (by omega), re_snd (by omega), show teA T 5 = T + 8 by simp [teA], show decide (T + 8 > 255) = false by simp; omega]

theorem cnt8 (T R T' : Int) (h0 : 0 ≤ T) (h1 : T ≤ 255) (h2 : 0 ≤ R) (h3 : R ≤ 255) (hT : T' = max (T - 1) 0) (w : World) : Calls Try.prog 10 #[.agg #[.int .i64 T, .int .i64 R, .bool false, .int .i64 0, .int .i64 0], .int .u8 8] w fun e w' => e = .returned (.tuple #[.agg #[.int .i64 T', .int .i64 R, .bool false, .int .i64 0, .int .i64 0], .int .i64 0]) ∧ Below w.heap.size w w' := by
  have hr : riC ⟨T, R, false, 0, 0⟩ = true := ri_mk (by omega) (by omega) (by omega) (by omega)
  refine event_at (k := 8) (by omega) ?_ (ee_ok hr (by omega)) w
  rw [ev_on hr (by omega), re_snd (by omega), show teA T 8 = T' by simp [teA]; omega, show decide (T' > 255) = false by simp; omega]

end Go.Proofs.Ytmdjofhkkkfehaa
