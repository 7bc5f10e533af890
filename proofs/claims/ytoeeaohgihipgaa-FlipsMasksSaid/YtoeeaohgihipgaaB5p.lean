/-
  Contracts: the program's Make, and the statements' own making of right lists.
-/
import Derived.Test.YtoeeaohgihipgaaB5o
namespace Go.Proofs.Ytoeeaohgihipgaa
open Go.RowKit Go.Sort
set_option linter.unusedVariables false

theorem make_any (w : World) (a : Option Addr) (n c : Nat) (l : List Fl) (h : RK fe 2 w a n c l) (hn : n ≤ 100000) :
    Calls Try.prog 9 #[.slice a n c] w fun e w' => ∃ a' m c', e = .returned (.tuple #[.slice a' m c', .int .i64 (mkE l)]) ∧ OK fe 2 38 w.heap.size w' a' m c' (mkO l) ∧ Below w.heap.size w w' := by
  have HLN := hid h.len
  have hca := all_any w a n c l h (by omega)
  unfold mkE mkO
  cases hall : l.all isF
  · rw [hall] at hca
    clear hall
    go_enter Try.func9, Try.ntmps9
    go_wp2_with (first | (go_at_call 24; with_reducible refine hca.mono ?_; rintro e w1 ⟨rfl, g1⟩))
    go_ret2
    exact ⟨none, 0, 0, rfl, OK.nil _ _ _ _ _, g1⟩
  · rw [hall] at hca
    clear hall
    have hml : (mkL l).length ≤ 100000 := by have := mkL_length l; rw [HLN.out] at this; omega
    go_enter Try.func9, Try.ntmps9
    go_wp2_with (first | (go_at_call 24; with_reducible refine hca.mono ?_; rintro e w1 ⟨rfl, g1⟩) | (go_at_call 25; with_reducible refine (bySteps_any _).mono ?_; rintro e w2 ⟨rfl, g2⟩; have gg2 := bstep g1 g2) | (go_at_call 26; with_reducible refine (odd_any w2 a n c l (h.below gg2) (by omega)).mono ?_; rintro e w3 ⟨a3, m3, c3, rfl, ho3, g3⟩; have hm3 : (m3 : Int) ≤ 100000 := (by have := ho3.len; omega)))
    go_ret2
    exact ⟨a3, m3, c3, rfl, ho3.mono gg2.size, bstep gg2 g3⟩

/-- A flip of whatever two numbers. -/
def norm (x : Fl) : Fl := (x.1 % 1099511627776, x.2 % 32)

theorem isF_norm (x : Fl) : isF (norm x) = true := by
  rw [isF_iff]; unfold norm; simp only; omega

/-- Lists that the statements make. -/
structure MadeP (m : List Fl) : Prop where
  len : m.length ≤ 150
  sor : Sor m
  all : AllF m
  top : ∀ x ∈ m, x.1 < 1099511627776

theorem MadeP.right {m : List Fl} (h : MadeP m) : RightP m := ⟨by have := h.len; omega, h.all, h.sor⟩

theorem MadeP.bnd {m : List Fl} (h : MadeP m) : ∀ z ∈ m, 0 ≤ z.1 ∧ z.1 < 1099511627776 := fun z hz => by
  have h1 := h.all
  unfold AllF at h1
  exact ⟨((isF_iff z).1 (h1 z hz)).1, h.top z hz⟩

theorem and40 (s : Int) : bits BinOp.and IntKind.i64 s 1099511627775 = s % 1099511627776 := by
  have e1 : (BitVec.ofInt 64 s &&& BitVec.ofInt 64 1099511627775).toNat = (s % 18446744073709551616).toNat % 1099511627776 := by
    rw [BitVec.toNat_and, BitVec.toNat_ofInt, BitVec.toNat_ofInt]
    have e2 : ((1099511627775 : Int) % ((2 ^ 64 : Nat) : Int)).toNat = 2 ^ 40 - 1 := by decide
    rw [e2, Nat.and_two_pow_sub_one_eq_mod]
    rfl
  show IntKind.i64.wrap ((BitVec.ofInt 64 s &&& BitVec.ofInt 64 1099511627775).toNat : Int) = _
  rw [e1, IntWalk.i64_in _ (by omega)]
  omega
theorem and5 (u : Nat) (h : u < 256) : bits BinOp.and IntKind.u8 (u : Int) 31 = ((u % 32 : Nat) : Int) := by
  rw [show (31 : Int) = ((31 : Nat) : Int) from rfl, (u8_bits u 31 h (by decide)).1, Nat.and_two_pow_sub_one_eq_mod u 5]

theorem norm_more {l : List Fl} {k : Nat} {x : Fl} (hx : l[k]? = some x) : (l.take (k + 1)).map norm = (l.take k).map norm ++ [norm x] := by
  rw [take_more hx, List.map_append]; rfl

theorem allF_map_norm (l : List Fl) : (l.map norm).all isF = true := by
  rw [List.all_eq_true]
  intro x hx
  obtain ⟨y, _, rfl⟩ := List.mem_map.1 hx
  exact isF_norm y

theorem madeP (l : List Fl) (h : l.length ≤ 150) : MadeP (mkO (l.map norm)) := by
  unfold mkO
  rw [if_pos (allF_map_norm l)]
  refine ⟨?_, sor_mkL _, fun x hx => ?_, fun x hx => ?_⟩
  · have := mkL_length (l.map norm)
    rw [List.length_map] at this
    omega
  · obtain ⟨y, _, rfl⟩ := List.mem_map.1 (mem_of_mkL hx)
    exact isF_norm y
  · obtain ⟨y, _, rfl⟩ := List.mem_map.1 (mem_of_mkL hx)
    unfold norm; simp only; omega

set_option maxHeartbeats 1000000 in
theorem made_any (w : World) (a : Option Addr) (n c : Nat) (l : List Fl) (h : RK fe 2 w a n c l) (hn : n ≤ 9223372036854775807) (hu : ∀ x ∈ l, x.2 < 256) :
    Calls Try.prog 22 #[.slice a n c] w fun e w' => ∃ a' m c' out, e = .returned (.slice a' m c') ∧ OK fe 2 38 w.heap.size w' a' m c' out ∧ MadeP out ∧ Below w.heap.size w w' := by
  have HU := hid hu; clear hu
  have HLN := hid h.len
  obtain ⟨N, hN⟩ : ∃ N, N = min n 150 := ⟨_, rfl⟩
  have hN1 : N ≤ n := by omega
  have hN2 : N ≤ 150 := by omega
  have hmn : ∀ ts t w', (Builtin.min_ ts t #[.int .i64 (n : Int), .int .i64 150]).run Try.prog w' = .ok (.int .i64 (N : Int)) w' := fun ts t w' => by
    rw [run_min_int2]; congr 2; split <;> omega
  clear hN
  go_enter Try.func22, Try.ntmps22
  go_wp2_with (first | (with_reducible refine wpList_cutToK (enc := fe) tF rfl _ _ rfl _ _ N rfl rfl rfl h hN1 ?_; intro a1 hr1))
  clear hmn
  have hr0 := hr1
  go_loopg [3, 14] N (fun gn v vi wr => ∃ (k : Nat) (a' : Option Addr) (c' : Nat), k ≤ N ∧ gn = N - k ∧ vi = .int .i64 (k : Int) ∧ v = .slice a' k c' ∧ RB w wr a' k c' (((l.take N).take k).map norm))
  case atStart => exact ⟨0, none, 0, by omega, by omega, rfl, rfl, by simpa using RB.start w⟩
  case round =>
    obtain ⟨k, a', c', hk, rfl, rfl, rfl, hR⟩ := hrel
    by_cases hlt : k < N
    · obtain ⟨b, off, s, u, rfl, hx, hbk, hc0, hc1⟩ := rf_at (hr1.below hR.bel) hlt
      have hu1 : u < 256 := HU.out (s, u) (List.mem_of_mem_take (List.mem_of_getElem? hx))
      have HM := norm_more hx
      clear hx
      have e1 := and40 s
      have e2 := and5 u hu1
      unfold norm at HM
      simp only at HM
      obtain ⟨s2, hs2⟩ : ∃ s2, s2 = s % 1099511627776 := ⟨_, rfl⟩
      obtain ⟨u2, hu2⟩ : ∃ u2, u2 = u % 32 := ⟨_, rfl⟩
      rw [← hs2] at e1 HM
      rw [← hu2] at e2 HM
      have HM := hid HM
      clear hs2 hu2
      have hR1 := hR.alloc (.cells #[.int .i64 s, .int .u8 (u : Int)] 38)
      have hlit := lit2F wr s2 u2 (o := .cells #[.int .i64 s, .int .u8 (u : Int)] 38)
      have hsz := hR.sz
      go_wp2_with (at_builtin; refine wpList_appK (enc := fe) tF eF rfl _ _ rfl rfl (hR1.own.alloc _) rfl hlit (by omega) (by omega) (by simp; omega) ?_; intro w10 a10 c10 hol10 hb10)
      go_roundg (N - (k + 1))
      case measure => omega
      case rel => exact ⟨k + 1, a10, c10, by omega, rfl, by go_num, by go_num, (hR1.alloc _).app (by have := HM.out; unfold norm; rw [this]; exact hol10) hb10⟩
    · obtain rfl : k = N := by omega
      rw [List.take_of_length_le (by rw [List.length_take]; omega)] at hR
      have HP := hid (madeP (l.take k) (by rw [List.length_take]; omega))
      have hmk := make_any wr a' k c' _ hR.rk (by omega)
      go_wp2_with (first | (go_at_call 9; with_reducible refine hmk.mono ?_; rintro e w3 ⟨a3, m3, c3, rfl, ho3, g3⟩))
      go_ret
      exact ⟨a3, m3, c3, _, rfl, ho3.mono hR.sz, HP.out, (hR.call g3).bel⟩
end Go.Proofs.Ytoeeaohgihipgaa
