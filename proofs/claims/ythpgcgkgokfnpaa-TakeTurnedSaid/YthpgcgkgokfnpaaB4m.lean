/-
  Contracts of Head (the program's).
-/
import Derived.Test.YthpgcgkgokfnpaaB4c
import Derived.Test.YthpgcgkgokfnpaaB4k
import Derived.Test.YthpgcgkgokfnpaaB4l
namespace Go.Proofs.Ythpgcgkgokfnpaa
open Go.RowKit Go.Sort
set_option linter.unusedVariables false

/-- The frame, without data, of a head. -/
def reF (l : List Bool) : Fr :=
  if l[13]?.getD false then ⟨numL ((l.drop 1).take 11) * 262144 + numL ((l.drop 14).take 18), true, l[32]?.getD false, numL ((l.drop 35).take 4), []⟩
  else ⟨numL ((l.drop 1).take 11), false, l[12]?.getD false, numL ((l.drop 15).take 4), []⟩

/-- How many bits its head has. -/
def heM (l : List Bool) : Nat := if l[13]?.getD false then 39 else 19
/-- Whether the head is there. -/
def hdK (l : List Bool) : Bool := decide (19 ≤ l.length) && (!(l[13]?.getD false) || decide (39 ≤ l.length))
/-- How many bits its body has. -/
def hdN (l : List Bool) : Nat := heM l + 8 * lonF (reF l).rem (reF l).dlc + 15

theorem lonF_le (rem : Bool) (dlc : Nat) : lonF rem dlc ≤ 8 := by unfold lonF; split <;> omega
theorem numL_take_lt (l : List Bool) (k : Nat) : numL (l.take k) < 2 ^ k := Nat.lt_of_lt_of_le (numL_lt _) (Nat.pow_le_pow_right (n := 2) (by decide) (by rw [List.length_take]; omega))
theorem reF_lt (l : List Bool) : (reF l).id < 4294967296 ∧ (reF l).dlc < 16 := by
  have h1 := numL_take_lt (l.drop 1) 11
  have h2 := numL_take_lt (l.drop 14) 18
  have h3 := numL_take_lt (l.drop 35) 4
  have h4 := numL_take_lt (l.drop 15) 4
  unfold reF; split <;> constructor <;> dsimp only <;> omega

theorem fields_any (w0 w : World) (g : Nat) (l : List Bool) (hg : w0.heap.size ≤ g) (hgw : g < w.heap.size) (hb : Below w0.heap.size w0 w) (hr : Rw w0 w g l) (hk : hdK l = true) :
    Calls Try.prog 50 #[.func (.func 49) #[.pointer (some ⟨g, 0, none⟩)] #[]] w fun e w' => e = .returned (.agg #[.int .u32 ((reF l).id : Int), .bool (reF l).ext, .bool (reF l).rem, .int .u8 ((reF l).dlc : Int), .slice none 0 0]) ∧ Rw w0 w' g (l.drop (heM l)) ∧ w.grownBy w' (some g) := by
  unfold hdK at hk
  simp only [Bool.and_eq_true, decide_eq_true_eq, Bool.or_eq_true, Bool.not_eq_true'] at hk
  obtain ⟨h19, hk⟩ := hk
  obtain ⟨x, hx⟩ : ∃ x, l[13]? = some x := ⟨l[13], by simp⟩
  unfold reF heM
  rw [hx] at hk ⊢
  cases x
  · exact fields_base w0 w g l hg hgw hb hr h19 hx
  · simp at hk
    exact fields_ext w0 w g l hg hgw hb hr hk hx

theorem fhead_none (w : World) (a : Option Addr) (n c : Nat) (l : List Bool) (h : RL .bool w a n c l) (hn : n ≤ 9223372036854775807) (hk : hdK l = false) :
    Calls Try.prog 47 #[.slice a n c] w fun e w' => e = .returned (.tuple #[.int .i64 0, .bool false]) ∧ Below w.heap.size w w' := by
  unfold hdK at hk
  rw [h.len] at hk
  by_cases h13 : n ≤ 13
  · go_enter Try.func47, Try.ntmps47
    go_wp2
    go_ret2
    exact ⟨rfl, Below.refl _ _⟩
  · obtain ⟨b, off, x, rfl, hx, hck⟩ := h.at (k := 13) (by omega)
    rw [hx] at hk
    clear hx
    have i1 : 13 < n := by omega
    cases x
    · simp at hk
      go_enter Try.func47, Try.ntmps47
      go_wp2
      go_ret2
      exact ⟨rfl, Below.refl _ _⟩
    · simp at hk
      have i2 : n < 39 := by omega
      go_enter Try.func47, Try.ntmps47
      go_wp2
      go_ret2
      exact ⟨rfl, Below.refl _ _⟩

theorem fhead_any (w : World) (a : Option Addr) (n c : Nat) (l : List Bool) (h : RL .bool w a n c l) (hn : n ≤ 9223372036854775807) (hk : hdK l = true) :
    Calls Try.prog 47 #[.slice a n c] w fun e w' => e = .returned (.tuple #[.int .i64 (hdN l : Int), .bool true]) ∧ Below w.heap.size w w' := by
  have hmf : ∀ (fn : Fn) (first cap : Array Value) (w : World), (Instr.makeFunc fn first cap).run Try.prog w = .ok (.func fn first cap) w := fun _ _ _ _ => rfl
  have hg1 : w.heap.size < (w.alloc (.cells #[.slice a n c] 77)).heap.size := by simp
  have hrw : Rw w (w.alloc (.cells #[.slice a n c] 77)) w.heap.size l := ⟨a, n, c, heap_alloc_new w _, h⟩
  have hf := fields_any w _ _ l (Nat.le_refl _) hg1 (bnew0 w _) hrw hk
  obtain ⟨q1, q2⟩ := reF_lt l
  obtain ⟨q, hq⟩ : ∃ q, q = lonF (reF l).rem (reF l).dlc := ⟨_, rfl⟩
  have hlo := fun w0 => frLong_any w0 (reF l).id (reF l).ext (reF l).rem (reF l).dlc none 0 0 (by omega)
  have hq8 := lonF_le (reF l).rem (reF l).dlc
  rw [← hq] at hlo hq8
  have HQ : Hid (hdN l = heM l + 8 * q + 15) := by show _ = _; rw [hq]; rfl
  rw [HQ.out]
  clear hq
  obtain ⟨fr, hfr⟩ : ∃ fr, fr = reF l := ⟨_, rfl⟩
  rw [← hfr] at hf hlo
  obtain ⟨id, ext, rem, dlc, dat⟩ := fr
  dsimp only at hf hlo
  clear hfr q1 q2 hrw HQ
  unfold hdK at hk
  unfold heM at hf ⊢
  rw [h.len] at hk
  have h19 : 19 ≤ n := by simp at hk; omega
  obtain ⟨b, off, x, rfl, hx, hck⟩ := h.at (k := 13) (by omega)
  rw [hx] at hk hf ⊢
  clear hx
  cases x
  all_goals
    simp only [Option.getD_some, Bool.false_eq_true, if_false, if_true, Bool.not_true, Bool.false_or, Bool.and_eq_true, decide_eq_true_eq] at hk hf ⊢
    (first | (have h39 := hk.2) | skip)
    clear hk
    go_enter Try.func47, Try.ntmps47
    go_wp2_with (first
      | (go_at_call 50; (with_reducible refine hf.mono ?_); rintro e w2 ⟨rfl, -, g2⟩; have gg2 : Below w.heap.size w w2 := (bnew0 w _).grown g2 (Nat.le_of_lt hg1) (fun q hq => by simp at hq; omega))
      | (go_at_call 51; (with_reducible refine (hlo w2).mono ?_); rintro e w3 ⟨rfl, g3⟩; have gg3 := bstep gg2 g3))
    go_ret2
    exact ⟨by first | rfl | (congr 4; done) | (congr 4; push_cast; omega), gg3⟩
end Go.Proofs.Ythpgcgkgokfnpaa
