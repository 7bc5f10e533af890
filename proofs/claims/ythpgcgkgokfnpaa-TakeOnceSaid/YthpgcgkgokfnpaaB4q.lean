/-
  Contract of Parse where the bits have the form of a body (the program's).
-/
import Derived.Test.YthpgcgkgokfnpaaB4p
import Derived.Test.YthpgcgkgokfnpaaM3b
namespace Go.Proofs.Ythpgcgkgokfnpaa
open Go.RowKit Go.Sort
set_option linter.unusedVariables false

/-- The data that the bits of a body say. -/
def paD (l : List Bool) : List UInt8 := byL ((l.drop (heM l)).take (8 * lonF (reF l).rem (reF l).dlc))

theorem foV_tail (s : BitVec 15) (d : List Bool) (hd : d.length = 15) : foV s d = 0#15 ↔ d = biV s := by
  have hb : (biV s).length = 15 := biV_length s
  have hx : xoL (biV s) (xoL (biV s) d) = d := by
    apply List.ext_getElem?
    intro i
    unfold xoL
    rw [List.getElem?_zipWith, List.getElem?_zipWith]
    by_cases hi : i < 15
    · obtain ⟨x, e1⟩ : ∃ x, (biV s)[i]? = some x := ⟨_, List.getElem?_eq_getElem (by omega)⟩
      obtain ⟨y, e2⟩ : ∃ y, d[i]? = some y := ⟨_, List.getElem?_eq_getElem (by omega)⟩
      rw [e1, e2]
      cases x <;> cases y <;> rfl
    · rw [List.getElem?_eq_none (by omega : d.length ≤ i), List.getElem?_eq_none (by omega : (biV s).length ≤ i)]
  have hl : (xoL (biV s) d).length = 15 := by unfold xoL; rw [List.length_zipWith]; omega
  have h := foV_xor (biV s) (xoL (biV s) d) s 0#15 (by omega)
  rw [hx, foV_own, BitVec.xor_zero, BitVec.zero_xor] at h
  rw [h]
  constructor
  · intro h0
    by_cases ht : true ∈ xoL (biV s) d
    · exact absurd h0 (suV_burst (by omega) ht)
    · apply List.ext_getElem?
      intro i
      by_cases hi : i < 15
      · obtain ⟨x, e1⟩ : ∃ x, (biV s)[i]? = some x := ⟨_, List.getElem?_eq_getElem (by omega)⟩
        obtain ⟨y, e2⟩ : ∃ y, d[i]? = some y := ⟨_, List.getElem?_eq_getElem (by omega)⟩
        have e3 := xoL_get e1 e2
        rw [e1, e2]
        have e4 : (x != y) = false := by
          cases hq : (x != y)
          · rfl
          · rw [hq] at e3; exact absurd (List.mem_of_getElem? e3) ht
        congr 1
        revert e4
        cases x <;> cases y <;> simp
      · rw [List.getElem?_eq_none (by omega : d.length ≤ i), List.getElem?_eq_none (by omega : (biV s).length ≤ i)]
  · intro e
    rw [← h, e, foV_own]

theorem sum_tail {l : List Bool} {E : Nat} (h : l.length = E + 15) : suV l = 0#15 ↔ numL (l.drop E) % 4294967296 = (suV (l.take E)).toNat := by
  have hd : (l.drop E).length = 15 := by rw [List.length_drop]; omega
  have hl : suV l = foV (suV (l.take E)) (l.drop E) := by rw [← suV_append, List.take_append_drop]
  have hn : numL (l.drop E) % 4294967296 = numL (l.drop E) := by
    have := numL_lt (l.drop E); rw [hd] at this; exact Nat.mod_eq_of_lt (by omega)
  rw [hl, foV_tail _ _ hd, hn]
  constructor
  · intro e; rw [e, numL_biV]
  · intro e
    have h1 := ofL_numL (l.drop E)
    rw [hd, e] at h1
    exact h1.symm

theorem paK_parts {l : List Bool} (h : paK l = true) : hdK l = true ∧ l[0]? = some false ∧ l.length = hdN l := by
  unfold paK at h
  simp only [Bool.and_eq_true, decide_eq_true_eq, Bool.not_eq_true'] at h
  obtain ⟨⟨h1, h2⟩, h3⟩ := h
  have := hdN_le l
  obtain ⟨x, hx⟩ : ∃ x, l[0]? = some x := ⟨l[0], by simp⟩
  rw [hx] at h2 ⊢
  simp at h2
  exact ⟨h1, by rw [h2], h3⟩

theorem parse_crc (w : World) (a : Option Addr) (n c : Nat) (l : List Bool) (h : RL .bool w a n c l) (hk : paK l = true) (hs : suV l ≠ 0#15) :
    Calls Try.prog 28 #[.slice a n c] w fun e w' => e = .returned (.tuple #[.agg #[.int .u32 0, .bool false, .bool false, .int .u8 0, .slice none 0 0], .int .i64 42]) ∧ Below w.heap.size w w' := by
  obtain ⟨hd, hx, hlN⟩ := paK_parts hk
  have hN2 := hdN_le l
  obtain ⟨w1, hw1, hb1, g1⟩ := zero_new w
  have h1 := h.below g1
  have hH := fhead_any w1 a n c l h1 (by rw [← h.len]; omega) hd
  rw [← hlN, h.len] at hH hN2
  obtain ⟨b, off, x, rfl, hx', hck⟩ := h1.at (k := 0) (by omega)
  obtain rfl : x = false := by rw [hx'] at hx; simpa using hx
  have hlt : b < w1.heap.size := by obtain ⟨b', off', e, hl, _⟩ := h1.cell (by omega); cases e; exact hl
  obtain ⟨E, hE⟩ : ∃ E, n = E + 15 := ⟨n - 15, by omega⟩
  have hst := fun e => hs ((sum_tail (l := l) (E := E) (by rw [h.len]; exact hE)).2 e)
  obtain ⟨a1, c1, p1, p2, hq1⟩ := run_cutFrom tB h1 .i64 E (by omega)
  obtain ⟨a2, p3, p4, hq2⟩ := run_cutTo tB h1 .i64 E (by omega)
  obtain ⟨v1, hv1⟩ : ∃ v1, v1 = numL (l.drop E) % 4294967296 := ⟨_, rfl⟩
  obtain ⟨v2, hv2⟩ : ∃ v2, v2 = (suV (l.take E)).toNat := ⟨_, rfl⟩
  have hv2' : v2 < 32768 := by rw [hv2]; exact (suV (l.take E)).isLt
  rw [← hv1, ← hv2] at hst
  have hst' : ¬ v1 = v2 := hst
  have k1 : ∀ w2, Below w1.heap.size w1 w2 → ∀ d os, Calls Try.prog 48 #[.slice a1 (n - E) c1] (grow (redrawn w2 d) os) fun e w'' => e = .returned (.int .u32 (v1 : Int)) ∧ ∃ p : Regrown, w'' = grow (redrawn w2 p.d) p.os := fun w2 g2 d os => by
    rw [hv1]
    exact Calls.regrown_of ((number_any _ a1 _ c1 _ ((hq1.below g2).below (below_regrown _ _ _)) (by omega)).mono fun e w' he => ⟨he.1, by rw [← he.2]; exact Below.refl _ _⟩)
  have k2 : ∀ w2, Below w1.heap.size w1 w2 → ∀ d os, Calls Try.prog 35 #[.slice a2 E c] (grow (redrawn w2 d) os) fun e w'' => e = .returned (.int .u16 (v2 : Int)) ∧ ∃ p : Regrown, w'' = grow (redrawn w2 p.d) p.os := fun w2 g2 d os => by
    rw [hv2]
    exact Calls.regrown_of (sum_any _ a2 E c _ ((hq2.below g2).below (below_regrown _ _ _)) (by omega))
  have hEi : (n : Int) - 15 = (E : Int) := by omega
  have hne : ((v1 : Int) != (v2 : Int)) = true := by simp; omega
  have hne' : ((v1 : Int) == (v2 : Int)) = false := by simp; omega
  have i0 : 0 < n := by omega
  have HS : Hid (suV l ≠ 0#15) := hs
  have HE := hid hE
  have hE0 : (0 : Int) ≤ (E : Int) := by omega
  clear hk hs hd hx hx' hlN hst hst' hv1 hv2 hq1 hq2 h h1 hE
  go_enter Try.func28, Try.ntmps28
  go_wp2_with (go_at_call 47; rw [hw1.out]; (with_reducible refine hH.mono ?_); rintro e w2 ⟨rfl, g2⟩; have hb2 := bx_below hb1 g2; have c0 : w2.cell? ⟨b, off, none⟩ = some (.bool false) := (by rw [g2.cell (p := ⟨b, off, none⟩) hlt]; exact hck))
  have k1' := k1 w2 g2
  have k2' := k2 w2 g2
  clear k1 k2 c0 hck
  refine wp_region_quiet_below (by kernel_rfl) (by kernel_rfl) ?_
  repeat (go_big_quiet_step (first
    | (go_at_call 48; with_reducible exact k1' _ _)
    | (go_at_call 35; with_reducible exact k2' _ _)))
  refine wpQuiet_nil ?_
  intro w9 hw9
  have g9 : Below w2.heap.size w2 w9 := by obtain ⟨p9, rfl⟩ := hw9; exact below_regrown _ _ _
  clear hw9 k1' k2' p1 p2 p3 p4
  have hb9 := bx_below hb2 g9
  obtain ⟨d0, d1, d2, d3, d4⟩ := bx5 hb9
  have f8 := bx_thaw hb9
  have hset := below_five (bstep (bstep g1 g2) g9)
  go_wp2
  exact bodyPost_ret (v := .tuple #[.agg #[.int .u32 0, .bool false, .bool false, .int .u8 0, .slice none 0 0], .int .i64 42]) (by simp [results, Try.results28, go_sem, d0, d1, d2, d3, d4]) rfl ⟨rfl, hset _ _ _ _ _⟩
end Go.Proofs.Ythpgcgkgokfnpaa
