/-
  Contracts of Parse where the bits are no body (the program's and the document's).
  Plain mathematics for the statement CrcFinds: lists told by a function, bits that are turned about in them, and how many differ.
  Contract of Parse where the bits have the form of a body (the program's).
  Contracts of Right (the program's and the document's).
  Contracts of Body (the program's and the document's).
-/
import Derived.Test.YtgpmhmdofefdcaaGreatB4n
import Derived.Test.YtgpmhmdofefdcaaGreatB3
import Derived.Test.YtgpmhmdofefdcaaGreatB4j
namespace Go.Proofs.YtgpmhmdofefdcaaGreat
open Go.RowKit Go.Sort
set_option linter.unusedVariables false

/-- Whether the bits have the form of a body. -/
def paK (l : List Bool) : Bool := hdK l && !(l[0]?.getD false) && decide (l.length = hdN l)

theorem zero_new (w : World) : ∃ w1, Hid (w.alloc (.cells #[.int .u32 0, .bool false, .bool false, .int .u8 0, .slice none 0 0] 26) = w1) ∧ w1.heap[w.heap.size]? = some (.cells #[.int .u32 0, .bool false, .bool false, .int .u8 0, .slice none 0 0] 26 (0, 0)) ∧ Below w.heap.size w w1 := ⟨_, rfl, heap_alloc_new w _, bnew0 w _⟩

theorem hdN_le (l : List Bool) : 34 ≤ hdN l ∧ hdN l ≤ 118 := by
  have := lonF_le (reF l).rem (reF l).dlc
  unfold hdN heM; split <;> omega

theorem parse_bits (w : World) (a : Option Addr) (n c : Nat) (l : List Bool) (h : RL .bool w a n c l) (hn : n ≤ 9223372036854775807) (hk : paK l = false) :
    Calls Tryz.prog 97 #[.slice a n c] w fun e w' => e = .returned (.tuple #[.agg #[.int .u32 0, .bool false, .bool false, .int .u8 0, .slice none 0 0], .int .i64 41]) ∧ Below w.heap.size w w' := by
  obtain ⟨w1, hw1, hb1, g1⟩ := zero_new w
  have h1 := h.below g1
  cases hd : hdK l
  · have hH := fhead_none w1 a n c l h1 hn hd
    clear hk
    go_enter Tryz.func97, Tryz.ntmps97
    go_wp2_with (go_at_call 106; rw [hw1.out]; (with_reducible refine hH.mono ?_); rintro e w2 ⟨rfl, g2⟩; have hb2 := bx_below hb1 g2; obtain ⟨d0, d1, d2, d3, d4⟩ := bx5 hb2; have f8 := bx_thaw hb2; have hset := below_five (bstep g1 g2))
    exact bodyPost_ret (v := .tuple #[.agg #[.int .u32 0, .bool false, .bool false, .int .u8 0, .slice none 0 0], .int .i64 41]) (by simp [results, Tryz.results97, go_sem, d0, d1, d2, d3, d4]) rfl ⟨rfl, hset _ _ _ _ _⟩
  · have hH := fhead_any w1 a n c l h1 hn hd
    obtain ⟨N, hN⟩ : ∃ N, N = hdN l := ⟨_, rfl⟩
    have hN2 := hdN_le l
    rw [← hN] at hH hN2
    have h19 : 19 ≤ n := by unfold hdK at hd; rw [h.len] at hd; simp at hd; omega
    unfold paK at hk
    rw [hd, h.len, ← hN] at hk
    obtain ⟨b, off, x, rfl, hx, hck⟩ := h.at (k := 0) (by omega)
    obtain ⟨_, _, x', e, hx', hck1⟩ := h1.at (k := 0) (by omega)
    cases e
    obtain rfl : x' = x := by rw [hx'] at hx; simpa using hx
    have hlt : b < w1.heap.size := by obtain ⟨b', off', e, hl, _⟩ := h1.cell (by omega); cases e; exact hl
    rw [hx] at hk
    clear hx hx' hd hN
    have i0 : 0 < n := by omega
    cases x'
    · simp at hk
      have hne : ((n : Int) != (N : Int)) = true := by simp; omega
      have hne' : ((n : Int) == (N : Int)) = false := by simp; omega
      clear hk
      go_enter Tryz.func97, Tryz.ntmps97
      go_wp2_with (go_at_call 106; rw [hw1.out]; (with_reducible refine hH.mono ?_); rintro e w2 ⟨rfl, g2⟩; have hb2 := bx_below hb1 g2; obtain ⟨d0, d1, d2, d3, d4⟩ := bx5 hb2; have f8 := bx_thaw hb2; have hset := below_five (bstep g1 g2); have c0 : w2.cell? ⟨b, off, none⟩ = some (.bool false) := (by rw [g2.cell (p := ⟨b, off, none⟩) hlt]; exact hck1))
      exact bodyPost_ret (v := .tuple #[.agg #[.int .u32 0, .bool false, .bool false, .int .u8 0, .slice none 0 0], .int .i64 41]) (by simp [results, Tryz.results97, go_sem, d0, d1, d2, d3, d4]) rfl ⟨rfl, hset _ _ _ _ _⟩
    · clear hk
      go_enter Tryz.func97, Tryz.ntmps97
      go_wp2_with (go_at_call 106; rw [hw1.out]; (with_reducible refine hH.mono ?_); rintro e w2 ⟨rfl, g2⟩; have hb2 := bx_below hb1 g2; obtain ⟨d0, d1, d2, d3, d4⟩ := bx5 hb2; have f8 := bx_thaw hb2; have hset := below_five (bstep g1 g2); have c0 : w2.cell? ⟨b, off, none⟩ = some (.bool true) := (by rw [g2.cell (p := ⟨b, off, none⟩) hlt]; exact hck1))
      exact bodyPost_ret (v := .tuple #[.agg #[.int .u32 0, .bool false, .bool false, .int .u8 0, .slice none 0 0], .int .i64 41]) (by simp [results, Tryz.results97, go_sem, d0, d1, d2, d3, d4]) rfl ⟨rfl, hset _ _ _ _ _⟩

end Go.Proofs.YtgpmhmdofefdcaaGreat

namespace Go.Proofs.YtgpmhmdofefdcaaGreat

/-- The list of the first n values of F. -/
def mkL (n : Nat) (F : Nat → Bool) : List Bool := (List.range n).map F

@[simp] theorem mkL_length (n : Nat) (F : Nat → Bool) : (mkL n F).length = n := by simp [mkL]
theorem mkL_get {n : Nat} (F : Nat → Bool) {j : Nat} (h : j < n) : (mkL n F)[j]? = some (F j) := by simp [mkL, h]
theorem mkL_congr {n : Nat} {F G : Nat → Bool} (h : ∀ j, j < n → F j = G j) : mkL n F = mkL n G := by
  apply List.ext_getElem?
  intro j
  by_cases hj : j < n
  · rw [mkL_get F hj, mkL_get G hj, h j hj]
  · rw [List.getElem?_eq_none (by simp; omega), List.getElem?_eq_none (by simp; omega)]
theorem mkL_set {n : Nat} (F : Nat → Bool) (i : Nat) (v : Bool) : (mkL n F).set i v = mkL n (fun j => if j = i then v else F j) := by
  apply List.ext_getElem?
  intro j
  rw [List.getElem?_set]
  by_cases hj : j < n
  · by_cases hi : i = j
    · subst hi; rw [if_pos rfl, mkL_get _ hj, if_pos (by simpa using hj), if_pos rfl]
    · rw [if_neg hi, mkL_get _ hj, mkL_get _ hj, if_neg (fun e => hi e.symm)]
  · by_cases hi : i = j
    · subst hi
      rw [if_pos rfl, if_neg (by simpa using hj), List.getElem?_eq_none (by simp; omega)]
    · rw [if_neg hi, List.getElem?_eq_none (by simp; omega), List.getElem?_eq_none (by simp; omega)]
theorem mkL_own (l : List Bool) : mkL l.length (fun j => l[j]?.getD false) = l := by
  apply List.ext_getElem?
  intro j
  by_cases hj : j < l.length
  · rw [mkL_get _ hj]; simp [hj]
  · rw [List.getElem?_eq_none (by simp; omega), List.getElem?_eq_none (by omega)]

/-- Which places are turned about by the first i bits of a burst from place k on. -/
def tuB (b : List Bool) (k i j : Nat) : Bool := decide (k ≤ j) && decide (j < k + i) && decide (j < k + 15) && (b[j - k]?.getD false)

theorem tuB_zero (b : List Bool) (k j : Nat) : tuB b k 0 j = false := by
  unfold tuB
  by_cases h : k ≤ j
  · rw [decide_eq_false (show ¬ j < k + 0 by omega)]; simp
  · rw [decide_eq_false h]; simp

theorem tuB_other {b : List Bool} {k i j : Nat} (h : j ≠ k + i) : tuB b k (i + 1) j = tuB b k i j := by
  unfold tuB
  rw [show decide (j < k + (i + 1)) = decide (j < k + i) from by rw [Bool.eq_iff_iff]; simp; omega]

theorem tuB_new (b : List Bool) (k i : Nat) : tuB b k i (k + i) = false := by
  unfold tuB
  rw [decide_eq_false (show ¬ k + i < k + i by omega)]; simp

theorem tuB_at {b : List Bool} {k i : Nat} {x : Bool} (hx : b[i]? = some x) : tuB b k (i + 1) (k + i) = (decide (i < 15) && x) := by
  unfold tuB
  rw [decide_eq_true (show k ≤ k + i by omega), decide_eq_true (show k + i < k + (i + 1) by omega), show k + i - k = i from by omega, hx,
    show decide (k + i < k + 15) = decide (i < 15) from by rw [Bool.eq_iff_iff]; simp]
  simp

theorem tuB_skip {b : List Bool} {k i n : Nat} {x : Bool} (hx : b[i]? = some x) (h : ¬ (i < 15 ∧ x = true ∧ k + i < n)) : ∀ j, j < n → tuB b k (i + 1) j = tuB b k i j := by
  intro j hj
  by_cases e : j = k + i
  · subst e
    rw [tuB_new, tuB_at hx]
    by_cases h15 : i < 15
    · cases x
      · simp
      · exact absurd ⟨h15, rfl, hj⟩ h
    · simp [h15]
  · exact tuB_other e

theorem xoL_get {l m : List Bool} {j : Nat} {x y : Bool} (hx : l[j]? = some x) (hy : m[j]? = some y) : (xoL l m)[j]? = some (x != y) := by
  unfold xoL; rw [List.getElem?_zipWith, hx, hy]

theorem xoL_len {l m : List Bool} (h : l.length = m.length) : (xoL l m).length = l.length := by
  unfold xoL; rw [List.length_zipWith]; omega

/-- A list, and what becomes of it where E says so. -/
theorem xoL_mk (l : List Bool) (E : Nat → Bool) : xoL l (mkL l.length (fun j => (l[j]?.getD false) != E j)) = mkL l.length E := by
  apply List.ext_getElem?
  intro j
  by_cases hj : j < l.length
  · rw [xoL_get (x := l[j]?.getD false) (by simp [hj]) (mkL_get _ hj), mkL_get _ hj]
    cases l[j]?.getD false <;> cases E j <;> rfl
  · rw [List.getElem?_eq_none (by rw [xoL_len (by simp)]; omega), List.getElem?_eq_none (by simp; omega)]

theorem suV_turned {l : List Bool} {b : List Bool} {k i : Nat} (hk : k ≤ l.length) {j : Nat} (hj : j < l.length) (ht : tuB b k i j = true) : suV (mkL l.length (fun j => (l[j]?.getD false) != tuB b k i j)) ≠ suV l := by
  intro e
  have hx := xoL_mk l (tuB b k i)
  obtain ⟨d, hd⟩ : ∃ d, d = mkL l.length (tuB b k i) := ⟨_, rfl⟩
  rw [← hd] at hx
  have hdl : d.length = l.length := by rw [hd]; simp
  have hget : ∀ j, j < l.length → d[j]? = some (tuB b k i j) := fun j hj => by rw [hd, mkL_get _ hj]
  have hmem : true ∈ d := List.mem_of_getElem? (by rw [hget j hj, ht])
  have e1 : d.take k = List.replicate k false := by
    rw [List.eq_replicate_iff]
    refine ⟨by rw [List.length_take]; omega, fun v hv => ?_⟩
    obtain ⟨t, hte⟩ := List.mem_iff_getElem?.1 hv
    have htl := (List.getElem?_eq_some_iff.1 hte).1
    rw [List.length_take] at htl
    rw [List.getElem?_take, if_pos (by omega), hget t (by omega)] at hte
    simp only [Option.some.injEq] at hte
    rw [← hte]
    unfold tuB
    rw [decide_eq_false (show ¬ k ≤ t by omega)]; simp
  obtain ⟨q, hq⟩ : ∃ q, q = ((d.drop k).drop 15).length := ⟨_, rfl⟩
  have e2 : (d.drop k).drop 15 = List.replicate q false := by
    rw [List.eq_replicate_iff]
    refine ⟨hq.symm, fun v hv => ?_⟩
    obtain ⟨t, hte⟩ := List.mem_iff_getElem?.1 hv
    have htl := (List.getElem?_eq_some_iff.1 hte).1
    rw [List.length_drop, List.length_drop] at htl
    rw [List.getElem?_drop, List.getElem?_drop, hget _ (by omega)] at hte
    simp only [Option.some.injEq] at hte
    rw [← hte]
    unfold tuB
    rw [decide_eq_false (show ¬ k + (15 + t) < k + 15 by omega)]; simp
  have e3 : d = List.replicate k false ++ ((d.drop k).take 15 ++ List.replicate q false) := by
    rw [← e2, List.take_append_drop, ← e1, List.take_append_drop]
  have hm2 : true ∈ (d.drop k).take 15 := by
    rw [e3] at hmem
    simp only [List.mem_append, List.mem_replicate] at hmem
    rcases hmem with h | h | h
    · exact absurd h.2 (by simp)
    · exact h
    · exact absurd h.2 (by simp)
  exact suV_near (l := l) (m := mkL l.length (fun j => (l[j]?.getD false) != tuB b k i j)) (by simp) (p := k) (q := q) (b := (d.drop k).take 15) (by rw [List.length_take]; omega) hm2 (hx.trans e3) e.symm

theorem suV_calm {l : List Bool} {E : Nat → Bool} (h : ∀ j, j < l.length → E j = false) : mkL l.length (fun j => (l[j]?.getD false) != E j) = l := by
  rw [mkL_congr (G := fun j => l[j]?.getD false) (fun j hj => by rw [h j hj]; simp), mkL_own]

/-- How many are true. -/
def trL (l : List Bool) : Nat := (l.filter id).length

theorem trL_snoc {l : List Bool} {k : Nat} {x : Bool} (h : l[k]? = some x) : trL (l.take (k + 1)) = trL (l.take k) + x.toNat := by
  unfold trL; rw [take_snoc h, List.filter_append]; cases x <;> simp

theorem trL_le (l : List Bool) : trL l ≤ l.length := List.length_filter_le _ _

theorem paL_tr (l : List Bool) : paL l = decide (trL l % 2 = 1) := by
  induction l with
  | nil => rfl
  | cons b l ih =>
    rw [paL_cons, ih]
    unfold trL
    cases b
    · simp
    · rw [show List.filter id (true :: l) = true :: l.filter id from rfl, List.length_cons, Bool.eq_iff_iff]
      simp
      omega

theorem suV_odd' {l m : List Bool} (h : l.length = m.length) (ho : ¬ trL (xoL l m) % 2 = 0) : suV m ≠ suV l := by
  refine fun e => suV_odd h ?_ e.symm
  rw [paL_tr, decide_eq_true_eq]
  omega
end Go.Proofs.YtgpmhmdofefdcaaGreat

namespace Go.Proofs.YtgpmhmdofefdcaaGreat
open Go.RowKit Go.Sort
set_option linter.unusedVariables false

/-- The data that the bits of a body say. -/
def paD (l : List Bool) : List UInt8 := byL ((l.drop (heM l)).take (8 * lonF (reF l).rem (reF l).dlc))

theorem foV_tail (s : BitVec 15) (d : List Bool) (hd : d.length = 15) : foV s d = 0#15 ↔ d = biV s := by
  have hb : (biV s).length = 15 := biV_length s
  have hx : xoL (biV s) (xoL (biV s) d) = d := by
    apply List.ext_getElem?
    intro i
    unfold xoL
    rw [List.getElem?_zipWith, List.getElem?_zipWith]
    by_cases hi : i < 15
    · obtain ⟨x, e1⟩ : ∃ x, (biV s)[i]? = some x := ⟨_, List.getElem?_eq_getElem (by omega)⟩
      obtain ⟨y, e2⟩ : ∃ y, d[i]? = some y := ⟨_, List.getElem?_eq_getElem (by omega)⟩
      rw [e1, e2]
      cases x <;> cases y <;> rfl
    · rw [List.getElem?_eq_none (by omega : d.length ≤ i), List.getElem?_eq_none (by omega : (biV s).length ≤ i)]
  have hl : (xoL (biV s) d).length = 15 := by unfold xoL; rw [List.length_zipWith]; omega
  have h := foV_xor (biV s) (xoL (biV s) d) s 0#15 (by omega)
  rw [hx, foV_own, BitVec.xor_zero, BitVec.zero_xor] at h
  rw [h]
  constructor
  · intro h0
    by_cases ht : true ∈ xoL (biV s) d
    · exact absurd h0 (suV_burst (by omega) ht)
    · apply List.ext_getElem?
      intro i
      by_cases hi : i < 15
      · obtain ⟨x, e1⟩ : ∃ x, (biV s)[i]? = some x := ⟨_, List.getElem?_eq_getElem (by omega)⟩
        obtain ⟨y, e2⟩ : ∃ y, d[i]? = some y := ⟨_, List.getElem?_eq_getElem (by omega)⟩
        have e3 := xoL_get e1 e2
        rw [e1, e2]
        have e4 : (x != y) = false := by
          cases hq : (x != y)
          · rfl
          · rw [hq] at e3; exact absurd (List.mem_of_getElem? e3) ht
        congr 1
        revert e4
        cases x <;> cases y <;> simp
      · rw [List.getElem?_eq_none (by omega : d.length ≤ i), List.getElem?_eq_none (by omega : (biV s).length ≤ i)]
  · intro e
    rw [← h, e, foV_own]

theorem sum_tail {l : List Bool} {E : Nat} (h : l.length = E + 15) : suV l = 0#15 ↔ numL (l.drop E) % 4294967296 = (suV (l.take E)).toNat := by
  have hd : (l.drop E).length = 15 := by rw [List.length_drop]; omega
  have hl : suV l = foV (suV (l.take E)) (l.drop E) := by rw [← suV_append, List.take_append_drop]
  have hn : numL (l.drop E) % 4294967296 = numL (l.drop E) := by
    have := numL_lt (l.drop E); rw [hd] at this; exact Nat.mod_eq_of_lt (by omega)
  rw [hl, foV_tail _ _ hd, hn]
  constructor
  · intro e; rw [e, numL_biV]
  · intro e
    have h1 := ofL_numL (l.drop E)
    rw [hd, e] at h1
    exact h1.symm

theorem paK_parts {l : List Bool} (h : paK l = true) : hdK l = true ∧ l[0]? = some false ∧ l.length = hdN l := by
  unfold paK at h
  simp only [Bool.and_eq_true, decide_eq_true_eq, Bool.not_eq_true'] at h
  obtain ⟨⟨h1, h2⟩, h3⟩ := h
  have := hdN_le l
  obtain ⟨x, hx⟩ : ∃ x, l[0]? = some x := ⟨l[0], by simp⟩
  rw [hx] at h2 ⊢
  simp at h2
  exact ⟨h1, by rw [h2], h3⟩

theorem parse_crc (w : World) (a : Option Addr) (n c : Nat) (l : List Bool) (h : RL .bool w a n c l) (hk : paK l = true) (hs : suV l ≠ 0#15) :
    Calls Tryz.prog 97 #[.slice a n c] w fun e w' => e = .returned (.tuple #[.agg #[.int .u32 0, .bool false, .bool false, .int .u8 0, .slice none 0 0], .int .i64 42]) ∧ Below w.heap.size w w' := by
  obtain ⟨hd, hx, hlN⟩ := paK_parts hk
  have hN2 := hdN_le l
  obtain ⟨w1, hw1, hb1, g1⟩ := zero_new w
  have h1 := h.below g1
  have hH := fhead_any w1 a n c l h1 (by rw [← h.len]; omega) hd
  rw [← hlN, h.len] at hH hN2
  obtain ⟨b, off, x, rfl, hx', hck⟩ := h1.at (k := 0) (by omega)
  obtain rfl : x = false := by rw [hx'] at hx; simpa using hx
  have hlt : b < w1.heap.size := by obtain ⟨b', off', e, hl, _⟩ := h1.cell (by omega); cases e; exact hl
  obtain ⟨E, hE⟩ : ∃ E, n = E + 15 := ⟨n - 15, by omega⟩
  have hst := fun e => hs ((sum_tail (l := l) (E := E) (by rw [h.len]; exact hE)).2 e)
  obtain ⟨a1, c1, p1, p2, hq1⟩ := run_cutFrom tB h1 .i64 E (by omega)
  obtain ⟨a2, p3, p4, hq2⟩ := run_cutTo tB h1 .i64 E (by omega)
  obtain ⟨v1, hv1⟩ : ∃ v1, v1 = numL (l.drop E) % 4294967296 := ⟨_, rfl⟩
  obtain ⟨v2, hv2⟩ : ∃ v2, v2 = (suV (l.take E)).toNat := ⟨_, rfl⟩
  have hv2' : v2 < 32768 := by rw [hv2]; exact (suV (l.take E)).isLt
  rw [← hv1, ← hv2] at hst
  have hst' : ¬ v1 = v2 := hst
  have k1 : ∀ w2, Below w1.heap.size w1 w2 → ∀ d os, Calls Tryz.prog 107 #[.slice a1 (n - E) c1] (grow (redrawn w2 d) os) fun e w'' => e = .returned (.int .u32 (v1 : Int)) ∧ ∃ p : Regrown, w'' = grow (redrawn w2 p.d) p.os := fun w2 g2 d os => by
    rw [hv1]
    exact Calls.regrown_of ((number_any _ a1 _ c1 _ ((hq1.below g2).below (below_regrown _ _ _)) (by omega)).mono fun e w' he => ⟨he.1, by rw [← he.2]; exact Below.refl _ _⟩)
  have k2 : ∀ w2, Below w1.heap.size w1 w2 → ∀ d os, Calls Tryz.prog 48 #[.slice a2 E c] (grow (redrawn w2 d) os) fun e w'' => e = .returned (.int .u16 (v2 : Int)) ∧ ∃ p : Regrown, w'' = grow (redrawn w2 p.d) p.os := fun w2 g2 d os => by
    rw [hv2]
    exact Calls.regrown_of (sum_any _ a2 E c _ ((hq2.below g2).below (below_regrown _ _ _)) (by omega))
  have hEi : (n : Int) - 15 = (E : Int) := by omega
  have hne : ((v1 : Int) != (v2 : Int)) = true := by simp; omega
  have hne' : ((v1 : Int) == (v2 : Int)) = false := by simp; omega
  have i0 : 0 < n := by omega
  have HS : Hid (suV l ≠ 0#15) := hs
  have HE := hid hE
  have hE0 : (0 : Int) ≤ (E : Int) := by omega
  clear hk hs hd hx hx' hlN hst hst' hv1 hv2 hq1 hq2 h h1 hE
  go_enter Tryz.func97, Tryz.ntmps97
  go_wp2_with (go_at_call 106; rw [hw1.out]; (with_reducible refine hH.mono ?_); rintro e w2 ⟨rfl, g2⟩; have hb2 := bx_below hb1 g2; have c0 : w2.cell? ⟨b, off, none⟩ = some (.bool false) := (by rw [g2.cell (p := ⟨b, off, none⟩) hlt]; exact hck))
  have k1' := k1 w2 g2
  have k2' := k2 w2 g2
  clear k1 k2 c0 hck
  refine wp_region_quiet_below (by kernel_rfl) (by kernel_rfl) ?_
  repeat (go_big_quiet_step (first
    | (go_at_call 107; with_reducible exact k1' _ _)
    | (go_at_call 48; with_reducible exact k2' _ _)))
  refine wpQuiet_nil ?_
  intro w9 hw9
  have g9 : Below w2.heap.size w2 w9 := by obtain ⟨p9, rfl⟩ := hw9; exact below_regrown _ _ _
  clear hw9 k1' k2' p1 p2 p3 p4
  have hb9 := bx_below hb2 g9
  obtain ⟨d0, d1, d2, d3, d4⟩ := bx5 hb9
  have f8 := bx_thaw hb9
  have hset := below_five (bstep (bstep g1 g2) g9)
  go_wp2
  exact bodyPost_ret (v := .tuple #[.agg #[.int .u32 0, .bool false, .bool false, .int .u8 0, .slice none 0 0], .int .i64 42]) (by simp [results, Tryz.results97, go_sem, d0, d1, d2, d3, d4]) rfl ⟨rfl, hset _ _ _ _ _⟩
end Go.Proofs.YtgpmhmdofefdcaaGreat

namespace Go.Proofs.YtgpmhmdofefdcaaGreat
open Go.RowKit Go.Sort
set_option linter.unusedVariables false

theorem frRight_any (w : World) (id : Nat) (ext rem : Bool) (dlc : Nat) (a : Option Addr) (n c : Nat) (hi : id < 4294967296) (hd : dlc < 256) :
    Calls Tryz.prog 18 #[.agg #[.int .u32 (id : Int), .bool ext, .bool rem, .int .u8 (dlc : Int), .slice a n c]] w fun e w' => e = .returned (.bool (riF id ext rem dlc n)) ∧ Below w.heap.size w w' := by
  obtain ⟨r, hr⟩ : ∃ r, r = riF id ext rem dlc n := ⟨_, rfl⟩
  rw [← hr]
  obtain ⟨L, hL⟩ : ∃ L, L = lonF rem dlc := ⟨_, rfl⟩
  obtain ⟨G, hG⟩ : ∃ G : Int, G = if ext then 536870911 else 2047 := ⟨_, rfl⟩
  have hr2 : r = (decide ((id : Int) ≤ G) && decide ((dlc : Int) ≤ 15) && decide ((n : Int) = L)) := by
    rw [hr, hL, hG]; unfold riF; rw [Bool.eq_iff_iff]; cases ext <;> simp <;> omega
  clear hr
  have HR := hid hr2
  clear hr2
  have hlong : ∀ (w0 : World) d os, Calls Tryz.prog 14 #[.agg #[.int .u32 (id : Int), .bool ext, .bool rem, .int .u8 (dlc : Int), .slice a n c]] (grow (redrawn w0 d) os) fun e w'' => e = .returned (.int .i64 (L : Int)) ∧ ∃ p : Regrown, w'' = grow (redrawn w0 p.d) p.os := fun w0 d os => by
    rw [hL]; exact Calls.regrown_of (frLong_any _ id ext rem dlc a n c hd)
  clear hL
  have hcases : (decide ((id : Int) ≤ G) = true ∧ decide ((dlc : Int) ≤ 15) = true) ∨ (decide ((id : Int) ≤ G) = false) ∨ (decide ((id : Int) ≤ G) = true ∧ decide ((dlc : Int) ≤ 15) = false) := by simp only [decide_eq_false_iff_not, decide_eq_true_eq]; omega
  obtain ⟨w0, hw0, hbx, c0, c1, c2, c3, c4, gg0⟩ := boxed w 26 (.int .u32 (id : Int)) (.bool ext) (.bool rem) (.int .u8 (dlc : Int)) (.slice a n c)
  clear hbx
  cases ext
  all_goals
    simp only [Bool.false_eq_true, if_false, if_true] at hG
    rcases hcases with ⟨h1, h2⟩ | h1 | ⟨h1, h2⟩
    all_goals
      subst hG
      go_enter Tryz.func18, Tryz.ntmps18
      go_wp2_with fail
      rw [hw0.out]
      refine wp_region_quiet_below (by kernel_rfl) (by kernel_rfl) ?_
      repeat (go_big_quiet_step (first
        | (go_at_call 14; exact hlong _ _ _)))
      refine wpQuiet_nil ?_
      intro w9 hw9
      have gg : Below w0.heap.size w0 w9 := by obtain ⟨p9, rfl⟩ := hw9; exact below_regrown _ _ _
      clear hw9
      go_wp2
      go_ret
      refine ⟨ret_bool ?_, bstep gg0 gg⟩
      rw [HR.out]
      first | (rw [h1, h2]; rfl) | (rw [h1, h2]; simp) | (rw [h1]; rfl)

end Go.Proofs.YtgpmhmdofefdcaaGreat

namespace Go.Proofs.YtgpmhmdofefdcaaGreat
open Go.RowKit Go.Sort
set_option linter.unusedVariables false

/-- A body without its check sum. -/
def preL (f : Fr) : List Bool := heL f.id f.ext f.rem f.dlc ++ obL f.data
/-- A body. -/
def boL (f : Fr) : List Bool := preL f ++ biV (suV (preL f))

theorem preL_length (f : Fr) : (preL f).length = heN f.ext + 8 * f.data.length := by unfold preL; rw [List.length_append, heL_length, obL_length]
theorem boL_length (f : Fr) : (boL f).length = heN f.ext + 8 * f.data.length + 15 := by unfold boL; rw [List.length_append, preL_length, biV_length]

theorem riF_long {id : Nat} {ext rem : Bool} {dlc n : Nat} (h : riF id ext rem dlc n = true) : n = lonF rem dlc ∧ n ≤ 8 ∧ dlc ≤ 15 ∧ id ≤ 536870911 := by
  unfold riF at h
  simp only [Bool.and_eq_true, decide_eq_true_eq] at h
  obtain ⟨⟨h1, h2⟩, h3⟩ := h
  refine ⟨h3, ?_, h2, ?_⟩
  · rw [h3]; unfold lonF; split <;> omega
  · split at h1 <;> omega

/-- What a box's cells are in each world that has only grown. -/
theorem held5 {w0 w' : World} {g : Nat} {E : TypeId} {v0 v1 v2 v3 v4 : Value} (h : w0.heap[g]? = some (.cells #[v0, v1, v2, v3, v4] E (0, 0))) (hb : Below w0.heap.size w0 w') :
    w'.cell? ⟨g, 0, none⟩ = some v0 ∧ w'.cell? ⟨g, 1, none⟩ = some v1 ∧ w'.cell? ⟨g, 2, none⟩ = some v2 ∧ w'.cell? ⟨g, 3, none⟩ = some v3 ∧ w'.cell? ⟨g, 4, none⟩ = some v4 ∧ Below w0.heap.size w0 w' := by
  obtain ⟨k0, k1, k2, k3, k4⟩ := bx5 (bx_below h hb)
  exact ⟨k0, k1, k2, k3, k4, hb⟩

theorem body_wrong (w : World) (id : Nat) (ext rem : Bool) (dlc : Nat) (a : Option Addr) (n c : Nat) (hi : id < 4294967296) (hd : dlc < 256) (hw : riF id ext rem dlc n = false) :
    Calls Tryz.prog 36 #[.agg #[.int .u32 (id : Int), .bool ext, .bool rem, .int .u8 (dlc : Int), .slice a n c]] w fun e w' => e = .returned (.tuple #[.slice none 0 0, .int .i64 40]) ∧ Below w.heap.size w w' := by
  go_enter Tryz.func36, Tryz.ntmps36
  go_wp2_with (go_at_call 18; refine (frRight_any _ id ext rem dlc a n c hi hd).mono ?_; rw [hw]; rintro e w1 ⟨rfl, g1⟩)
  go_ret2
  exact ⟨rfl, bstep (bnew0 w _) g1⟩

theorem body_any (w : World) (id : Nat) (ext rem : Bool) (dlc : Nat) (a : Option Addr) (n c : Nat) (l : List UInt8) (hi : id < 4294967296) (hd : dlc < 256) (h : RL bv w a n c l) (hr : riF id ext rem dlc n = true) :
    Calls Tryz.prog 36 #[.agg #[.int .u32 (id : Int), .bool ext, .bool rem, .int .u8 (dlc : Int), .slice a n c]] w fun e w' => ∃ a' c', e = .returned (.tuple #[.slice a' (heN ext + 8 * n + 15) c', .int .i64 0]) ∧
      OL .bool 4 w.heap.size w' a' (heN ext + 8 * n + 15) c' (boL ⟨id, ext, rem, dlc, l⟩) ∧ Below w.heap.size w w' := by
  obtain ⟨hn1, hn8, _, _⟩ := riF_long hr
  have hpre : Hid (heL id ext rem dlc ++ obL l = preL ⟨id, ext, rem, dlc, l⟩) := rfl
  obtain ⟨w0, hw0, hbx, _, _, _, _, _, gg0⟩ := boxed w 26 (.int .u32 (id : Int)) (.bool ext) (.bool rem) (.int .u8 (dlc : Int)) (.slice a n c)
  have hs0 := bx_lt hbx
  clear hn1
  obtain ⟨N, hN⟩ : ∃ N, N = heN ext := ⟨_, rfl⟩
  have hN40 : N ≤ 39 := by rw [hN]; unfold heN; split <;> omega
  have hhead := fun w0 => head_any w0 id ext rem dlc a n c hi hd
  rw [← hN] at hhead ⊢
  clear hN
  have h0 := h.below gg0
  go_enter Tryz.func36, Tryz.ntmps36
  go_wp2_with (go_at_call 18; rw [hw0.out]; refine (frRight_any _ id ext rem dlc a n c hi hd).mono ?_; rw [hr]; rintro e w1 ⟨rfl, g1⟩; have hbx1 := bx_below hbx g1; have h1 := h0.below g1; have gg1 := bstep gg0 g1; have hs1 := g1.size)
  have hd1 : Below w1.heap.size w1 w1.drew := (Below.refl _ _).drew
  have hn9 : n ≤ 100000 := by omega
  go_region_held3 (fun w' => w'.cell? ⟨w.heap.size, 0, none⟩ = some (.int .u32 (id : Int)) ∧ w'.cell? ⟨w.heap.size, 1, none⟩ = some (.bool ext) ∧ w'.cell? ⟨w.heap.size, 2, none⟩ = some (.bool rem) ∧ w'.cell? ⟨w.heap.size, 3, none⟩ = some (.int .u8 (dlc : Int)) ∧ w'.cell? ⟨w.heap.size, 4, none⟩ = some (.slice a n c) ∧ Below w1.heap.size w1 w')
    (first
      | exact held5 hbx1 hd1
      | exact held5 hbx1 g15
      | exact held5 hbx1 g16
      | exact held5 hbx1 g17)
    (first
      | (go_simp; go_at_call 45; refine Calls.mono (hhead w1.drew) ?_; rintro e w5 ⟨a5, c5, rfl, hol5, g5⟩; have g15 : Below w1.heap.size w1 w5 := hd1.trans g5; have hs5 := g15.size)
      | (go_simp; go_at_call 46; refine Calls.mono (ofBytes_any w5 a n c l (h1.below g15) hn9) ?_; rintro e w6 ⟨a6, c6, rfl, hol6, g6⟩; have hol56 := hol5.below g6; have g16 := bstep g15 g6; have hs6 := g16.size)
      | (refine step_app (f := Value.bool) (B := w1.heap.size) (a := a5) (n := N) (c := c5) (l := heL id ext rem dlc) (a2 := a6) (n2 := 8 * n) (c2 := c6) (m := obL l) tB rfl (.tmp 9) (.tmp 12) rfl rfl hol56 rfl hol6.rl (fun _ => rfl) ?_ ?_ ?_ ?_; omega; omega; exact hs6; intro w7 a7 c7 hol7 g7; have g17 := g16.trans g7))
  all_goals
    have gB := g17
    rw [hpre.out] at hol7
    have hs7 := gB.size
    have gg7 := gg1.trans (gB.mono gg1.size)
    go_wp2_with (first
      | (go_at_call 48; refine (sum_any w7 a7 _ c7 _ hol7.rl (by omega)).mono ?_; rintro e w8 ⟨rfl, g8⟩; have hol8 := hol7.below g8; have hlt8 := (suV (preL ⟨id, ext, rem, dlc, l⟩)).isLt; have hs8 := g8.size)
      | (go_at_call 47; refine (bits_any w8 _ (by omega)).mono ?_; rintro e w9 ⟨a9, c9, rfl, hol9, g9⟩; have hol89 := hol8.below g9; have hs9 := g9.size)
      | (at_builtin; refine wpList_app (f := Value.bool) (B := w1.heap.size) (w := w9) tB rfl _ _ rfl rfl hol89 rfl hol9.rl (fun _ => rfl) (by omega) (by omega) (by omega) ?_; intro w10 a10 c10 hol10 g10))
    go_ret2
    exact ⟨_, _, rfl, hol10.mono gg1.size, ((bstep (bstep gg7 g8) g9).trans (g10.mono gg1.size))⟩
end Go.Proofs.YtgpmhmdofefdcaaGreat
