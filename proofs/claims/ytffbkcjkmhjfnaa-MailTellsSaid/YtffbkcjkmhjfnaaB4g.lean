/-
  Contracts of Right (the program's and the document's).
  Contracts of contest and head (the program's), and of the document's head.
  Contracts of Body (the program's and the document's).
  Contracts of Wire (the program's and the document's).
  Contracts of Before (the program's and the document's).
-/
import Derived.Test.YtffbkcjkmhjfnaaB4
import Derived.WalkSmall
namespace Go.Proofs.Ytffbkcjkmhjfnaa
open Go.RowKit Go.Sort
set_option linter.unusedVariables false

theorem frRight_any (w : World) (id : Nat) (ext rem : Bool) (dlc : Nat) (a : Option Addr) (n c : Nat) (hi : id < 4294967296) (hd : dlc < 256) :
    Calls Try.prog 13 #[.agg #[.int .u32 (id : Int), .bool ext, .bool rem, .int .u8 (dlc : Int), .slice a n c]] w fun e w' => e = .returned (.bool (riF id ext rem dlc n)) ∧ Below w.heap.size w w' := by
  obtain ⟨r, hr⟩ : ∃ r, r = riF id ext rem dlc n := ⟨_, rfl⟩
  rw [← hr]
  obtain ⟨L, hL⟩ : ∃ L, L = lonF rem dlc := ⟨_, rfl⟩
  obtain ⟨G, hG⟩ : ∃ G : Int, G = if ext then 536870911 else 2047 := ⟨_, rfl⟩
  have hr2 : r = (decide ((id : Int) ≤ G) && decide ((dlc : Int) ≤ 15) && decide ((n : Int) = L)) := by
    rw [hr, hL, hG]; unfold riF; rw [Bool.eq_iff_iff]; cases ext <;> simp <;> omega
  clear hr
  have HR := hid hr2
  clear hr2
  have hlong : ∀ (w0 : World) d os, Calls Try.prog 32 #[.agg #[.int .u32 (id : Int), .bool ext, .bool rem, .int .u8 (dlc : Int), .slice a n c]] (grow (redrawn w0 d) os) fun e w'' => e = .returned (.int .i64 (L : Int)) ∧ ∃ p : Regrown, w'' = grow (redrawn w0 p.d) p.os := fun w0 d os => by
    rw [hL]; exact Calls.regrown_of (frLong_any _ id ext rem dlc a n c hd)
  clear hL
  have hcases : (decide ((id : Int) ≤ G) = true ∧ decide ((dlc : Int) ≤ 15) = true) ∨ (decide ((id : Int) ≤ G) = false) ∨ (decide ((id : Int) ≤ G) = true ∧ decide ((dlc : Int) ≤ 15) = false) := by simp only [decide_eq_false_iff_not, decide_eq_true_eq]; omega
  obtain ⟨w0, hw0, hbx, c0, c1, c2, c3, c4, gg0⟩ := boxed w 34 (.int .u32 (id : Int)) (.bool ext) (.bool rem) (.int .u8 (dlc : Int)) (.slice a n c)
  clear hbx
  cases ext
  all_goals
    simp only [Bool.false_eq_true, if_false, if_true] at hG
    rcases hcases with ⟨h1, h2⟩ | h1 | ⟨h1, h2⟩
    all_goals
      subst hG
      go_enter Try.func13, Try.ntmps13
      go_wp2_with fail
      rw [hw0.out]
      refine wp_region_quiet_below (by kernel_rfl) (by kernel_rfl) ?_
      repeat (go_big_quiet_step (first
        | (go_at_call 32; exact hlong _ _ _)))
      refine wpQuiet_nil ?_
      intro w9 hw9
      have gg : Below w0.heap.size w0 w9 := by obtain ⟨p9, rfl⟩ := hw9; exact below_regrown _ _ _
      clear hw9
      go_wp2
      go_ret
      refine ⟨ret_bool ?_, bstep gg0 gg⟩
      rw [HR.out]
      first | (rw [h1, h2]; rfl) | (rw [h1, h2]; simp) | (rw [h1]; rfl)

theorem refRight_any (w : World) (id : Nat) (ext rem : Bool) (dlc : Nat) (a : Option Addr) (n c : Nat) (hi : id < 4294967296) (hd : dlc < 256) :
    Calls Try.prog 35 #[.agg #[.int .u32 (id : Int), .bool ext, .bool rem, .int .u8 (dlc : Int), .slice a n c]] w fun e w' => e = .returned (.bool (riF id ext rem dlc n)) ∧ Below w.heap.size w w' := by
  obtain ⟨r, hr⟩ : ∃ r, r = riF id ext rem dlc n := ⟨_, rfl⟩
  rw [← hr]
  obtain ⟨L, hL⟩ : ∃ L, L = lonF rem dlc := ⟨_, rfl⟩
  have hr2 : r = (decide ((id : Int) < 2048 ∨ ext = true ∧ (id : Int) < 536870912) && !decide ((dlc : Int) > 15) && decide ((n : Int) = L)) := by
    rw [hr, hL]; unfold riF; rw [Bool.eq_iff_iff]; cases ext <;> simp <;> omega
  clear hr
  have HR := hid hr2
  clear hr2
  have hlong : ∀ (w0 : World) d os, Calls Try.prog 43 #[.agg #[.int .u32 (id : Int), .bool ext, .bool rem, .int .u8 (dlc : Int), .slice a n c]] (grow (redrawn w0 d) os) fun e w'' => e = .returned (.int .i64 (L : Int)) ∧ ∃ p : Regrown, w'' = grow (redrawn w0 p.d) p.os := fun w0 d os => by
    rw [hL]; exact Calls.regrown_of (refLong_any _ id ext rem dlc a n c hd)
  clear hL
  obtain ⟨w0, hw0, hbx, c0, c1, c2, c3, c4, gg0⟩ := boxed w 34 (.int .u32 (id : Int)) (.bool ext) (.bool rem) (.int .u8 (dlc : Int)) (.slice a n c)
  have hcases : (decide ((dlc : Int) > 15) = true) ∨ (decide ((dlc : Int) > 15) = false ∧ ((n : Int) != (L : Int)) = true) ∨ (decide ((dlc : Int) > 15) = false ∧ ((n : Int) != (L : Int)) = false) := by
    simp only [decide_eq_false_iff_not, decide_eq_true_eq, bne_iff_ne, bne_eq_false_iff_eq]; omega
  have hcas2 : (decide ((id : Int) < 2048) = true) ∨ (decide ((id : Int) < 2048) = false ∧ ext = false) ∨ (decide ((id : Int) < 2048) = false ∧ ext = true) := by
    cases ext <;> simp <;> omega
  rcases hcases with h1 | ⟨h1, h2⟩ | ⟨h1, h2⟩
  · go_enter Try.func35, Try.ntmps35
    go_wp2_with fail
    rw [hw0.out]
    refine wp_region_quiet_below (by kernel_rfl) (by kernel_rfl) ?_
    repeat (go_big_quiet_step (first
      | (go_at_call 43; exact hlong _ _ _)))
    refine wpQuiet_nil ?_
    intro w9 hw9
    have gg : Below w0.heap.size w0 w9 := by obtain ⟨p9, rfl⟩ := hw9; exact below_regrown _ _ _
    clear hw9
    go_wp2
    go_ret
    exact ⟨ret_bool (by rw [HR.out, h1]; simp), bstep gg0 gg⟩
  · go_enter Try.func35, Try.ntmps35
    go_wp2_with fail
    rw [hw0.out]
    refine wp_region_quiet_below (by kernel_rfl) (by kernel_rfl) ?_
    repeat (go_big_quiet_step (first
      | (go_at_call 43; exact hlong _ _ _)))
    refine wpQuiet_nil ?_
    intro w9 hw9
    have gg : Below w0.heap.size w0 w9 := by obtain ⟨p9, rfl⟩ := hw9; exact below_regrown _ _ _
    clear hw9
    go_wp2
    go_ret
    exact ⟨ret_bool (by rw [HR.out]; simp only [bne_iff_ne] at h2; rw [decide_eq_false h2]; simp), bstep gg0 gg⟩
  · rcases hcas2 with h3 | ⟨h3, h4⟩ | ⟨h3, h4⟩
    all_goals
      try subst h4
      go_enter Try.func35, Try.ntmps35
      go_wp2_with fail
      rw [hw0.out]
      refine wp_region_quiet_below (by kernel_rfl) (by kernel_rfl) ?_
      repeat (go_big_quiet_step (first
        | (go_at_call 43; exact hlong _ _ _)))
      refine wpQuiet_nil ?_
      intro w9 hw9
      have gg : Below w0.heap.size w0 w9 := by obtain ⟨p9, rfl⟩ := hw9; exact below_regrown _ _ _
      clear hw9
      obtain ⟨e0, e1, e2, e3, e4⟩ := bx5 (bx_below hbx gg)
      clear c0 c1 c2 c3 c4
      go_wp2
      go_ret
      refine ⟨ret_bool ?_, bstep gg0 gg⟩
      simp only [bne_eq_false_iff_eq] at h2
      simp only [decide_eq_false_iff_not, decide_eq_true_eq] at h1 h3
      rw [HR.out, Bool.eq_iff_iff]
      simp [h2]
      omega
end Go.Proofs.Ytffbkcjkmhjfnaa

namespace Go.Proofs.Ytffbkcjkmhjfnaa
open Go.RowKit Go.Sort
set_option linter.unusedVariables false

/-- The first part of a head. -/
def conL (id : Nat) (ext rem : Bool) : List Bool := if ext then [false] ++ ofL (id / 262144) 11 ++ [true, true] ++ ofL id 18 ++ [rem] else [false] ++ ofL id 11 ++ [rem, false]

/-- A head. -/
def heL (id : Nat) (ext rem : Bool) (dlc : Nat) : List Bool := conL id ext rem ++ [false] ++ (if ext then [false] else []) ++ ofL dlc 4

def conN (ext : Bool) : Nat := if ext then 33 else 14
def heN (ext : Bool) : Nat := if ext then 39 else 19

theorem conL_length (id : Nat) (ext rem : Bool) : (conL id ext rem).length = conN ext := by cases ext <;> simp [conL, conN]
theorem heL_length (id : Nat) (ext rem : Bool) (dlc : Nat) : (heL id ext rem dlc).length = heN ext := by cases ext <;> simp [heL, conL, heN]

theorem clamp_11 : clampM 11 = 11 := by decide
theorem clamp_18 : clampM 18 = 18 := by decide
theorem clamp_4 : clampM 4 = 4 := by decide

/-- A row that grows beside a box that was laid first. -/
structure St (w w' : World) (a : Option Addr) (n c : Nat) (l : List Bool) (bx : Array Value) (T : TypeId) : Prop where
  row : OL .bool 4 (w.heap.size + 1) w' a n c l
  box : w'.heap[w.heap.size]? = some (.cells bx T (0, 0))
  bel : Below w.heap.size w w'
  siz : w.heap.size + 1 ≤ w'.heap.size

section
variable {w w' w'' : World} {a a' : Option Addr} {n c n' c' : Nat} {l l' : List Bool} {bx : Array Value} {T : TypeId}
theorem St.call (h : St w w' a n c l bx T) (g : Below w'.heap.size w' w'') : St w w'' a n c l bx T := ⟨h.row.below g, bx_below h.box g, bstep h.bel g, Nat.le_trans h.siz g.size⟩
theorem St.alloc (h : St w w' a n c l bx T) (o : Obj) : St w (w'.alloc o) a n c l bx T := ⟨h.row.alloc o, bx_alloc o h.box, bnew h.bel o, by simp; have := h.siz; omega⟩
theorem St.app (h : St w w' a n c l bx T) (hol : OL .bool 4 (w.heap.size + 1) w'' a' n' c' l') (g : Below (w.heap.size + 1) w' w'') : St w w'' a' n' c' l' bx T :=
  ⟨hol, by rw [g.block _ (Nat.lt_succ_self _)]; exact h.box, h.bel.trans (g.mono (by omega)), Nat.le_trans h.siz g.size⟩
theorem St.lit (w : World) (bx : Array Value) (T : TypeId) (b : Bool) : St w ((w.alloc (.cells bx T)).alloc (.cells #[.bool b] 4)) (some ⟨w.heap.size + 1, 0, none⟩) 1 1 [b] bx T := by
  have h1 := ol_lit Value.bool 4 (w.heap.size + 1) (w.alloc (.cells bx T)) [b] #[.bool b] 1 rfl rfl (by omega) (by simp)
  rw [heap_size_alloc] at h1
  exact ⟨h1, bx_alloc _ (heap_alloc_new w _), bnew (bnew0 _ _) _, by simp⟩
theorem St.ol (h : St w w' a n c l bx T) : OL .bool 4 w.heap.size w' a n c l := h.row.mono (by omega)
end

theorem lit1 (w : World) (x : Bool) : RL .bool (w.alloc (.cells #[.bool x] 4)) (some ⟨w.heap.size, 0, none⟩) 1 1 [x] := (ol_lit Value.bool 4 w.heap.size w [x] #[.bool x] 1 rfl rfl (by omega) (Nat.le_refl _)).rl
theorem lit2 (w : World) (x y : Bool) : RL .bool (w.alloc (.cells #[.bool x, .bool y] 4)) (some ⟨w.heap.size, 0, none⟩) 2 2 [x, y] := (ol_lit Value.bool 4 w.heap.size w [x, y] #[.bool x, .bool y] 2 rfl rfl (by omega) (Nat.le_refl _)).rl
theorem lit3 (w : World) (x y z : Bool) : RL .bool (w.alloc (.cells #[.bool x, .bool y, .bool z] 4)) (some ⟨w.heap.size, 0, none⟩) 3 3 [x, y, z] := (ol_lit Value.bool 4 w.heap.size w [x, y, z] #[.bool x, .bool y, .bool z] 3 rfl rfl (by omega) (Nat.le_refl _)).rl

end Go.Proofs.Ytffbkcjkmhjfnaa

namespace Go.Proofs.Ytffbkcjkmhjfnaa
open Go.RowKit Go.Sort
set_option linter.unusedVariables false

/-- A body without its check sum. -/
def preL (f : Fr) : List Bool := heL f.id f.ext f.rem f.dlc ++ obL f.data
/-- A body. -/
def boL (f : Fr) : List Bool := preL f ++ biV (suV (preL f))

theorem preL_length (f : Fr) : (preL f).length = heN f.ext + 8 * f.data.length := by unfold preL; rw [List.length_append, heL_length, obL_length]
theorem boL_length (f : Fr) : (boL f).length = heN f.ext + 8 * f.data.length + 15 := by unfold boL; rw [List.length_append, preL_length, biV_length]

theorem riF_long {id : Nat} {ext rem : Bool} {dlc n : Nat} (h : riF id ext rem dlc n = true) : n = lonF rem dlc ∧ n ≤ 8 ∧ dlc ≤ 15 ∧ id ≤ 536870911 := by
  unfold riF at h
  simp only [Bool.and_eq_true, decide_eq_true_eq] at h
  obtain ⟨⟨h1, h2⟩, h3⟩ := h
  refine ⟨h3, ?_, h2, ?_⟩
  · rw [h3]; unfold lonF; split <;> omega
  · split at h1 <;> omega

/-- What a box's cells are in each world that has only grown. -/
theorem held5 {w0 w' : World} {g : Nat} {E : TypeId} {v0 v1 v2 v3 v4 : Value} (h : w0.heap[g]? = some (.cells #[v0, v1, v2, v3, v4] E (0, 0))) (hb : Below w0.heap.size w0 w') :
    w'.cell? ⟨g, 0, none⟩ = some v0 ∧ w'.cell? ⟨g, 1, none⟩ = some v1 ∧ w'.cell? ⟨g, 2, none⟩ = some v2 ∧ w'.cell? ⟨g, 3, none⟩ = some v3 ∧ w'.cell? ⟨g, 4, none⟩ = some v4 ∧ Below w0.heap.size w0 w' := by
  obtain ⟨k0, k1, k2, k3, k4⟩ := bx5 (bx_below h hb)
  exact ⟨k0, k1, k2, k3, k4, hb⟩

end Go.Proofs.Ytffbkcjkmhjfnaa

namespace Go.Proofs.Ytffbkcjkmhjfnaa
open Go.RowKit Go.Sort
set_option linter.unusedVariables false

/-- A wire form. -/
def wiL (f : Fr) : List Bool := putL (boL f) ++ List.replicate 10 true

theorem rep_snoc {α : Type} (l : List α) (k : Nat) (x : α) : l ++ List.replicate k x ++ [x] = l ++ List.replicate (k + 1) x := by rw [List.append_assoc, List.replicate_succ']

theorem boL_le {f : Fr} {n : Nat} (hl : f.data.length = n) (hn : n ≤ 8) : (boL f).length ≤ 118 ∧ (boL f).length = heN f.ext + 8 * n + 15 := by
  rw [boL_length, hl]; unfold heN; split <;> omega

end Go.Proofs.Ytffbkcjkmhjfnaa

namespace Go.Proofs.Ytffbkcjkmhjfnaa
open Go.RowKit Go.Sort
set_option linter.unusedVariables false

/-- Whether the first row wins against the second one. -/
def bfL : List Bool → List Bool → Bool
  | x :: l, y :: m => if x = y then bfL l m else y
  | _, _ => false

theorem bfL_step {l m : List Bool} {k : Nat} {x : Bool} (h1 : l[k]? = some x) (h2 : m[k]? = some x) : bfL (l.drop (k + 1)) (m.drop (k + 1)) = bfL (l.drop k) (m.drop k) := by
  rw [drop_at h1, drop_at h2]; simp [bfL]

theorem bfL_stop {l m : List Bool} {k : Nat} {x y : Bool} (h1 : l[k]? = some x) (h2 : m[k]? = some y) (h : x ≠ y) : bfL (l.drop k) (m.drop k) = y := by
  rw [drop_at h1, drop_at h2]; simp [bfL, h]

theorem bfL_end {l m : List Bool} {k : Nat} (h : l.length ≤ k ∨ m.length ≤ k) : bfL (l.drop k) (m.drop k) = false := by
  rcases h with h | h
  · rw [List.drop_eq_nil_of_le h]; simp [bfL]
  · rw [List.drop_eq_nil_of_le h]; cases l.drop k <;> simp [bfL]

theorem boxed2 (w : World) (E : TypeId) (u v : Array Value) : ∃ w0, Hid ((w.alloc (.cells u E)).alloc (.cells v E) = w0) ∧ w0.heap[w.heap.size]? = some (.cells u E (0, 0)) ∧ w0.heap[w.heap.size + 1]? = some (.cells v E (0, 0)) ∧ Below w.heap.size w w0 := by
  obtain ⟨h1, h2, h3⟩ := two_bx (w := w) (E := E) (F := E) (u := u) (v := v) (Below.refl _ _)
  exact ⟨_, rfl, h1, h2, h3⟩

theorem held10 {w0 w' : World} {g g' : Nat} {E : TypeId} {v0 v1 v2 v3 v4 u0 u1 u2 u3 u4 : Value} (h : w0.heap[g]? = some (.cells #[v0, v1, v2, v3, v4] E (0, 0))) (h' : w0.heap[g']? = some (.cells #[u0, u1, u2, u3, u4] E (0, 0))) (hb : Below w0.heap.size w0 w') :
    w'.cell? ⟨g, 0, none⟩ = some v0 ∧ w'.cell? ⟨g, 1, none⟩ = some v1 ∧ w'.cell? ⟨g, 2, none⟩ = some v2 ∧ w'.cell? ⟨g, 3, none⟩ = some v3 ∧ w'.cell? ⟨g, 4, none⟩ = some v4 ∧
    w'.cell? ⟨g', 0, none⟩ = some u0 ∧ w'.cell? ⟨g', 1, none⟩ = some u1 ∧ w'.cell? ⟨g', 2, none⟩ = some u2 ∧ w'.cell? ⟨g', 3, none⟩ = some u3 ∧ w'.cell? ⟨g', 4, none⟩ = some u4 ∧ Below w0.heap.size w0 w' := by
  obtain ⟨k0, k1, k2, k3, k4⟩ := bx5 (bx_below h hb)
  obtain ⟨q0, q1, q2, q3, q4⟩ := bx5 (bx_below h' hb)
  exact ⟨k0, k1, k2, k3, k4, q0, q1, q2, q3, q4, hb⟩

end Go.Proofs.Ytffbkcjkmhjfnaa
