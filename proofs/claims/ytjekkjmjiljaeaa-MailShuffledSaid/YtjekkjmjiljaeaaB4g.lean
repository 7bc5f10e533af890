/-
  Contracts of Right (the program's and the document's).
  Contracts of contest and head (the program's), and of the document's head.
  Contracts of Body (the program's and the document's).
  Contracts of Wire (the program's and the document's).
  Contracts of Before (the program's and the document's).
-/
import Derived.Test.YtjekkjmjiljaeaaB4
import Derived.WalkSmall
namespace Go.Proofs.Ytjekkjmjiljaeaa
open Go.RowKit Go.Sort
set_option linter.unusedVariables false

theorem frRight_any (w : World) (id : Nat) (ext rem : Bool) (dlc : Nat) (a : Option Addr) (n c : Nat) (hi : id < 4294967296) (hd : dlc < 256) :
    Calls Try.prog 18 #[.agg #[.int .u32 (id : Int), .bool ext, .bool rem, .int .u8 (dlc : Int), .slice a n c]] w fun e w' => e = .returned (.bool (riF id ext rem dlc n)) ∧ Below w.heap.size w w' := by
  obtain ⟨r, hr⟩ : ∃ r, r = riF id ext rem dlc n := ⟨_, rfl⟩
  rw [← hr]
  obtain ⟨L, hL⟩ : ∃ L, L = lonF rem dlc := ⟨_, rfl⟩
  obtain ⟨G, hG⟩ : ∃ G : Int, G = if ext then 536870911 else 2047 := ⟨_, rfl⟩
  have hr2 : r = (decide ((id : Int) ≤ G) && decide ((dlc : Int) ≤ 15) && decide ((n : Int) = L)) := by
    rw [hr, hL, hG]; unfold riF; rw [Bool.eq_iff_iff]; cases ext <;> simp <;> omega
  clear hr
  have HR := hid hr2
  clear hr2
  have hlong : ∀ (w0 : World) d os, Calls Try.prog 39 #[.agg #[.int .u32 (id : Int), .bool ext, .bool rem, .int .u8 (dlc : Int), .slice a n c]] (grow (redrawn w0 d) os) fun e w'' => e = .returned (.int .i64 (L : Int)) ∧ ∃ p : Regrown, w'' = grow (redrawn w0 p.d) p.os := fun w0 d os => by
    rw [hL]; exact Calls.regrown_of (frLong_any _ id ext rem dlc a n c hd)
  clear hL
  have hcases : (decide ((id : Int) ≤ G) = true ∧ decide ((dlc : Int) ≤ 15) = true) ∨ (decide ((id : Int) ≤ G) = false) ∨ (decide ((id : Int) ≤ G) = true ∧ decide ((dlc : Int) ≤ 15) = false) := by simp only [decide_eq_false_iff_not, decide_eq_true_eq]; omega
  obtain ⟨w0, hw0, hbx, c0, c1, c2, c3, c4, gg0⟩ := boxed w 34 (.int .u32 (id : Int)) (.bool ext) (.bool rem) (.int .u8 (dlc : Int)) (.slice a n c)
  clear hbx
  cases ext
  all_goals
    simp only [Bool.false_eq_true, if_false, if_true] at hG
    rcases hcases with ⟨h1, h2⟩ | h1 | ⟨h1, h2⟩
    all_goals
      subst hG
      go_enter Try.func18, Try.ntmps18
      go_wp2_with fail
      rw [hw0.out]
      refine wp_region_quiet_below (by kernel_rfl) (by kernel_rfl) ?_
      repeat (go_big_quiet_step (first
        | (go_at_call 39; exact hlong _ _ _)))
      refine wpQuiet_nil ?_
      intro w9 hw9
      have gg : Below w0.heap.size w0 w9 := by obtain ⟨p9, rfl⟩ := hw9; exact below_regrown _ _ _
      clear hw9
      go_wp2
      go_ret
      refine ⟨ret_bool ?_, bstep gg0 gg⟩
      rw [HR.out]
      first | (rw [h1, h2]; rfl) | (rw [h1, h2]; simp) | (rw [h1]; rfl)

theorem refRight_any (w : World) (id : Nat) (ext rem : Bool) (dlc : Nat) (a : Option Addr) (n c : Nat) (hi : id < 4294967296) (hd : dlc < 256) :
    Calls Try.prog 43 #[.agg #[.int .u32 (id : Int), .bool ext, .bool rem, .int .u8 (dlc : Int), .slice a n c]] w fun e w' => e = .returned (.bool (riF id ext rem dlc n)) ∧ Below w.heap.size w w' := by
  obtain ⟨r, hr⟩ : ∃ r, r = riF id ext rem dlc n := ⟨_, rfl⟩
  rw [← hr]
  obtain ⟨L, hL⟩ : ∃ L, L = lonF rem dlc := ⟨_, rfl⟩
  have hr2 : r = (decide ((id : Int) < 2048 ∨ ext = true ∧ (id : Int) < 536870912) && !decide ((dlc : Int) > 15) && decide ((n : Int) = L)) := by
    rw [hr, hL]; unfold riF; rw [Bool.eq_iff_iff]; cases ext <;> simp <;> omega
  clear hr
  have HR := hid hr2
  clear hr2
  have hlong : ∀ (w0 : World) d os, Calls Try.prog 52 #[.agg #[.int .u32 (id : Int), .bool ext, .bool rem, .int .u8 (dlc : Int), .slice a n c]] (grow (redrawn w0 d) os) fun e w'' => e = .returned (.int .i64 (L : Int)) ∧ ∃ p : Regrown, w'' = grow (redrawn w0 p.d) p.os := fun w0 d os => by
    rw [hL]; exact Calls.regrown_of (refLong_any _ id ext rem dlc a n c hd)
  clear hL
  obtain ⟨w0, hw0, hbx, c0, c1, c2, c3, c4, gg0⟩ := boxed w 34 (.int .u32 (id : Int)) (.bool ext) (.bool rem) (.int .u8 (dlc : Int)) (.slice a n c)
  have hcases : (decide ((dlc : Int) > 15) = true) ∨ (decide ((dlc : Int) > 15) = false ∧ ((n : Int) != (L : Int)) = true) ∨ (decide ((dlc : Int) > 15) = false ∧ ((n : Int) != (L : Int)) = false) := by
    simp only [decide_eq_false_iff_not, decide_eq_true_eq, bne_iff_ne, bne_eq_false_iff_eq]; omega
  have hcas2 : (decide ((id : Int) < 2048) = true) ∨ (decide ((id : Int) < 2048) = false ∧ ext = false) ∨ (decide ((id : Int) < 2048) = false ∧ ext = true) := by
    cases ext <;> simp <;> omega
  rcases hcases with h1 | ⟨h1, h2⟩ | ⟨h1, h2⟩
  · go_enter Try.func43, Try.ntmps43
    go_wp2_with fail
    rw [hw0.out]
    refine wp_region_quiet_below (by kernel_rfl) (by kernel_rfl) ?_
    repeat (go_big_quiet_step (first
      | (go_at_call 52; exact hlong _ _ _)))
    refine wpQuiet_nil ?_
    intro w9 hw9
    have gg : Below w0.heap.size w0 w9 := by obtain ⟨p9, rfl⟩ := hw9; exact below_regrown _ _ _
    clear hw9
    go_wp2
    go_ret
    exact ⟨ret_bool (by rw [HR.out, h1]; simp), bstep gg0 gg⟩
  · go_enter Try.func43, Try.ntmps43
    go_wp2_with fail
    rw [hw0.out]
    refine wp_region_quiet_below (by kernel_rfl) (by kernel_rfl) ?_
    repeat (go_big_quiet_step (first
      | (go_at_call 52; exact hlong _ _ _)))
    refine wpQuiet_nil ?_
    intro w9 hw9
    have gg : Below w0.heap.size w0 w9 := by obtain ⟨p9, rfl⟩ := hw9; exact below_regrown _ _ _
    clear hw9
    go_wp2
    go_ret
    exact ⟨ret_bool (by rw [HR.out]; simp only [bne_iff_ne] at h2; rw [decide_eq_false h2]; simp), bstep gg0 gg⟩
  · rcases hcas2 with h3 | ⟨h3, h4⟩ | ⟨h3, h4⟩
    all_goals
      try subst h4
      go_enter Try.func43, Try.ntmps43
      go_wp2_with fail
      rw [hw0.out]
      refine wp_region_quiet_below (by kernel_rfl) (by kernel_rfl) ?_
      repeat (go_big_quiet_step (first
        | (go_at_call 52; exact hlong _ _ _)))
      refine wpQuiet_nil ?_
      intro w9 hw9
      have gg : Below w0.heap.size w0 w9 := by obtain ⟨p9, rfl⟩ := hw9; exact below_regrown _ _ _
      clear hw9
      obtain ⟨e0, e1, e2, e3, e4⟩ := bx5 (bx_below hbx gg)
      clear c0 c1 c2 c3 c4
      go_wp2
      go_ret
      refine ⟨ret_bool ?_, bstep gg0 gg⟩
      simp only [bne_eq_false_iff_eq] at h2
      simp only [decide_eq_false_iff_not, decide_eq_true_eq] at h1 h3
      rw [HR.out, Bool.eq_iff_iff]
      simp [h2]
      omega
end Go.Proofs.Ytjekkjmjiljaeaa

namespace Go.Proofs.Ytjekkjmjiljaeaa
open Go.RowKit Go.Sort
set_option linter.unusedVariables false

/-- The first part of a head. -/
def conL (id : Nat) (ext rem : Bool) : List Bool := if ext then [false] ++ ofL (id / 262144) 11 ++ [true, true] ++ ofL id 18 ++ [rem] else [false] ++ ofL id 11 ++ [rem, false]

/-- A head. -/
def heL (id : Nat) (ext rem : Bool) (dlc : Nat) : List Bool := conL id ext rem ++ [false] ++ (if ext then [false] else []) ++ ofL dlc 4

def conN (ext : Bool) : Nat := if ext then 33 else 14
def heN (ext : Bool) : Nat := if ext then 39 else 19

theorem conL_length (id : Nat) (ext rem : Bool) : (conL id ext rem).length = conN ext := by cases ext <;> simp [conL, conN]
theorem heL_length (id : Nat) (ext rem : Bool) (dlc : Nat) : (heL id ext rem dlc).length = heN ext := by cases ext <;> simp [heL, conL, heN]

theorem clamp_11 : clampM 11 = 11 := by decide
theorem clamp_18 : clampM 18 = 18 := by decide
theorem clamp_4 : clampM 4 = 4 := by decide

/-- A row that grows beside a box that was laid first. -/
structure St (w w' : World) (a : Option Addr) (n c : Nat) (l : List Bool) (bx : Array Value) (T : TypeId) : Prop where
  row : OL .bool 4 (w.heap.size + 1) w' a n c l
  box : w'.heap[w.heap.size]? = some (.cells bx T (0, 0))
  bel : Below w.heap.size w w'
  siz : w.heap.size + 1 ≤ w'.heap.size

section
variable {w w' w'' : World} {a a' : Option Addr} {n c n' c' : Nat} {l l' : List Bool} {bx : Array Value} {T : TypeId}
theorem St.call (h : St w w' a n c l bx T) (g : Below w'.heap.size w' w'') : St w w'' a n c l bx T := ⟨h.row.below g, bx_below h.box g, bstep h.bel g, Nat.le_trans h.siz g.size⟩
theorem St.alloc (h : St w w' a n c l bx T) (o : Obj) : St w (w'.alloc o) a n c l bx T := ⟨h.row.alloc o, bx_alloc o h.box, bnew h.bel o, by simp; have := h.siz; omega⟩
theorem St.app (h : St w w' a n c l bx T) (hol : OL .bool 4 (w.heap.size + 1) w'' a' n' c' l') (g : Below (w.heap.size + 1) w' w'') : St w w'' a' n' c' l' bx T :=
  ⟨hol, by rw [g.block _ (Nat.lt_succ_self _)]; exact h.box, h.bel.trans (g.mono (by omega)), Nat.le_trans h.siz g.size⟩
theorem St.lit (w : World) (bx : Array Value) (T : TypeId) (b : Bool) : St w ((w.alloc (.cells bx T)).alloc (.cells #[.bool b] 4)) (some ⟨w.heap.size + 1, 0, none⟩) 1 1 [b] bx T := by
  have h1 := ol_lit Value.bool 4 (w.heap.size + 1) (w.alloc (.cells bx T)) [b] #[.bool b] 1 rfl rfl (by omega) (by simp)
  rw [heap_size_alloc] at h1
  exact ⟨h1, bx_alloc _ (heap_alloc_new w _), bnew (bnew0 _ _) _, by simp⟩
theorem St.ol (h : St w w' a n c l bx T) : OL .bool 4 w.heap.size w' a n c l := h.row.mono (by omega)
end

theorem lit1 (w : World) (x : Bool) : RL .bool (w.alloc (.cells #[.bool x] 4)) (some ⟨w.heap.size, 0, none⟩) 1 1 [x] := (ol_lit Value.bool 4 w.heap.size w [x] #[.bool x] 1 rfl rfl (by omega) (Nat.le_refl _)).rl
theorem lit2 (w : World) (x y : Bool) : RL .bool (w.alloc (.cells #[.bool x, .bool y] 4)) (some ⟨w.heap.size, 0, none⟩) 2 2 [x, y] := (ol_lit Value.bool 4 w.heap.size w [x, y] #[.bool x, .bool y] 2 rfl rfl (by omega) (Nat.le_refl _)).rl
theorem lit3 (w : World) (x y z : Bool) : RL .bool (w.alloc (.cells #[.bool x, .bool y, .bool z] 4)) (some ⟨w.heap.size, 0, none⟩) 3 3 [x, y, z] := (ol_lit Value.bool 4 w.heap.size w [x, y, z] #[.bool x, .bool y, .bool z] 3 rfl rfl (by omega) (Nat.le_refl _)).rl

theorem contest_any (w : World) (id : Nat) (ext rem : Bool) (dlc : Nat) (a : Option Addr) (n c : Nat) (hi : id < 4294967296) :
    Calls Try.prog 40 #[.agg #[.int .u32 (id : Int), .bool ext, .bool rem, .int .u8 (dlc : Int), .slice a n c]] w fun e w' => ∃ a' c', e = .returned (.slice a' (conN ext) c') ∧ OL .bool 4 w.heap.size w' a' (conN ext) c' (conL id ext rem) ∧ Below w.heap.size w w' := by
  cases ext
  · go_enter Try.func40, Try.ntmps40
    go_wp2_with (first
      | (go_at_call 50; (with_reducible refine (of_any _ id 11 hi (by omega)).mono ?_); rw [clamp_11]; rintro e w2 ⟨a2, c2, rfl, hol2, g2⟩; have st2 := (St.lit w _ 34 false).call g2; obtain ⟨_, _, k2, _, _⟩ := bx5 st2.box; clear k2; have hs2 := st2.siz)
      | (at_builtin; refine wpList_app (f := Value.bool) (B := w.heap.size + 1) (w := w2) tB rfl _ _ rfl rfl st2.row rfl hol2.rl (fun _ => rfl) (by omega) (by omega) (by omega) ?_; intro w3 a3 c3 hol3 g3; have st3 := st2.app hol3 g3; obtain ⟨_, _, k2, _, _⟩ := bx5 st3.box; have hs3 := st3.siz)
      | (at_builtin; refine wpList_app (f := Value.bool) (B := w.heap.size + 1) tB rfl _ _ rfl rfl (st3.alloc _).row rfl (lit2 w3 rem false) (fun _ => rfl) (by omega) (by omega) (by simp; omega) ?_; intro w4 a4 c4 hol4 g4; have st4 := (st3.alloc _).app hol4 g4))
    go_ret
    exact ⟨_, _, rfl, st4.ol, st4.bel⟩
  · obtain ⟨y, hy⟩ : ∃ y, y = id / 262144 := ⟨_, rfl⟩
    have hi2 : y < 4294967296 := by omega
    have hsh : Op.shift .shr .u32 (id : Int) .u64 18 = pure (.int .u32 (y : Int)) := by
      rw [shift_shr_any _ _ _ _ (by omega), hy]
      rfl
    have HY : Hid (conL id true rem = [false] ++ ofL y 11 ++ [true, true] ++ ofL id 18 ++ [rem]) := by show _ = _; rw [hy]; rfl
    rw [HY.out]
    clear hy
    go_enter Try.func40, Try.ntmps40
    go_wp2_with (first
      | (go_at_call 50; (with_reducible refine (of_any _ y 11 hi2 (by omega)).mono ?_); rw [clamp_11]; rintro e w2 ⟨a2, c2, rfl, hol2, g2⟩; have st2 := (St.lit w _ 34 false).call g2; have hs2 := st2.siz)
      | (at_builtin; refine wpList_app (f := Value.bool) (B := w.heap.size + 1) (w := w2) tB rfl _ _ rfl rfl st2.row rfl hol2.rl (fun _ => rfl) (by omega) (by omega) (by omega) ?_; intro w3 a3 c3 hol3 g3; have st3 := st2.app hol3 g3; have hs3 := st3.siz)
      | (at_builtin; refine wpList_app (f := Value.bool) (B := w.heap.size + 1) tB rfl _ _ rfl rfl (st3.alloc _).row rfl (lit2 w3 true true) (fun _ => rfl) (by omega) (by omega) (by simp; omega) ?_; intro w4 a4 c4 hol4 g4; have st4 := (st3.alloc _).app hol4 g4; obtain ⟨k0, _, _, _, _⟩ := bx5 st4.box)
      | (go_at_call 50; (with_reducible refine (of_any w4 id 18 hi (by omega)).mono ?_); rw [clamp_18]; rintro e w5 ⟨a5, c5, rfl, hol5, g5⟩; have st5 := st4.call g5; have hs5 := st5.siz)
      | (at_builtin; refine wpList_app (f := Value.bool) (B := w.heap.size + 1) (w := w5) tB rfl _ _ rfl rfl st5.row rfl hol5.rl (fun _ => rfl) (by omega) (by omega) (by omega) ?_; intro w6 a6 c6 hol6 g6; have st6 := st5.app hol6 g6; obtain ⟨_, _, k2, _, _⟩ := bx5 st6.box; have hs6 := st6.siz)
      | (at_builtin; refine wpList_app (f := Value.bool) (B := w.heap.size + 1) tB rfl _ _ rfl rfl (st6.alloc _).row rfl (lit1 w6 rem) (fun _ => rfl) (by omega) (by omega) (by simp; omega) ?_; intro w7 a7 c7 hol7 g7; have st7 := (st6.alloc _).app hol7 g7))
    go_ret
    exact ⟨_, _, rfl, st7.ol, st7.bel⟩

end Go.Proofs.Ytjekkjmjiljaeaa

namespace Go.Proofs.Ytjekkjmjiljaeaa
open Go.RowKit Go.Sort
set_option linter.unusedVariables false

/-- A body without its check sum. -/
def preL (f : Fr) : List Bool := heL f.id f.ext f.rem f.dlc ++ obL f.data
/-- A body. -/
def boL (f : Fr) : List Bool := preL f ++ biV (suV (preL f))

theorem preL_length (f : Fr) : (preL f).length = heN f.ext + 8 * f.data.length := by unfold preL; rw [List.length_append, heL_length, obL_length]
theorem boL_length (f : Fr) : (boL f).length = heN f.ext + 8 * f.data.length + 15 := by unfold boL; rw [List.length_append, preL_length, biV_length]

theorem riF_long {id : Nat} {ext rem : Bool} {dlc n : Nat} (h : riF id ext rem dlc n = true) : n = lonF rem dlc ∧ n ≤ 8 ∧ dlc ≤ 15 ∧ id ≤ 536870911 := by
  unfold riF at h
  simp only [Bool.and_eq_true, decide_eq_true_eq] at h
  obtain ⟨⟨h1, h2⟩, h3⟩ := h
  refine ⟨h3, ?_, h2, ?_⟩
  · rw [h3]; unfold lonF; split <;> omega
  · split at h1 <;> omega

/-- What a box's cells are in each world that has only grown. -/
theorem held5 {w0 w' : World} {g : Nat} {E : TypeId} {v0 v1 v2 v3 v4 : Value} (h : w0.heap[g]? = some (.cells #[v0, v1, v2, v3, v4] E (0, 0))) (hb : Below w0.heap.size w0 w') :
    w'.cell? ⟨g, 0, none⟩ = some v0 ∧ w'.cell? ⟨g, 1, none⟩ = some v1 ∧ w'.cell? ⟨g, 2, none⟩ = some v2 ∧ w'.cell? ⟨g, 3, none⟩ = some v3 ∧ w'.cell? ⟨g, 4, none⟩ = some v4 ∧ Below w0.heap.size w0 w' := by
  obtain ⟨k0, k1, k2, k3, k4⟩ := bx5 (bx_below h hb)
  exact ⟨k0, k1, k2, k3, k4, hb⟩

end Go.Proofs.Ytjekkjmjiljaeaa

namespace Go.Proofs.Ytjekkjmjiljaeaa
open Go.RowKit Go.Sort
set_option linter.unusedVariables false

/-- A wire form. -/
def wiL (f : Fr) : List Bool := putL (boL f) ++ List.replicate 10 true

theorem rep_snoc {α : Type} (l : List α) (k : Nat) (x : α) : l ++ List.replicate k x ++ [x] = l ++ List.replicate (k + 1) x := by rw [List.append_assoc, List.replicate_succ']

theorem boL_le {f : Fr} {n : Nat} (hl : f.data.length = n) (hn : n ≤ 8) : (boL f).length ≤ 118 ∧ (boL f).length = heN f.ext + 8 * n + 15 := by
  rw [boL_length, hl]; unfold heN; split <;> omega

end Go.Proofs.Ytjekkjmjiljaeaa

namespace Go.Proofs.Ytjekkjmjiljaeaa
open Go.RowKit Go.Sort
set_option linter.unusedVariables false

/-- Whether the first row wins against the second one. -/
def bfL : List Bool → List Bool → Bool
  | x :: l, y :: m => if x = y then bfL l m else y
  | _, _ => false

theorem bfL_step {l m : List Bool} {k : Nat} {x : Bool} (h1 : l[k]? = some x) (h2 : m[k]? = some x) : bfL (l.drop (k + 1)) (m.drop (k + 1)) = bfL (l.drop k) (m.drop k) := by
  rw [drop_at h1, drop_at h2]; simp [bfL]

theorem bfL_stop {l m : List Bool} {k : Nat} {x y : Bool} (h1 : l[k]? = some x) (h2 : m[k]? = some y) (h : x ≠ y) : bfL (l.drop k) (m.drop k) = y := by
  rw [drop_at h1, drop_at h2]; simp [bfL, h]

theorem bfL_end {l m : List Bool} {k : Nat} (h : l.length ≤ k ∨ m.length ≤ k) : bfL (l.drop k) (m.drop k) = false := by
  rcases h with h | h
  · rw [List.drop_eq_nil_of_le h]; simp [bfL]
  · rw [List.drop_eq_nil_of_le h]; cases l.drop k <;> simp [bfL]

theorem boxed2 (w : World) (E : TypeId) (u v : Array Value) : ∃ w0, Hid ((w.alloc (.cells u E)).alloc (.cells v E) = w0) ∧ w0.heap[w.heap.size]? = some (.cells u E (0, 0)) ∧ w0.heap[w.heap.size + 1]? = some (.cells v E (0, 0)) ∧ Below w.heap.size w w0 := by
  obtain ⟨h1, h2, h3⟩ := two_bx (w := w) (E := E) (F := E) (u := u) (v := v) (Below.refl _ _)
  exact ⟨_, rfl, h1, h2, h3⟩

theorem held10 {w0 w' : World} {g g' : Nat} {E : TypeId} {v0 v1 v2 v3 v4 u0 u1 u2 u3 u4 : Value} (h : w0.heap[g]? = some (.cells #[v0, v1, v2, v3, v4] E (0, 0))) (h' : w0.heap[g']? = some (.cells #[u0, u1, u2, u3, u4] E (0, 0))) (hb : Below w0.heap.size w0 w') :
    w'.cell? ⟨g, 0, none⟩ = some v0 ∧ w'.cell? ⟨g, 1, none⟩ = some v1 ∧ w'.cell? ⟨g, 2, none⟩ = some v2 ∧ w'.cell? ⟨g, 3, none⟩ = some v3 ∧ w'.cell? ⟨g, 4, none⟩ = some v4 ∧
    w'.cell? ⟨g', 0, none⟩ = some u0 ∧ w'.cell? ⟨g', 1, none⟩ = some u1 ∧ w'.cell? ⟨g', 2, none⟩ = some u2 ∧ w'.cell? ⟨g', 3, none⟩ = some u3 ∧ w'.cell? ⟨g', 4, none⟩ = some u4 ∧ Below w0.heap.size w0 w' := by
  obtain ⟨k0, k1, k2, k3, k4⟩ := bx5 (bx_below h hb)
  obtain ⟨q0, q1, q2, q3, q4⟩ := bx5 (bx_below h' hb)
  exact ⟨k0, k1, k2, k3, k4, q0, q1, q2, q3, q4, hb⟩

theorem before_any (w : World) (id : Nat) (ext rem : Bool) (dlc : Nat) (a : Option Addr) (n c : Nat) (id2 : Nat) (ext2 rem2 : Bool) (dlc2 : Nat) (a2 : Option Addr) (n2 c2 : Nat) (hi : id < 4294967296) (hd : dlc < 256) (hi2 : id2 < 4294967296) (hd2 : dlc2 < 256) :
    Calls Try.prog 21 #[.agg #[.int .u32 (id : Int), .bool ext, .bool rem, .int .u8 (dlc : Int), .slice a n c], .agg #[.int .u32 (id2 : Int), .bool ext2, .bool rem2, .int .u8 (dlc2 : Int), .slice a2 n2 c2]] w
      fun e w' => e = .returned (.bool (riF id ext rem dlc n && riF id2 ext2 rem2 dlc2 n2 && bfL (conL id ext rem) (conL id2 ext2 rem2))) ∧ Below w.heap.size w w' := by
  obtain ⟨w0, hw0, hbx, hby, gg0⟩ := boxed2 w 34 #[.int .u32 (id : Int), .bool ext, .bool rem, .int .u8 (dlc : Int), .slice a n c] #[.int .u32 (id2 : Int), .bool ext2, .bool rem2, .int .u8 (dlc2 : Int), .slice a2 n2 c2]
  have hr1 := fun w0 => frRight_any w0 id ext rem dlc a n c hi hd
  have hr2 := fun w0 => frRight_any w0 id2 ext2 rem2 dlc2 a2 n2 c2 hi2 hd2
  cases hA : riF id ext rem dlc n
  · rw [hA] at hr1
    go_enter Try.func21, Try.ntmps21
    go_wp2_with (first
      | (go_at_call 18; rw [hw0.out]; (with_reducible refine (hr1 w0).mono ?_); rintro e w1 ⟨rfl, g1⟩))
    go_ret
    exact ⟨rfl, bstep gg0 g1⟩
  rw [hA] at hr1
  cases hB : riF id2 ext2 rem2 dlc2 n2
  · rw [hB] at hr2
    go_enter Try.func21, Try.ntmps21
    go_wp2_with (first
      | (go_at_call 18; rw [hw0.out]; (with_reducible refine (hr1 w0).mono ?_); rintro e w1 ⟨rfl, g1⟩; obtain ⟨q0, q1, q2, q3, q4⟩ := bx5 (bx_below hby g1))
      | (go_at_call 18; (with_reducible refine (hr2 w1).mono ?_); rintro e w2 ⟨rfl, g2⟩))
    go_ret
    exact ⟨rfl, bstep (bstep gg0 g1) g2⟩
  rw [hB] at hr2
  have hc1 := fun w0 => contest_any w0 id ext rem dlc a n c hi
  have hc2 := fun w0 => contest_any w0 id2 ext2 rem2 dlc2 a2 n2 c2 hi2
  have hlen1 := conL_length id ext rem
  have hlen2 := conL_length id2 ext2 rem2
  obtain ⟨N1, hN1⟩ : ∃ N1, N1 = conN ext := ⟨_, rfl⟩
  obtain ⟨N2, hN2⟩ : ∃ N2, N2 = conN ext2 := ⟨_, rfl⟩
  obtain ⟨l1, hl1⟩ : ∃ l1, l1 = conL id ext rem := ⟨_, rfl⟩
  obtain ⟨l2, hl2⟩ : ∃ l2, l2 = conL id2 ext2 rem2 := ⟨_, rfl⟩
  simp only [← hN1, ← hl1] at hc1 hlen1
  simp only [← hN2, ← hl2] at hc2 hlen2
  rw [← hl1, ← hl2]
  have hN : N1 ≤ 33 ∧ N2 ≤ 33 := by rw [hN1, hN2]; unfold conN; constructor <;> split <;> omega
  clear hN1 hN2 hl1 hl2 hA hB
  obtain ⟨p, hp⟩ : ∃ p, p = min N1 N2 := ⟨_, rfl⟩
  have hp2 : p ≤ N1 ∧ p ≤ N2 ∧ (N1 ≤ p ∨ N2 ≤ p) := by omega
  have hmin : ∀ (ts : Array TypeId) (t : TypeId) (w' : World), (Builtin.min_ ts t #[.int .i64 (N1 : Int), .int .i64 (N2 : Int)]).run Try.prog w' = .ok (.int .i64 (p : Int)) w' := fun ts t w' => by
    rw [run_min_int2]; congr 2; split <;> omega
  clear hp
  obtain ⟨bt, hbt⟩ : ∃ bt, bt = bfL l1 l2 := ⟨_, rfl⟩
  rw [← hbt]
  simp only [Bool.true_and]
  go_enter Try.func21, Try.ntmps21
  go_wp2_with (first
    | (go_at_call 18; rw [hw0.out]; (with_reducible refine (hr1 w0).mono ?_); rintro e w1 ⟨rfl, g1⟩; obtain ⟨q0, q1, q2, q3, q4⟩ := bx5 (bx_below hby g1))
    | (go_at_call 18; (with_reducible refine (hr2 w1).mono ?_); rintro e w2 ⟨rfl, g2⟩; have hbx2 := bx_below (bx_below hbx g1) g2; have hby2 := bx_below (bx_below hby g1) g2; have gg2 := bstep (bstep gg0 g1) g2))
  clear q0 q1 q2 q3 q4
  have hd1 : Below w2.heap.size w2 w2.drew := (Below.refl _ _).drew
  go_region_held3 (fun w' => w'.cell? ⟨w.heap.size, 0, none⟩ = some (.int .u32 (id : Int)) ∧ w'.cell? ⟨w.heap.size, 1, none⟩ = some (.bool ext) ∧ w'.cell? ⟨w.heap.size, 2, none⟩ = some (.bool rem) ∧ w'.cell? ⟨w.heap.size, 3, none⟩ = some (.int .u8 (dlc : Int)) ∧ w'.cell? ⟨w.heap.size, 4, none⟩ = some (.slice a n c) ∧
      w'.cell? ⟨w.heap.size + 1, 0, none⟩ = some (.int .u32 (id2 : Int)) ∧ w'.cell? ⟨w.heap.size + 1, 1, none⟩ = some (.bool ext2) ∧ w'.cell? ⟨w.heap.size + 1, 2, none⟩ = some (.bool rem2) ∧ w'.cell? ⟨w.heap.size + 1, 3, none⟩ = some (.int .u8 (dlc2 : Int)) ∧ w'.cell? ⟨w.heap.size + 1, 4, none⟩ = some (.slice a2 n2 c2) ∧ Below w2.heap.size w2 w')
    (first
      | exact held10 hbx2 hby2 hd1
      | exact held10 hbx2 hby2 g15
      | exact held10 hbx2 hby2 g16)
    (first
      | (go_simp; go_at_call 40; (with_reducible refine Calls.mono (hc1 w2.drew) ?_); rintro e w5 ⟨a5, c5, rfl, hol5, g5⟩; have g15 : Below w2.heap.size w2 w5 := hd1.trans g5)
      | (go_simp; go_at_call 40; (with_reducible refine Calls.mono (hc2 w5) ?_); rintro e w6 ⟨a6, c6, rfl, hol6, g6⟩; have hol56 := (hol5.below g6).rl; have hr6 := hol6.rl; have g16 := bstep g15 g6))
  all_goals
    have gg6 := bstep gg2 g16
    clear hbx2 hby2 hc1 hc2 hr1 hr2 hbx hby hol5 hol6 g15 g16 hd1 gg2 gg0 g1 g2 g5 g6
    have HB := hid hbt; clear hbt
    go_wp2_with fail
    go_loopw [25] (fun i wr => ∃ k : Nat, k ≤ p ∧ i = .int .i64 (k : Int) ∧ bfL (l1.drop k) (l2.drop k) = bt ∧ Below w6.heap.size w6 wr) (fun i _ => p - (intOf i).toNat)
    case atStart => exact ⟨0, Nat.zero_le _, rfl, HB.out.symm, Below.refl _ _⟩
    case round =>
      obtain ⟨k, hk, rfl, hbf, hb⟩ := hrel
      have HF := hid hbf; clear hbf
      by_cases hlt : k < p
      · obtain ⟨b1, off1, x, rfl, hx, hck⟩ := (hol56.below hb).at (k := k) (by omega)
        obtain ⟨b2, off2, y, rfl, hy, hck2⟩ := (hr6.below hb).at (k := k) (by omega)
        have HX := hid hx; clear hx
        have HY := hid hy; clear hy
        have i1 : (k : Int) < (N1 : Int) := by omega
        have i2 : (k : Int) < (N2 : Int) := by omega
        by_cases hxy : x = y
        · subst hxy
          clear hmin
          go_wp2_with fail
          go_big_quiet (fail)
          go_wp2
          go_roundw
          case rel => exact ⟨k + 1, by omega, by go_num, (bfL_step HX.out HY.out).trans HF.out, below_drewN hb nq⟩
          case measure => simp [intOf]; omega
        · have hne : (x == y) = false := by simpa using hxy
          have HN : Hid (y = bt) := (bfL_stop HX.out HY.out hxy).symm.trans HF.out
          clear hxy hmin
          go_wp2_with fail
          go_big_quiet (fail)
          go_wp2
          go_ret
          exact ⟨ret_bool HN.out, bstep gg6 (below_drewN hb nq)⟩
      · obtain rfl : k = p := by omega
        have HE : Hid (bt = false) := HF.out.symm.trans (bfL_end (by rw [hlen1, hlen2]; exact hp2.2.2))
        clear hmin
        go_wp2
        go_ret
        exact ⟨ret_bool HE.out.symm, bstep gg6 hb⟩
end Go.Proofs.Ytjekkjmjiljaeaa
