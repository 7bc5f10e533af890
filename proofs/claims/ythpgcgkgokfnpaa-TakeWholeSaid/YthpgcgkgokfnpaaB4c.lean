/-
  Contracts of contest and head (the program's), and of the document's head.
-/
import Derived.Test.YthpgcgkgokfnpaaB4
import Derived.Test.YthpgcgkgokfnpaaB3c
namespace Go.Proofs.Ythpgcgkgokfnpaa
open Go.RowKit Go.Sort
set_option linter.unusedVariables false

/-- The first part of a head. -/
def conL (id : Nat) (ext rem : Bool) : List Bool := if ext then [false] ++ ofL (id / 262144) 11 ++ [true, true] ++ ofL id 18 ++ [rem] else [false] ++ ofL id 11 ++ [rem, false]

/-- A head. -/
def heL (id : Nat) (ext rem : Bool) (dlc : Nat) : List Bool := conL id ext rem ++ [false] ++ (if ext then [false] else []) ++ ofL dlc 4

def conN (ext : Bool) : Nat := if ext then 33 else 14
def heN (ext : Bool) : Nat := if ext then 39 else 19

theorem conL_length (id : Nat) (ext rem : Bool) : (conL id ext rem).length = conN ext := by cases ext <;> simp [conL, conN]
theorem heL_length (id : Nat) (ext rem : Bool) (dlc : Nat) : (heL id ext rem dlc).length = heN ext := by cases ext <;> simp [heL, conL, heN]

theorem clamp_11 : clampM 11 = 11 := by decide
theorem clamp_18 : clampM 18 = 18 := by decide
theorem clamp_4 : clampM 4 = 4 := by decide

/-- A row that grows beside a box that was laid first. -/
structure St (w w' : World) (a : Option Addr) (n c : Nat) (l : List Bool) (bx : Array Value) (T : TypeId) : Prop where
  row : OL .bool 4 (w.heap.size + 1) w' a n c l
  box : w'.heap[w.heap.size]? = some (.cells bx T (0, 0))
  bel : Below w.heap.size w w'
  siz : w.heap.size + 1 ≤ w'.heap.size

section
variable {w w' w'' : World} {a a' : Option Addr} {n c n' c' : Nat} {l l' : List Bool} {bx : Array Value} {T : TypeId}
theorem St.call (h : St w w' a n c l bx T) (g : Below w'.heap.size w' w'') : St w w'' a n c l bx T := ⟨h.row.below g, bx_below h.box g, bstep h.bel g, Nat.le_trans h.siz g.size⟩
theorem St.alloc (h : St w w' a n c l bx T) (o : Obj) : St w (w'.alloc o) a n c l bx T := ⟨h.row.alloc o, bx_alloc o h.box, bnew h.bel o, by simp; have := h.siz; omega⟩
theorem St.app (h : St w w' a n c l bx T) (hol : OL .bool 4 (w.heap.size + 1) w'' a' n' c' l') (g : Below (w.heap.size + 1) w' w'') : St w w'' a' n' c' l' bx T :=
  ⟨hol, by rw [g.block _ (Nat.lt_succ_self _)]; exact h.box, h.bel.trans (g.mono (by omega)), Nat.le_trans h.siz g.size⟩
theorem St.lit (w : World) (bx : Array Value) (T : TypeId) (b : Bool) : St w ((w.alloc (.cells bx T)).alloc (.cells #[.bool b] 4)) (some ⟨w.heap.size + 1, 0, none⟩) 1 1 [b] bx T := by
  have h1 := ol_lit Value.bool 4 (w.heap.size + 1) (w.alloc (.cells bx T)) [b] #[.bool b] 1 rfl rfl (by omega) (by simp)
  rw [heap_size_alloc] at h1
  exact ⟨h1, bx_alloc _ (heap_alloc_new w _), bnew (bnew0 _ _) _, by simp⟩
theorem St.ol (h : St w w' a n c l bx T) : OL .bool 4 w.heap.size w' a n c l := h.row.mono (by omega)
end

theorem lit1 (w : World) (x : Bool) : RL .bool (w.alloc (.cells #[.bool x] 4)) (some ⟨w.heap.size, 0, none⟩) 1 1 [x] := (ol_lit Value.bool 4 w.heap.size w [x] #[.bool x] 1 rfl rfl (by omega) (Nat.le_refl _)).rl
theorem lit2 (w : World) (x y : Bool) : RL .bool (w.alloc (.cells #[.bool x, .bool y] 4)) (some ⟨w.heap.size, 0, none⟩) 2 2 [x, y] := (ol_lit Value.bool 4 w.heap.size w [x, y] #[.bool x, .bool y] 2 rfl rfl (by omega) (Nat.le_refl _)).rl
theorem lit3 (w : World) (x y z : Bool) : RL .bool (w.alloc (.cells #[.bool x, .bool y, .bool z] 4)) (some ⟨w.heap.size, 0, none⟩) 3 3 [x, y, z] := (ol_lit Value.bool 4 w.heap.size w [x, y, z] #[.bool x, .bool y, .bool z] 3 rfl rfl (by omega) (Nat.le_refl _)).rl

theorem contest_any (w : World) (id : Nat) (ext rem : Bool) (dlc : Nat) (a : Option Addr) (n c : Nat) (hi : id < 4294967296) :
    Calls Try.prog 55 #[.agg #[.int .u32 (id : Int), .bool ext, .bool rem, .int .u8 (dlc : Int), .slice a n c]] w fun e w' => ∃ a' c', e = .returned (.slice a' (conN ext) c') ∧ OL .bool 4 w.heap.size w' a' (conN ext) c' (conL id ext rem) ∧ Below w.heap.size w w' := by
  cases ext
  · go_enter Try.func55, Try.ntmps55
    go_wp2_with (first
      | (go_at_call 56; (with_reducible refine (of_any _ id 11 hi (by omega)).mono ?_); rw [clamp_11]; rintro e w2 ⟨a2, c2, rfl, hol2, g2⟩; have st2 := (St.lit w _ 36 false).call g2; obtain ⟨_, _, k2, _, _⟩ := bx5 st2.box; clear k2; have hs2 := st2.siz)
      | (at_builtin; refine wpList_app (f := Value.bool) (B := w.heap.size + 1) (w := w2) tB rfl _ _ rfl rfl st2.row rfl hol2.rl (fun _ => rfl) (by omega) (by omega) (by omega) ?_; intro w3 a3 c3 hol3 g3; have st3 := st2.app hol3 g3; obtain ⟨_, _, k2, _, _⟩ := bx5 st3.box; have hs3 := st3.siz)
      | (at_builtin; refine wpList_app (f := Value.bool) (B := w.heap.size + 1) tB rfl _ _ rfl rfl (st3.alloc _).row rfl (lit2 w3 rem false) (fun _ => rfl) (by omega) (by omega) (by simp; omega) ?_; intro w4 a4 c4 hol4 g4; have st4 := (st3.alloc _).app hol4 g4))
    go_ret
    exact ⟨_, _, rfl, st4.ol, st4.bel⟩
  · obtain ⟨y, hy⟩ : ∃ y, y = id / 262144 := ⟨_, rfl⟩
    have hi2 : y < 4294967296 := by omega
    have hsh : Op.shift .shr .u32 (id : Int) .u64 18 = pure (.int .u32 (y : Int)) := by
      rw [shift_shr_any _ _ _ _ (by omega), hy]
      rfl
    have HY : Hid (conL id true rem = [false] ++ ofL y 11 ++ [true, true] ++ ofL id 18 ++ [rem]) := by show _ = _; rw [hy]; rfl
    rw [HY.out]
    clear hy
    go_enter Try.func55, Try.ntmps55
    go_wp2_with (first
      | (go_at_call 56; (with_reducible refine (of_any _ y 11 hi2 (by omega)).mono ?_); rw [clamp_11]; rintro e w2 ⟨a2, c2, rfl, hol2, g2⟩; have st2 := (St.lit w _ 36 false).call g2; have hs2 := st2.siz)
      | (at_builtin; refine wpList_app (f := Value.bool) (B := w.heap.size + 1) (w := w2) tB rfl _ _ rfl rfl st2.row rfl hol2.rl (fun _ => rfl) (by omega) (by omega) (by omega) ?_; intro w3 a3 c3 hol3 g3; have st3 := st2.app hol3 g3; have hs3 := st3.siz)
      | (at_builtin; refine wpList_app (f := Value.bool) (B := w.heap.size + 1) tB rfl _ _ rfl rfl (st3.alloc _).row rfl (lit2 w3 true true) (fun _ => rfl) (by omega) (by omega) (by simp; omega) ?_; intro w4 a4 c4 hol4 g4; have st4 := (st3.alloc _).app hol4 g4; obtain ⟨k0, _, _, _, _⟩ := bx5 st4.box)
      | (go_at_call 56; (with_reducible refine (of_any w4 id 18 hi (by omega)).mono ?_); rw [clamp_18]; rintro e w5 ⟨a5, c5, rfl, hol5, g5⟩; have st5 := st4.call g5; have hs5 := st5.siz)
      | (at_builtin; refine wpList_app (f := Value.bool) (B := w.heap.size + 1) (w := w5) tB rfl _ _ rfl rfl st5.row rfl hol5.rl (fun _ => rfl) (by omega) (by omega) (by omega) ?_; intro w6 a6 c6 hol6 g6; have st6 := st5.app hol6 g6; obtain ⟨_, _, k2, _, _⟩ := bx5 st6.box; have hs6 := st6.siz)
      | (at_builtin; refine wpList_app (f := Value.bool) (B := w.heap.size + 1) tB rfl _ _ rfl rfl (st6.alloc _).row rfl (lit1 w6 rem) (fun _ => rfl) (by omega) (by omega) (by simp; omega) ?_; intro w7 a7 c7 hol7 g7; have st7 := (st6.alloc _).app hol7 g7))
    go_ret
    exact ⟨_, _, rfl, st7.ol, st7.bel⟩

theorem head_any (w : World) (id : Nat) (ext rem : Bool) (dlc : Nat) (a : Option Addr) (n c : Nat) (hi : id < 4294967296) (hd : dlc < 256) :
    Calls Try.prog 32 #[.agg #[.int .u32 (id : Int), .bool ext, .bool rem, .int .u8 (dlc : Int), .slice a n c]] w fun e w' => ∃ a' c', e = .returned (.slice a' (heN ext) c') ∧ OL .bool 4 w.heap.size w' a' (heN ext) c' (heL id ext rem dlc) ∧ Below w.heap.size w w' := by
  cases ext
  · have hc : ∀ w0, Calls Try.prog 55 #[.agg #[.int .u32 (id : Int), .bool false, .bool rem, .int .u8 (dlc : Int), .slice a n c]] w0 fun e w' => ∃ a' c', e = .returned (.slice a' (14) c') ∧ OL .bool 4 w0.heap.size w' a' (14) c' (conL id false rem) ∧ Below w0.heap.size w0 w' := fun w0 => contest_any w0 id false rem dlc a n c hi
    go_enter Try.func32, Try.ntmps32
    go_wp2_with (first
      | (go_at_call 55; refine (hc _).mono ?_; rintro e w2 ⟨a2, c2, rfl, hol2, g2⟩; have st2 : St w w2 a2 14 c2 (conL id false rem) _ _ := ⟨by simpa using hol2, bx_below (heap_alloc_new w _) g2, bstep (bnew0 _ _) g2, by have := g2.size; simp at this; omega⟩; have hs2 := st2.siz; clear hol2 g2)
      | (at_builtin; refine wpList_app (f := Value.bool) (B := w.heap.size + 1) tB rfl _ _ rfl rfl (st2.alloc _).row rfl (lit1 w2 false) (fun _ => rfl) (by omega) (by omega) (by simp; omega) ?_; intro w3 a3 c3 hol3 g3; have st3 := (st2.alloc _).app hol3 g3; obtain ⟨_, k1, _, k3, _⟩ := bx5 st3.box; have hs3 := st3.siz)
      | (go_at_call 56; (with_reducible refine (of_any w3 dlc 4 (by omega) (by omega)).mono ?_); rw [clamp_4]; rintro e w5 ⟨a5, c5, rfl, hol5, g5⟩; have st5 := st3.call g5; have hs5 := st5.siz)
      | (at_builtin; refine wpList_app (f := Value.bool) (B := w.heap.size + 1) (w := w5) tB rfl _ _ rfl rfl st5.row rfl hol5.rl (fun _ => rfl) (by omega) (by omega) (by omega) ?_; intro w6 a6 c6 hol6 g6; have st6 := st5.app hol6 g6))
    go_ret
    exact ⟨_, _, rfl, st6.ol, st6.bel⟩
  · have hc : ∀ w0, Calls Try.prog 55 #[.agg #[.int .u32 (id : Int), .bool true, .bool rem, .int .u8 (dlc : Int), .slice a n c]] w0 fun e w' => ∃ a' c', e = .returned (.slice a' (33) c') ∧ OL .bool 4 w0.heap.size w' a' (33) c' (conL id true rem) ∧ Below w0.heap.size w0 w' := fun w0 => contest_any w0 id true rem dlc a n c hi
    go_enter Try.func32, Try.ntmps32
    go_wp2_with (first
      | (go_at_call 55; refine (hc _).mono ?_; rintro e w2 ⟨a2, c2, rfl, hol2, g2⟩; have st2 : St w w2 a2 33 c2 (conL id true rem) _ _ := ⟨by simpa using hol2, bx_below (heap_alloc_new w _) g2, bstep (bnew0 _ _) g2, by have := g2.size; simp at this; omega⟩; have hs2 := st2.siz; clear hol2 g2)
      | (at_builtin; refine wpList_app (f := Value.bool) (B := w.heap.size + 1) tB rfl _ _ rfl rfl (st2.alloc _).row rfl (lit1 w2 false) (fun _ => rfl) (by omega) (by omega) (by simp; omega) ?_; intro w3 a3 c3 hol3 g3; have st3 := (st2.alloc _).app hol3 g3; obtain ⟨_, k1, _, k3, _⟩ := bx5 st3.box; have hs3 := st3.siz)
      | (at_builtin; refine wpList_app (f := Value.bool) (B := w.heap.size + 1) tB rfl _ _ rfl rfl (st3.alloc _).row rfl (lit1 w3 false) (fun _ => rfl) (by omega) (by omega) (by simp; omega) ?_; intro w4 a4 c4 hol4 g4; have st4 := (st3.alloc _).app hol4 g4; obtain ⟨_, k1', _, k3', _⟩ := bx5 st4.box; have hs4 := st4.siz)
      | (go_at_call 56; (with_reducible refine (of_any w4 dlc 4 (by omega) (by omega)).mono ?_); rw [clamp_4]; rintro e w5 ⟨a5, c5, rfl, hol5, g5⟩; have st5 := st4.call g5; have hs5 := st5.siz)
      | (at_builtin; refine wpList_app (f := Value.bool) (B := w.heap.size + 1) (w := w5) tB rfl _ _ rfl rfl st5.row rfl hol5.rl (fun _ => rfl) (by omega) (by omega) (by omega) ?_; intro w6 a6 c6 hol6 g6; have st6 := st5.app hol6 g6))
    go_ret
    exact ⟨_, _, rfl, st6.ol, st6.bel⟩
end Go.Proofs.Ythpgcgkgokfnpaa
