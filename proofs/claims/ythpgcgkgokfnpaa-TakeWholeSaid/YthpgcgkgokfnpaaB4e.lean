/-
  Contracts of Body (the program's and the document's).
-/
import Derived.Test.YthpgcgkgokfnpaaB4b
import Derived.Test.YthpgcgkgokfnpaaB4c
namespace Go.Proofs.Ythpgcgkgokfnpaa
open Go.RowKit Go.Sort
set_option linter.unusedVariables false

/-- A body without its check sum. -/
def preL (f : Fr) : List Bool := heL f.id f.ext f.rem f.dlc ++ obL f.data
/-- A body. -/
def boL (f : Fr) : List Bool := preL f ++ biV (suV (preL f))

theorem preL_length (f : Fr) : (preL f).length = heN f.ext + 8 * f.data.length := by unfold preL; rw [List.length_append, heL_length, obL_length]
theorem boL_length (f : Fr) : (boL f).length = heN f.ext + 8 * f.data.length + 15 := by unfold boL; rw [List.length_append, preL_length, biV_length]

theorem riF_long {id : Nat} {ext rem : Bool} {dlc n : Nat} (h : riF id ext rem dlc n = true) : n = lonF rem dlc ∧ n ≤ 8 ∧ dlc ≤ 15 ∧ id ≤ 536870911 := by
  unfold riF at h
  simp only [Bool.and_eq_true, decide_eq_true_eq] at h
  obtain ⟨⟨h1, h2⟩, h3⟩ := h
  refine ⟨h3, ?_, h2, ?_⟩
  · rw [h3]; unfold lonF; split <;> omega
  · split at h1 <;> omega

/-- What a box's cells are in each world that has only grown. -/
theorem held5 {w0 w' : World} {g : Nat} {E : TypeId} {v0 v1 v2 v3 v4 : Value} (h : w0.heap[g]? = some (.cells #[v0, v1, v2, v3, v4] E (0, 0))) (hb : Below w0.heap.size w0 w') :
    w'.cell? ⟨g, 0, none⟩ = some v0 ∧ w'.cell? ⟨g, 1, none⟩ = some v1 ∧ w'.cell? ⟨g, 2, none⟩ = some v2 ∧ w'.cell? ⟨g, 3, none⟩ = some v3 ∧ w'.cell? ⟨g, 4, none⟩ = some v4 ∧ Below w0.heap.size w0 w' := by
  obtain ⟨k0, k1, k2, k3, k4⟩ := bx5 (bx_below h hb)
  exact ⟨k0, k1, k2, k3, k4, hb⟩

theorem body_wrong (w : World) (id : Nat) (ext rem : Bool) (dlc : Nat) (a : Option Addr) (n c : Nat) (hi : id < 4294967296) (hd : dlc < 256) (hw : riF id ext rem dlc n = false) :
    Calls Try.prog 16 #[.agg #[.int .u32 (id : Int), .bool ext, .bool rem, .int .u8 (dlc : Int), .slice a n c]] w fun e w' => e = .returned (.tuple #[.slice none 0 0, .int .i64 40]) ∧ Below w.heap.size w w' := by
  go_enter Try.func16, Try.ntmps16
  go_wp2_with (go_at_call 31; refine (frRight_any _ id ext rem dlc a n c hi hd).mono ?_; rw [hw]; rintro e w1 ⟨rfl, g1⟩)
  go_ret2
  exact ⟨rfl, bstep (bnew0 w _) g1⟩

theorem body_any (w : World) (id : Nat) (ext rem : Bool) (dlc : Nat) (a : Option Addr) (n c : Nat) (l : List UInt8) (hi : id < 4294967296) (hd : dlc < 256) (h : RL bv w a n c l) (hr : riF id ext rem dlc n = true) :
    Calls Try.prog 16 #[.agg #[.int .u32 (id : Int), .bool ext, .bool rem, .int .u8 (dlc : Int), .slice a n c]] w fun e w' => ∃ a' c', e = .returned (.tuple #[.slice a' (heN ext + 8 * n + 15) c', .int .i64 0]) ∧
      OL .bool 4 w.heap.size w' a' (heN ext + 8 * n + 15) c' (boL ⟨id, ext, rem, dlc, l⟩) ∧ Below w.heap.size w w' := by
  obtain ⟨hn1, hn8, _, _⟩ := riF_long hr
  have hpre : Hid (heL id ext rem dlc ++ obL l = preL ⟨id, ext, rem, dlc, l⟩) := rfl
  obtain ⟨w0, hw0, hbx, _, _, _, _, _, gg0⟩ := boxed w 36 (.int .u32 (id : Int)) (.bool ext) (.bool rem) (.int .u8 (dlc : Int)) (.slice a n c)
  have hs0 := bx_lt hbx
  clear hn1
  obtain ⟨N, hN⟩ : ∃ N, N = heN ext := ⟨_, rfl⟩
  have hN40 : N ≤ 39 := by rw [hN]; unfold heN; split <;> omega
  have hhead := fun w0 => head_any w0 id ext rem dlc a n c hi hd
  rw [← hN] at hhead ⊢
  clear hN
  have h0 := h.below gg0
  go_enter Try.func16, Try.ntmps16
  go_wp2_with (go_at_call 31; rw [hw0.out]; refine (frRight_any _ id ext rem dlc a n c hi hd).mono ?_; rw [hr]; rintro e w1 ⟨rfl, g1⟩; have hbx1 := bx_below hbx g1; have h1 := h0.below g1; have gg1 := bstep gg0 g1; have hs1 := g1.size)
  have hd1 : Below w1.heap.size w1 w1.drew := (Below.refl _ _).drew
  have hn9 : n ≤ 100000 := by omega
  go_region_held3 (fun w' => w'.cell? ⟨w.heap.size, 0, none⟩ = some (.int .u32 (id : Int)) ∧ w'.cell? ⟨w.heap.size, 1, none⟩ = some (.bool ext) ∧ w'.cell? ⟨w.heap.size, 2, none⟩ = some (.bool rem) ∧ w'.cell? ⟨w.heap.size, 3, none⟩ = some (.int .u8 (dlc : Int)) ∧ w'.cell? ⟨w.heap.size, 4, none⟩ = some (.slice a n c) ∧ Below w1.heap.size w1 w')
    (first
      | exact held5 hbx1 hd1
      | exact held5 hbx1 g15
      | exact held5 hbx1 g16
      | exact held5 hbx1 g17)
    (first
      | (go_simp; go_at_call 32; refine Calls.mono (hhead w1.drew) ?_; rintro e w5 ⟨a5, c5, rfl, hol5, g5⟩; have g15 : Below w1.heap.size w1 w5 := hd1.trans g5; have hs5 := g15.size)
      | (go_simp; go_at_call 33; refine Calls.mono (ofBytes_any w5 a n c l (h1.below g15) hn9) ?_; rintro e w6 ⟨a6, c6, rfl, hol6, g6⟩; have hol56 := hol5.below g6; have g16 := bstep g15 g6; have hs6 := g16.size)
      | (refine step_app (f := Value.bool) (B := w1.heap.size) (a := a5) (n := N) (c := c5) (l := heL id ext rem dlc) (a2 := a6) (n2 := 8 * n) (c2 := c6) (m := obL l) tB rfl (.tmp 9) (.tmp 12) rfl rfl hol56 rfl hol6.rl (fun _ => rfl) ?_ ?_ ?_ ?_; omega; omega; exact hs6; intro w7 a7 c7 hol7 g7; have g17 := g16.trans g7))
  all_goals
    have gB := g17
    rw [hpre.out] at hol7
    have hs7 := gB.size
    have gg7 := gg1.trans (gB.mono gg1.size)
    go_wp2_with (first
      | (go_at_call 35; refine (sum_any w7 a7 _ c7 _ hol7.rl (by omega)).mono ?_; rintro e w8 ⟨rfl, g8⟩; have hol8 := hol7.below g8; have hlt8 := (suV (preL ⟨id, ext, rem, dlc, l⟩)).isLt; have hs8 := g8.size)
      | (go_at_call 34; refine (bits_any w8 _ (by omega)).mono ?_; rintro e w9 ⟨a9, c9, rfl, hol9, g9⟩; have hol89 := hol8.below g9; have hs9 := g9.size)
      | (at_builtin; refine wpList_app (f := Value.bool) (B := w1.heap.size) (w := w9) tB rfl _ _ rfl rfl hol89 rfl hol9.rl (fun _ => rfl) (by omega) (by omega) (by omega) ?_; intro w10 a10 c10 hol10 g10))
    go_ret2
    exact ⟨_, _, rfl, hol10.mono gg1.size, ((bstep (bstep gg7 g8) g9).trans (g10.mono gg1.size))⟩
end Go.Proofs.Ythpgcgkgokfnpaa
