/-
  Contracts of Wire (the program's and the document's).
-/
import Derived.Test.YthpgcgkgokfnpaaB4e
namespace Go.Proofs.Ythpgcgkgokfnpaa
open Go.RowKit Go.Sort
set_option linter.unusedVariables false

/-- A wire form. -/
def wiL (f : Fr) : List Bool := putL (boL f) ++ List.replicate 10 true

theorem rep_snoc {α : Type} (l : List α) (k : Nat) (x : α) : l ++ List.replicate k x ++ [x] = l ++ List.replicate (k + 1) x := by rw [List.append_assoc, List.replicate_succ']

theorem boL_le {f : Fr} {n : Nat} (hl : f.data.length = n) (hn : n ≤ 8) : (boL f).length ≤ 118 ∧ (boL f).length = heN f.ext + 8 * n + 15 := by
  rw [boL_length, hl]; unfold heN; split <;> omega

theorem wire_wrong (w : World) (id : Nat) (ext rem : Bool) (dlc : Nat) (a : Option Addr) (n c : Nat) (hi : id < 4294967296) (hd : dlc < 256) (hw : riF id ext rem dlc n = false) :
    Calls Try.prog 15 #[.agg #[.int .u32 (id : Int), .bool ext, .bool rem, .int .u8 (dlc : Int), .slice a n c]] w fun e w' => e = .returned (.tuple #[.slice none 0 0, .int .i64 40]) ∧ Below w.heap.size w w' := by
  go_enter Try.func15, Try.ntmps15
  go_wp2_with (go_at_call 16; refine (body_wrong _ id ext rem dlc a n c hi hd hw).mono ?_; rintro e w1 ⟨rfl, g1⟩)
  go_ret2
  exact ⟨rfl, bstep (bnew0 w _) g1⟩

theorem wire_any (w : World) (id : Nat) (ext rem : Bool) (dlc : Nat) (a : Option Addr) (n c : Nat) (l : List UInt8) (hi : id < 4294967296) (hd : dlc < 256) (h : RL bv w a n c l) (hr : riF id ext rem dlc n = true) :
    Calls Try.prog 15 #[.agg #[.int .u32 (id : Int), .bool ext, .bool rem, .int .u8 (dlc : Int), .slice a n c]] w fun e w' => ∃ a' c', e = .returned (.tuple #[.slice a' ((putL (boL ⟨id, ext, rem, dlc, l⟩)).length + 10) c', .int .i64 0]) ∧
      OL .bool 4 w.heap.size w' a' ((putL (boL ⟨id, ext, rem, dlc, l⟩)).length + 10) c' (wiL ⟨id, ext, rem, dlc, l⟩) ∧ Below w.heap.size w w' := by
  obtain ⟨hn1, hn8, _, _⟩ := riF_long hr
  obtain ⟨hb1, hb2⟩ := boL_le (f := ⟨id, ext, rem, dlc, l⟩) h.len hn8
  have hpl := putL_len (boL ⟨id, ext, rem, dlc, l⟩)
  have hbody := fun w0 h0 => body_any w0 id ext rem dlc a n c l hi hd h0 hr
  unfold wiL
  obtain ⟨b, hb⟩ : ∃ b, b = boL ⟨id, ext, rem, dlc, l⟩ := ⟨_, rfl⟩
  rw [← hb] at hb1 hb2 hpl ⊢
  simp only [← hb] at hbody
  obtain ⟨N, hN⟩ : ∃ N, N = heN ext + 8 * n + 15 := ⟨_, rfl⟩
  simp only [← hN] at hbody
  have hN2 : N ≤ 1000 := by rw [hN]; unfold heN; split <;> omega
  obtain ⟨m, hm⟩ : ∃ m, m = (putL b).length := ⟨_, rfl⟩
  have HM := hid hm
  rw [← hm] at hpl ⊢
  have hm2 : m ≤ 1000 := by omega
  clear hm hpl hb hb1 hb2 hN hn1
  obtain ⟨w0, hw0, _, _, _, _, _, _, gg0⟩ := boxed w 36 (.int .u32 (id : Int)) (.bool ext) (.bool rem) (.int .u8 (dlc : Int)) (.slice a n c)
  have h0 := h.below gg0
  go_enter Try.func15, Try.ntmps15
  go_wp2_with (first
    | (go_at_call 16; rw [hw0.out]; (with_reducible refine (hbody w0 h0).mono ?_); rintro e w1 ⟨a1, c1, rfl, hol1, g1⟩; have gg1 := bstep gg0 g1)
    | (go_at_call 19; refine (put_any w1 a1 _ c1 b hol1.rl (by omega)).mono ?_; rw [← HM.out]; rintro e w2 ⟨a2, c2, rfl, hol2, g2⟩; have gg2 := bstep gg1 g2))
  go_loopw [6, 17] (fun v i wr => ∃ (k : Nat) (a' : Option Addr) (c' : Nat), k ≤ 10 ∧ i = .int .i64 (k : Int) ∧ v = .slice a' (m + k) c' ∧ OL .bool 4 w.heap.size wr a' (m + k) c' (putL b ++ List.replicate k true) ∧ Below w.heap.size w wr) (fun _ i _ => 10 - (intOf i).toNat)
  case atStart => exact ⟨0, a2, c2, by omega, rfl, rfl, by simpa using hol2.mono gg1.size, gg2⟩
  case round =>
    obtain ⟨k, a', c', hk, rfl, rfl, hol, hb⟩ := hrel
    have hs := hb.size
    by_cases hlt : k < 10
    · go_wp2_with (at_builtin; refine wpList_app (f := Value.bool) tB rfl _ _ rfl rfl (hol.alloc _) rfl (lit1 wr true) (fun _ => rfl) (by omega) (by omega) (by simp; omega) ?_; intro w3 a3 c3 hol3 hb3)
      go_roundw
      case rel => exact ⟨k + 1, a3, c3, by omega, by go_num, rfl, by rw [← rep_snoc]; exact hol3, (hb.alloc hs _).trans hb3⟩
      case measure => simp [intOf]; omega
    · obtain rfl : k = 10 := by omega
      go_wp2
      go_ret2
      exact ⟨a', c', rfl, hol, hb⟩

end Go.Proofs.Ythpgcgkgokfnpaa
