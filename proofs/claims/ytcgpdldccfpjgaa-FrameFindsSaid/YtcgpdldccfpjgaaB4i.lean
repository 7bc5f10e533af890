/-
  Contracts of SameFrame and of the statements' anew.
-/
import Derived.Test.YtcgpdldccfpjgaaB4e
namespace Go.Proofs.Ytcgpdldccfpjgaa
open Go.RowKit Go.Sort
set_option linter.unusedVariables false

set_option maxHeartbeats 1000000 in
theorem sameFrame_any (w : World) (id : Nat) (ext rem : Bool) (dlc : Nat) (a : Option Addr) (n c : Nat) (l : List UInt8) (id2 : Nat) (ext2 rem2 : Bool) (dlc2 : Nat) (a2 : Option Addr) (n2 c2 : Nat) (l2 : List UInt8) (h : RL bv w a n c l) (h2 : RL bv w a2 n2 c2 l2) :
    Calls Try.prog 28 #[.agg #[.int .u32 (id : Int), .bool ext, .bool rem, .int .u8 (dlc : Int), .slice a n c], .agg #[.int .u32 (id2 : Int), .bool ext2, .bool rem2, .int .u8 (dlc2 : Int), .slice a2 n2 c2]] w
      fun e w' => e = .returned (.bool (decide ((⟨id, ext, rem, dlc, l⟩ : Fr) = ⟨id2, ext2, rem2, dlc2, l2⟩))) ∧ Below w.heap.size w w' := by
  obtain ⟨bt, hbt⟩ : ∃ bt, bt = decide ((⟨id, ext, rem, dlc, l⟩ : Fr) = ⟨id2, ext2, rem2, dlc2, l2⟩) := ⟨_, rfl⟩
  rw [← hbt]
  simp only [Fr.mk.injEq] at hbt
  have HB := hid hbt; clear hbt
  have g2 : Below w.heap.size w ((w.alloc (.cells #[.int .u32 (id : Int), .bool ext, .bool rem, .int .u8 (dlc : Int), .slice a n c] 25)).alloc (.cells #[.int .u32 (id2 : Int), .bool ext2, .bool rem2, .int .u8 (dlc2 : Int), .slice a2 n2 c2] 25)) := bnew (bnew0 _ _) _
  by_cases h1 : id = id2
  rotate_left
  · have HN : Hid (bt = false) := HB.out.trans (decide_eq_false (by simp [h1]))
    have e1 : ((id : Int) == (id2 : Int)) = false := by simp; omega
    clear h1 HB g2
    go_enter Try.func28, Try.ntmps28
    go_wp2
    go_ret
    exact ⟨ret_bool HN.out.symm, bnew (bnew0 _ _) _⟩
  subst h1
  by_cases h1 : ext = ext2
  rotate_left
  · have HN : Hid (bt = false) := HB.out.trans (decide_eq_false (by simp [h1]))
    have e1 : (ext == ext2) = false := by simpa using h1
    clear h1 HB g2
    go_enter Try.func28, Try.ntmps28
    go_wp2
    go_ret
    exact ⟨ret_bool HN.out.symm, bnew (bnew0 _ _) _⟩
  subst h1
  by_cases h1 : rem = rem2
  rotate_left
  · have HN : Hid (bt = false) := HB.out.trans (decide_eq_false (by simp [h1]))
    have e1 : (rem == rem2) = false := by simpa using h1
    clear h1 HB g2
    go_enter Try.func28, Try.ntmps28
    go_wp2
    go_ret
    exact ⟨ret_bool HN.out.symm, bnew (bnew0 _ _) _⟩
  subst h1
  by_cases h1 : dlc = dlc2
  rotate_left
  · have HN : Hid (bt = false) := HB.out.trans (decide_eq_false (by simp [h1]))
    have e1 : ((dlc : Int) == (dlc2 : Int)) = false := by simp; omega
    clear h1 HB g2
    go_enter Try.func28, Try.ntmps28
    go_wp2
    go_ret
    exact ⟨ret_bool HN.out.symm, bnew (bnew0 _ _) _⟩
  subst h1
  have HN : Hid (decide (l = l2) = bt) := by show _ = _; rw [HB.out]; simp
  have hl1 := h.below g2
  have hl2 := h2.below g2
  go_enter Try.func28, Try.ntmps28
  go_wp2_with (go_at_call 48; refine (alike_any _ a n c l a2 n2 c2 l2 hl1 hl2).mono ?_; rw [HN.out]; rintro e w3 ⟨rfl, rfl⟩)
  go_ret
  exact ⟨rfl, g2⟩

theorem anewF_any (w : World) (id : Nat) (ext rem : Bool) (dlc : Nat) (a : Option Addr) (n c : Nat) (l : List UInt8) (h : RL bv w a n c l) (hn : n ≤ 1000) :
    Calls Try.prog 11 #[.agg #[.int .u32 (id : Int), .bool ext, .bool rem, .int .u8 (dlc : Int), .slice a n c]] w fun e w' => ∃ a' c', e = .returned (.agg #[.int .u32 (id : Int), .bool ext, .bool rem, .int .u8 (dlc : Int), .slice a' n c']) ∧ RL bv w' a' n c' l ∧ Below w.heap.size w w' := by
  obtain ⟨w2, hw2⟩ : ∃ w2, w2 = (w.alloc (.cells #[.int .u32 (id : Int), .bool ext, .bool rem, .int .u8 (dlc : Int), .slice a n c] 25)).alloc (.cells #[.int .u32 0, .bool false, .bool false, .int .u8 0, .slice none 0 0] 25) := ⟨_, rfl⟩
  obtain ⟨hbx, hby, gg2⟩ := two_bx (w := w) (E := 25) (F := 25) (u := #[.int .u32 (id : Int), .bool ext, .bool rem, .int .u8 (dlc : Int), .slice a n c]) (v := #[.int .u32 0, .bool false, .bool false, .int .u8 0, .slice none 0 0]) (Below.refl _ _)
  rw [← hw2] at hbx hby gg2
  have hs2 : w2.heap.size = w.heap.size + 1 + 1 := by rw [hw2]; simp
  have HW2 := hid hw2.symm; clear hw2
  have hrow := ol_lit bv 5 (w.heap.size + 1 + 1) w2 [] #[] 0 rfl rfl (by omega) (by omega)
  rw [hs2] at hrow
  have h3 := h.below (bnew gg2 (.cells #[] 5))
  go_enter Try.func11, Try.ntmps11
  go_wp2_with (at_builtin; rw [HW2.out]; refine wpList_app (f := bv) (B := w.heap.size + 1 + 1) tY rfl _ _ rfl rfl hrow rfl h3 (fun _ => rfl) (by omega) (by omega) (by simp; omega) ?_; intro w3 a3 c3 hol3 g3; rw [Nat.zero_add, List.nil_append] at hol3; rw [Nat.zero_add]; have hb1 : w3.heap[w.heap.size]? = some (.cells #[.int .u32 (id : Int), .bool ext, .bool rem, .int .u8 (dlc : Int), .slice a n c] 25 (0, 0)) := (by rw [g3.block _ (by omega)]; exact bx_alloc _ hbx); have hb2 : w3.heap[w.heap.size + 1]? = some (.cells #[.int .u32 0, .bool false, .bool false, .int .u8 0, .slice none 0 0] 25 (0, 0)) := (by rw [g3.block _ (by omega)]; exact bx_alloc _ hby); have f1 := bx_thaw hb1; have f2 := bx_thaw hb2; have gg3 := (bnew gg2 (.cells #[] 5)).trans (g3.mono (by omega)); obtain ⟨k0, k1, k2, k3, k4⟩ := bx5 hb1; obtain ⟨q0, q1, q2, q3, q4⟩ := bx5 hb2)
  have hk : ∀ g, a3 = some ⟨g, 0, none⟩ → w.heap.size + 1 + 1 ≤ g := fun g hg => (hol3.ltB hg).2
  refine bodyPost_ret (v := .agg #[.int .u32 (id : Int), .bool ext, .bool rem, .int .u8 (dlc : Int), .slice a3 n c3]) (by simp [results, Try.results11, go_sem, q0, q1, q2, q3, q4]) rfl ⟨a3, c3, rfl, (hol3.kept fun g hg => ?_).rl, ((((((gg3.setCell (by simp) _).setCell (by simp) _).setCell (by simp) _).setCell (by simp) _).setCell (by simp) _).setCell (by simp) _)⟩
  have := hk g hg
  have n1 : g ≠ w.heap.size + 1 := by omega
  have n2 : g ≠ w.heap.size := by omega
  rw [heap_setCell_other _ _ _ _ n1, heap_setCell_other _ _ _ _ n1, heap_setCell_other _ _ _ _ n1, heap_setCell_other _ _ _ _ n1, heap_setCell_other _ _ _ _ n1, heap_setCell_other _ _ _ _ n2]
end Go.Proofs.Ytcgpdldccfpjgaa
