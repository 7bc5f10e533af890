/-
  Contracts of SameFrame and of the statements' anew.
-/
import Derived.Test.YthpgcgkgokfnpaaB4e
namespace Go.Proofs.Ythpgcgkgokfnpaa
open Go.RowKit Go.Sort
set_option linter.unusedVariables false

set_option maxHeartbeats 1000000 in
theorem sameFrame_any (w : World) (id : Nat) (ext rem : Bool) (dlc : Nat) (a : Option Addr) (n c : Nat) (l : List UInt8) (id2 : Nat) (ext2 rem2 : Bool) (dlc2 : Nat) (a2 : Option Addr) (n2 c2 : Nat) (l2 : List UInt8) (h : RL bv w a n c l) (h2 : RL bv w a2 n2 c2 l2) :
    Calls Try.prog 14 #[.agg #[.int .u32 (id : Int), .bool ext, .bool rem, .int .u8 (dlc : Int), .slice a n c], .agg #[.int .u32 (id2 : Int), .bool ext2, .bool rem2, .int .u8 (dlc2 : Int), .slice a2 n2 c2]] w
      fun e w' => e = .returned (.bool (decide ((⟨id, ext, rem, dlc, l⟩ : Fr) = ⟨id2, ext2, rem2, dlc2, l2⟩))) ∧ Below w.heap.size w w' := by
  obtain ⟨bt, hbt⟩ : ∃ bt, bt = decide ((⟨id, ext, rem, dlc, l⟩ : Fr) = ⟨id2, ext2, rem2, dlc2, l2⟩) := ⟨_, rfl⟩
  rw [← hbt]
  simp only [Fr.mk.injEq] at hbt
  have HB := hid hbt; clear hbt
  have g2 : Below w.heap.size w ((w.alloc (.cells #[.int .u32 (id : Int), .bool ext, .bool rem, .int .u8 (dlc : Int), .slice a n c] 36)).alloc (.cells #[.int .u32 (id2 : Int), .bool ext2, .bool rem2, .int .u8 (dlc2 : Int), .slice a2 n2 c2] 36)) := bnew (bnew0 _ _) _
  by_cases h1 : id = id2
  rotate_left
  · have HN : Hid (bt = false) := HB.out.trans (decide_eq_false (by simp [h1]))
    have e1 : ((id : Int) == (id2 : Int)) = false := by simp; omega
    clear h1 HB g2
    go_enter Try.func14, Try.ntmps14
    go_wp2
    go_ret
    exact ⟨ret_bool HN.out.symm, bnew (bnew0 _ _) _⟩
  subst h1
  by_cases h1 : ext = ext2
  rotate_left
  · have HN : Hid (bt = false) := HB.out.trans (decide_eq_false (by simp [h1]))
    have e1 : (ext == ext2) = false := by simpa using h1
    clear h1 HB g2
    go_enter Try.func14, Try.ntmps14
    go_wp2
    go_ret
    exact ⟨ret_bool HN.out.symm, bnew (bnew0 _ _) _⟩
  subst h1
  by_cases h1 : rem = rem2
  rotate_left
  · have HN : Hid (bt = false) := HB.out.trans (decide_eq_false (by simp [h1]))
    have e1 : (rem == rem2) = false := by simpa using h1
    clear h1 HB g2
    go_enter Try.func14, Try.ntmps14
    go_wp2
    go_ret
    exact ⟨ret_bool HN.out.symm, bnew (bnew0 _ _) _⟩
  subst h1
  by_cases h1 : dlc = dlc2
  rotate_left
  · have HN : Hid (bt = false) := HB.out.trans (decide_eq_false (by simp [h1]))
    have e1 : ((dlc : Int) == (dlc2 : Int)) = false := by simp; omega
    clear h1 HB g2
    go_enter Try.func14, Try.ntmps14
    go_wp2
    go_ret
    exact ⟨ret_bool HN.out.symm, bnew (bnew0 _ _) _⟩
  subst h1
  have HN : Hid (decide (l = l2) = bt) := by show _ = _; rw [HB.out]; simp
  have hl1 := h.below g2
  have hl2 := h2.below g2
  go_enter Try.func14, Try.ntmps14
  go_wp2_with (go_at_call 30; refine (alike_any _ a n c l a2 n2 c2 l2 hl1 hl2).mono ?_; rw [HN.out]; rintro e w3 ⟨rfl, rfl⟩)
  go_ret
  exact ⟨rfl, g2⟩

end Go.Proofs.Ythpgcgkgokfnpaa
