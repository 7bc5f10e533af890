/-
  The contracts of stage 4 in one form each, right or wrong.
-/
import Derived.Test.YthpgcgkgokfnpaaB4t
import Derived.Test.YthpgcgkgokfnpaaB4h
namespace Go.Proofs.Ythpgcgkgokfnpaa
open Go.RowKit Go.Sort
set_option linter.unusedVariables false

def boU (f : Fr) (n : Nat) : List Bool := if riF f.id f.ext f.rem f.dlc n then boL f else []
def wiU (f : Fr) (n : Nat) : List Bool := if riF f.id f.ext f.rem f.dlc n then wiL f else []
def erU (f : Fr) (n : Nat) : Int := if riF f.id f.ext f.rem f.dlc n then 0 else 40
def hdU (l : List Bool) : Nat := if hdK l then hdN l else 0
def paU (l : List Bool) : Fr := if paK l && decide (suV l = 0#15) then ⟨(reF l).id, (reF l).ext, (reF l).rem, (reF l).dlc, paD l⟩ else ⟨0, false, false, 0, []⟩
def peU (l : List Bool) : Int := if paK l then (if suV l = 0#15 then 0 else 42) else 41

theorem wiL_length (f : Fr) : (wiL f).length = (putL (boL f)).length + 10 := by unfold wiL; simp

theorem body_U (w : World) (id : Nat) (ext rem : Bool) (dlc : Nat) (a : Option Addr) (n c : Nat) (l : List UInt8) (hi : id < 4294967296) (hd : dlc < 256) (h : RL bv w a n c l) :
    Calls Try.prog 16 #[.agg #[.int .u32 (id : Int), .bool ext, .bool rem, .int .u8 (dlc : Int), .slice a n c]] w fun e w' => ∃ a' c', e = .returned (.tuple #[.slice a' (boU ⟨id, ext, rem, dlc, l⟩ n).length c', .int .i64 (erU ⟨id, ext, rem, dlc, l⟩ n)]) ∧ RL .bool w' a' (boU ⟨id, ext, rem, dlc, l⟩ n).length c' (boU ⟨id, ext, rem, dlc, l⟩ n) ∧ Below w.heap.size w w' := by
  unfold boU erU
  dsimp only
  cases hr : riF id ext rem dlc n
  · exact (body_wrong w id ext rem dlc a n c hi hd hr).mono fun e w' ⟨he, hb⟩ => ⟨none, 0, he, RL.nil _ _ _ _, hb⟩
  · have hl : (boL ⟨id, ext, rem, dlc, l⟩).length = heN ext + 8 * n + 15 := by rw [boL_length, h.len]
    simp only [if_true]
    rw [hl]
    exact (body_any w id ext rem dlc a n c l hi hd h hr).mono fun e w' ⟨a', c', he, ho, hb⟩ => ⟨a', c', he, ho.rl, hb⟩

theorem wire_U (w : World) (id : Nat) (ext rem : Bool) (dlc : Nat) (a : Option Addr) (n c : Nat) (l : List UInt8) (hi : id < 4294967296) (hd : dlc < 256) (h : RL bv w a n c l) :
    Calls Try.prog 15 #[.agg #[.int .u32 (id : Int), .bool ext, .bool rem, .int .u8 (dlc : Int), .slice a n c]] w fun e w' => ∃ a' c', e = .returned (.tuple #[.slice a' (wiU ⟨id, ext, rem, dlc, l⟩ n).length c', .int .i64 (erU ⟨id, ext, rem, dlc, l⟩ n)]) ∧ RL .bool w' a' (wiU ⟨id, ext, rem, dlc, l⟩ n).length c' (wiU ⟨id, ext, rem, dlc, l⟩ n) ∧ Below w.heap.size w w' := by
  unfold wiU erU
  dsimp only
  cases hr : riF id ext rem dlc n
  · exact (wire_wrong w id ext rem dlc a n c hi hd hr).mono fun e w' ⟨he, hb⟩ => ⟨none, 0, he, RL.nil _ _ _ _, hb⟩
  · simp only [if_true]
    rw [wiL_length]
    exact (wire_any w id ext rem dlc a n c l hi hd h hr).mono fun e w' ⟨a', c', he, ho, hb⟩ => ⟨a', c', he, ho.rl, hb⟩

theorem fhead_U (w : World) (a : Option Addr) (n c : Nat) (l : List Bool) (h : RL .bool w a n c l) (hn : n ≤ 100000) :
    Calls Try.prog 47 #[.slice a n c] w fun e w' => e = .returned (.tuple #[.int .i64 (hdU l : Int), .bool (hdK l)]) ∧ Below w.heap.size w w' := by
  unfold hdU
  cases hk : hdK l
  · exact fhead_none w a n c l h (by omega) hk
  · exact fhead_any w a n c l h (by omega) hk

theorem refHd_U (w : World) (a : Option Addr) (n c : Nat) (l : List Bool) (h : RL .bool w a n c l) (hn : n ≤ 100000) :
    Calls Try.prog 38 #[.slice a n c] w fun e w' => e = .returned (.tuple #[.int .i64 (hdU l : Int), .bool (hdK l)]) ∧ Below w.heap.size w w' := by
  unfold hdU
  cases hk : hdK l
  · exact refHd_none w a n c l h hn hk
  · exact refHd_any w a n c l h hn hk

theorem paD_length (l : List Bool) (h : paK l = true) : (paD l).length = lonF (reF l).rem (reF l).dlc := by
  obtain ⟨_, _, h3⟩ := paK_parts h
  unfold paD
  refine byL_done ?_
  rw [h3]; unfold hdN; omega

theorem parse_U (w : World) (a : Option Addr) (n c : Nat) (l : List Bool) (h : RL .bool w a n c l) (hn : n ≤ 100000) :
    Calls Try.prog 28 #[.slice a n c] w fun e w' => ∃ a' c', e = .returned (.tuple #[.agg #[.int .u32 ((paU l).id : Int), .bool (paU l).ext, .bool (paU l).rem, .int .u8 ((paU l).dlc : Int), .slice a' (paU l).data.length c'], .int .i64 (peU l)]) ∧ RL bv w' a' (paU l).data.length c' (paU l).data ∧ Below w.heap.size w w' := by
  unfold paU peU
  cases hk : paK l
  · exact (parse_bits w a n c l h (by omega) hk).mono fun e w' ⟨he, hb⟩ => ⟨none, 0, he, RL.nil _ _ _ _, hb⟩
  · by_cases hs : suV l = 0#15
    · simp only [hs, decide_true, Bool.and_true, if_true]
      rw [paD_length l hk]
      exact parse_ok w a n c l h hk hs
    · simp only [hs, decide_false, Bool.and_false, if_false, if_true, Bool.false_eq_true]
      exact (parse_crc w a n c l h hk hs).mono fun e w' ⟨he, hb⟩ => ⟨none, 0, he, RL.nil _ _ _ _, hb⟩

theorem refParse_U (w : World) (a : Option Addr) (n c : Nat) (l : List Bool) (h : RL .bool w a n c l) (hn : n ≤ 100000) :
    Calls Try.prog 29 #[.slice a n c] w fun e w' => ∃ a' c', e = .returned (.tuple #[.agg #[.int .u32 ((paU l).id : Int), .bool (paU l).ext, .bool (paU l).rem, .int .u8 ((paU l).dlc : Int), .slice a' (paU l).data.length c'], .int .i64 (peU l)]) ∧ RL bv w' a' (paU l).data.length c' (paU l).data ∧ Below w.heap.size w w' := by
  unfold paU peU
  cases hk : paK l
  · exact (refParse_bits w a n c l h hn hk).mono fun e w' ⟨he, hb⟩ => ⟨none, 0, he, RL.nil _ _ _ _, hb⟩
  · by_cases hs : suV l = 0#15
    · simp only [hs, decide_true, Bool.and_true, if_true]
      rw [paD_length l hk]
      exact refParse_ok w a n c l h hk hs
    · simp only [hs, decide_false, Bool.and_false, if_false, if_true, Bool.false_eq_true]
      exact (refParse_crc w a n c l h hk hs).mono fun e w' ⟨he, hb⟩ => ⟨none, 0, he, RL.nil _ _ _ _, hb⟩

/-- The same, of memory that is new. -/
theorem parse_W (w : World) (a : Option Addr) (n c : Nat) (l : List Bool) (h : RL .bool w a n c l) (hn : n ≤ 100000) :
    Calls Try.prog 28 #[.slice a n c] w fun e w' => ∃ a' c', e = .returned (.tuple #[.agg #[.int .u32 ((paU l).id : Int), .bool (paU l).ext, .bool (paU l).rem, .int .u8 ((paU l).dlc : Int), .slice a' (paU l).data.length c'], .int .i64 (peU l)]) ∧ OL bv 5 w.heap.size w' a' (paU l).data.length c' (paU l).data ∧ Below w.heap.size w w' := by
  unfold paU peU
  cases hk : paK l
  · exact (parse_bits w a n c l h (by omega) hk).mono fun e w' ⟨he, hb⟩ => ⟨none, 0, he, OL.nil _ _ _ _, hb⟩
  · by_cases hs : suV l = 0#15
    · simp only [hs, decide_true, Bool.and_true, if_true]
      rw [paD_length l hk]
      exact parse_own w a n c l h hk hs
    · simp only [hs, decide_false, Bool.and_false, if_false, if_true, Bool.false_eq_true]
      exact (parse_crc w a n c l h hk hs).mono fun e w' ⟨he, hb⟩ => ⟨none, 0, he, OL.nil _ _ _ _, hb⟩

/-- The same, of memory that is new. -/
theorem refParse_W (w : World) (a : Option Addr) (n c : Nat) (l : List Bool) (h : RL .bool w a n c l) (hn : n ≤ 100000) :
    Calls Try.prog 29 #[.slice a n c] w fun e w' => ∃ a' c', e = .returned (.tuple #[.agg #[.int .u32 ((paU l).id : Int), .bool (paU l).ext, .bool (paU l).rem, .int .u8 ((paU l).dlc : Int), .slice a' (paU l).data.length c'], .int .i64 (peU l)]) ∧ OL bv 5 w.heap.size w' a' (paU l).data.length c' (paU l).data ∧ Below w.heap.size w w' := by
  unfold paU peU
  cases hk : paK l
  · exact (refParse_bits w a n c l h hn hk).mono fun e w' ⟨he, hb⟩ => ⟨none, 0, he, OL.nil _ _ _ _, hb⟩
  · by_cases hs : suV l = 0#15
    · simp only [hs, decide_true, Bool.and_true, if_true]
      rw [paD_length l hk]
      exact refParse_own w a n c l h hk hs
    · simp only [hs, decide_false, Bool.and_false, if_false, if_true, Bool.false_eq_true]
      exact (refParse_crc w a n c l h hk hs).mono fun e w' ⟨he, hb⟩ => ⟨none, 0, he, OL.nil _ _ _ _, hb⟩
end Go.Proofs.Ythpgcgkgokfnpaa
