/-
  Contracts of SameFrame and of the statements' anew.
  The statements' own examples (awake, stage 4).
  Contract of the document's Before.
  The contracts of stage 4 in one form each, right or wrong.
  Contracts of the functions of layer 7: the state at another place, or over; what is due; whether a body is complete.
  Contracts of what a bit leads to behind the body: each as the plain function says.
-/
import Derived.Test.YtgpmhmdofefdcaaGreatB4e
import Derived.Test.YtgpmhmdofefdcaaGreatB4r
import Derived.Test.YtgpmhmdofefdcaaGreatM4
namespace Go.Proofs.YtgpmhmdofefdcaaGreat
open Go.RowKit Go.Sort
set_option linter.unusedVariables false

set_option maxHeartbeats 1000000 in
theorem sameFrame_any (w : World) (id : Nat) (ext rem : Bool) (dlc : Nat) (a : Option Addr) (n c : Nat) (l : List UInt8) (id2 : Nat) (ext2 rem2 : Bool) (dlc2 : Nat) (a2 : Option Addr) (n2 c2 : Nat) (l2 : List UInt8) (h : RL bv w a n c l) (h2 : RL bv w a2 n2 c2 l2) :
    Calls Tryz.prog 16 #[.agg #[.int .u32 (id : Int), .bool ext, .bool rem, .int .u8 (dlc : Int), .slice a n c], .agg #[.int .u32 (id2 : Int), .bool ext2, .bool rem2, .int .u8 (dlc2 : Int), .slice a2 n2 c2]] w
      fun e w' => e = .returned (.bool (decide ((⟨id, ext, rem, dlc, l⟩ : Fr) = ⟨id2, ext2, rem2, dlc2, l2⟩))) ∧ Below w.heap.size w w' := by
  obtain ⟨bt, hbt⟩ : ∃ bt, bt = decide ((⟨id, ext, rem, dlc, l⟩ : Fr) = ⟨id2, ext2, rem2, dlc2, l2⟩) := ⟨_, rfl⟩
  rw [← hbt]
  simp only [Fr.mk.injEq] at hbt
  have HB := hid hbt; clear hbt
  have g2 : Below w.heap.size w ((w.alloc (.cells #[.int .u32 (id : Int), .bool ext, .bool rem, .int .u8 (dlc : Int), .slice a n c] 26)).alloc (.cells #[.int .u32 (id2 : Int), .bool ext2, .bool rem2, .int .u8 (dlc2 : Int), .slice a2 n2 c2] 26)) := bnew (bnew0 _ _) _
  by_cases h1 : id = id2
  rotate_left
  · have HN : Hid (bt = false) := HB.out.trans (decide_eq_false (by simp [h1]))
    have e1 : ((id : Int) == (id2 : Int)) = false := by simp; omega
    clear h1 HB g2
    go_enter Tryz.func16, Tryz.ntmps16
    go_wp2
    go_ret
    exact ⟨ret_bool HN.out.symm, bnew (bnew0 _ _) _⟩
  subst h1
  by_cases h1 : ext = ext2
  rotate_left
  · have HN : Hid (bt = false) := HB.out.trans (decide_eq_false (by simp [h1]))
    have e1 : (ext == ext2) = false := by simpa using h1
    clear h1 HB g2
    go_enter Tryz.func16, Tryz.ntmps16
    go_wp2
    go_ret
    exact ⟨ret_bool HN.out.symm, bnew (bnew0 _ _) _⟩
  subst h1
  by_cases h1 : rem = rem2
  rotate_left
  · have HN : Hid (bt = false) := HB.out.trans (decide_eq_false (by simp [h1]))
    have e1 : (rem == rem2) = false := by simpa using h1
    clear h1 HB g2
    go_enter Tryz.func16, Tryz.ntmps16
    go_wp2
    go_ret
    exact ⟨ret_bool HN.out.symm, bnew (bnew0 _ _) _⟩
  subst h1
  by_cases h1 : dlc = dlc2
  rotate_left
  · have HN : Hid (bt = false) := HB.out.trans (decide_eq_false (by simp [h1]))
    have e1 : ((dlc : Int) == (dlc2 : Int)) = false := by simp; omega
    clear h1 HB g2
    go_enter Tryz.func16, Tryz.ntmps16
    go_wp2
    go_ret
    exact ⟨ret_bool HN.out.symm, bnew (bnew0 _ _) _⟩
  subst h1
  have HN : Hid (decide (l = l2) = bt) := by show _ = _; rw [HB.out]; simp
  have hl1 := h.below g2
  have hl2 := h2.below g2
  go_enter Tryz.func16, Tryz.ntmps16
  go_wp2_with (go_at_call 38; refine (alike_any _ a n c l a2 n2 c2 l2 hl1 hl2).mono ?_; rw [HN.out]; rintro e w3 ⟨rfl, rfl⟩)
  go_ret
  exact ⟨rfl, g2⟩

end Go.Proofs.YtgpmhmdofefdcaaGreat

namespace Go.Proofs.YtgpmhmdofefdcaaGreat
open Go.RowKit Go.Sort
set_option linter.unusedVariables false

theorem run_to {α : Type} {f : α → Value} {E T : TypeId} {z : Value} {bytes : Nat} {w : World} {P : Program} {l : List α} {n c : Nat} {a : Option Addr} (hT : ElT P T E z bytes) (hr : RL f w a n c l) (kh : IntKind) (H : Int) (h0 : Nat) (hH : H = (h0 : Int)) (h2 : h0 ≤ n) :
    ∃ a', (∀ w', (Instr.sliceAt T (.slice a n c) none (some (.int kh H)) none).run P w' = .ok (.slice a' h0 c) w') ∧ (∀ w', (Instr.slice T (.slice a n c) none (some (.int kh H)) none).run P w' = .ok (.slice a' h0 c) w') ∧ RL f w a' h0 c (l.take h0) := by
  subst hH
  exact run_cutTo hT hr kh h0 h2

def F0 : Fr := ⟨291, false, false, 1, [170]⟩
def b0 : List Bool := boL F0
theorem good0 : Good F0 := ⟨by decide, by decide, by decide⟩
theorem b0_len : b0.length = 42 := by decide +kernel
theorem b0_text : ((b0.take 27).map chB) = [100, 100, 100, 114, 100, 100, 114, 100, 100, 100, 114, 114, 100, 100, 100, 100, 100, 100, 114, 114, 100, 114, 100, 114, 100, 114, 100] := by decide +kernel

theorem aw_body0 (w : World) (a : Option Addr) (h : RL bv w a 1 1 [170]) :
    Calls Tryz.prog 36 #[.agg #[.int .u32 291, .bool false, .bool false, .int .u8 1, .slice a 1 1]] w fun e w' => ∃ a' c', e = .returned (.tuple #[.slice a' 42 c', .int .i64 0]) ∧ OL .bool 4 w.heap.size w' a' 42 c' b0 ∧ Below w.heap.size w w' :=
  body_any w 291 false false 1 a 1 1 [170] (by omega) (by omega) h (by decide)

theorem aw_body1 (w : World) :
    Calls Tryz.prog 36 #[.agg #[.int .u32 5, .bool true, .bool true, .int .u8 8, .slice none 0 0]] w fun e w' => ∃ a' c', e = .returned (.tuple #[.slice a' 54 c', .int .i64 0]) ∧ Below w.heap.size w w' :=
  (body_any w 5 true true 8 none 0 0 [] (by omega) (by omega) (RL.nil _ _ _ _) (by decide)).mono fun e w' ⟨a', c', he, _, hb⟩ => ⟨a', c', he, hb⟩

theorem aw_h18 (w : World) (a : Option Addr) (c : Nat) (h : RL .bool w a 18 c (b0.take 18)) :
    Calls Tryz.prog 106 #[.slice a 18 c] w fun e w' => e = .returned (.tuple #[.int .i64 0, .bool false]) ∧ Below w.heap.size w w' :=
  fhead_none w a 18 c _ h (by omega) (bo_take F0 good0 18 (by decide))

theorem aw_h19 (w : World) (a : Option Addr) (c : Nat) (h : RL .bool w a 19 c (b0.take 19)) :
    Calls Tryz.prog 106 #[.slice a 19 c] w fun e w' => e = .returned (.tuple #[.int .i64 42, .bool true]) ∧ Below w.heap.size w w' := by
  have e := bo_from F0 good0 []
  rw [List.append_nil] at e
  obtain ⟨h1, _, h3⟩ := he_head F0 good0 []
  rw [← e] at h1 h3
  have := fhead_any w a 19 c _ h (by omega) h1
  rw [show hdN (b0.take 19) = 42 from h3] at this
  exact this

theorem aw_parse (w : World) (a : Option Addr) (c : Nat) (h : RL .bool w a 42 c b0) :
    Calls Tryz.prog 97 #[.slice a 42 c] w fun e w' => ∃ a' c', e = .returned (.tuple #[.agg #[.int .u32 291, .bool false, .bool false, .int .u8 1, .slice a' 1 c'], .int .i64 0]) ∧ RL bv w' a' 1 c' [170] ∧ Below w.heap.size w w' := by
  obtain ⟨h1, h2, h3, h4, _⟩ := bo_all F0 good0
  have := parse_ok w a 42 c b0 h h1 h2
  rw [show reF b0 = ⟨291, false, false, 1, []⟩ from h3, show paD b0 = [170] from h4] at this
  exact this

theorem aw_same (w : World) (a : Option Addr) (a2 : Option Addr) (c2 : Nat) (h : RL bv w a 1 1 [170]) (h2 : RL bv w a2 1 c2 [170]) :
    Calls Tryz.prog 16 #[.agg #[.int .u32 291, .bool false, .bool false, .int .u8 1, .slice a 1 1], .agg #[.int .u32 291, .bool false, .bool false, .int .u8 1, .slice a2 1 c2]] w fun e w' => e = .returned (.bool true) ∧ Below w.heap.size w w' := by
  have := sameFrame_any w 291 false false 1 a 1 1 [170] 291 false false 1 a2 1 c2 [170] h h2
  rw [decide_eq_true rfl] at this
  exact this

theorem aw_right (w : World) : Calls Tryz.prog 18 #[.agg #[.int .u32 2048, .bool false, .bool false, .int .u8 0, .slice none 0 0]] w fun e w' => e = .returned (.bool false) ∧ Below w.heap.size w w' := by
  have := frRight_any w 2048 false false 0 none 0 0 (by omega) (by omega)
  rw [show riF 2048 false false 0 0 = false from by decide] at this
  exact this

theorem aw_before1 (w : World) : Calls Tryz.prog 19 #[.agg #[.int .u32 1, .bool false, .bool false, .int .u8 0, .slice none 0 0], .agg #[.int .u32 2, .bool false, .bool false, .int .u8 0, .slice none 0 0]] w fun e w' => e = .returned (.bool true) ∧ Below w.heap.size w w' := by
  have := before_any w 1 false false 0 none 0 0 2 false false 0 none 0 0 (by omega) (by omega) (by omega) (by omega)
  rw [show (riF 1 false false 0 0 && riF 2 false false 0 0 && bfL (conL 1 false false) (conL 2 false false)) = true from by decide +kernel] at this
  exact this

theorem aw_before2 (w : World) : Calls Tryz.prog 19 #[.agg #[.int .u32 1, .bool false, .bool false, .int .u8 0, .slice none 0 0], .agg #[.int .u32 262144, .bool true, .bool false, .int .u8 0, .slice none 0 0]] w fun e w' => e = .returned (.bool true) ∧ Below w.heap.size w w' := by
  have := before_any w 1 false false 0 none 0 0 262144 true false 0 none 0 0 (by omega) (by omega) (by omega) (by omega)
  rw [show (riF 1 false false 0 0 && riF 262144 true false 0 0 && bfL (conL 1 false false) (conL 262144 true false)) = true from by decide +kernel] at this
  exact this

theorem lit170 (w : World) : RL bv (w.alloc (.cells #[.int .u8 170] 5)) (some ⟨w.heap.size, 0, none⟩) 1 1 [170] := (ol_lit bv 5 w.heap.size w [170] #[.int .u8 170] 1 rfl rfl (by omega) (Nat.le_refl _)).rl

end Go.Proofs.YtgpmhmdofefdcaaGreat

namespace Go.Proofs.YtgpmhmdofefdcaaGreat
open Go.RowKit Go.Sort
set_option linter.unusedVariables false

theorem heL_con {id : Nat} {ext rem : Bool} {dlc k : Nat} {x : Bool} (hk : k < (conL id ext rem).length) (h : (heL id ext rem dlc)[k]? = some x) : (conL id ext rem)[k]? = some x := by
  unfold heL at h
  rw [List.append_assoc, List.append_assoc, List.getElem?_append_left hk] at h
  exact h

end Go.Proofs.YtgpmhmdofefdcaaGreat

namespace Go.Proofs.YtgpmhmdofefdcaaGreat
open Go.RowKit Go.Sort
set_option linter.unusedVariables false

def boU (f : Fr) (n : Nat) : List Bool := if riF f.id f.ext f.rem f.dlc n then boL f else []
def wiU (f : Fr) (n : Nat) : List Bool := if riF f.id f.ext f.rem f.dlc n then wiL f else []
def erU (f : Fr) (n : Nat) : Int := if riF f.id f.ext f.rem f.dlc n then 0 else 40
def hdU (l : List Bool) : Nat := if hdK l then hdN l else 0
def paU (l : List Bool) : Fr := if paK l && decide (suV l = 0#15) then ⟨(reF l).id, (reF l).ext, (reF l).rem, (reF l).dlc, paD l⟩ else ⟨0, false, false, 0, []⟩
def peU (l : List Bool) : Int := if paK l then (if suV l = 0#15 then 0 else 42) else 41

theorem wiL_length (f : Fr) : (wiL f).length = (putL (boL f)).length + 10 := by unfold wiL; simp

theorem body_U (w : World) (id : Nat) (ext rem : Bool) (dlc : Nat) (a : Option Addr) (n c : Nat) (l : List UInt8) (hi : id < 4294967296) (hd : dlc < 256) (h : RL bv w a n c l) :
    Calls Tryz.prog 36 #[.agg #[.int .u32 (id : Int), .bool ext, .bool rem, .int .u8 (dlc : Int), .slice a n c]] w fun e w' => ∃ a' c', e = .returned (.tuple #[.slice a' (boU ⟨id, ext, rem, dlc, l⟩ n).length c', .int .i64 (erU ⟨id, ext, rem, dlc, l⟩ n)]) ∧ RL .bool w' a' (boU ⟨id, ext, rem, dlc, l⟩ n).length c' (boU ⟨id, ext, rem, dlc, l⟩ n) ∧ Below w.heap.size w w' := by
  unfold boU erU
  dsimp only
  cases hr : riF id ext rem dlc n
  · exact (body_wrong w id ext rem dlc a n c hi hd hr).mono fun e w' ⟨he, hb⟩ => ⟨none, 0, he, RL.nil _ _ _ _, hb⟩
  · have hl : (boL ⟨id, ext, rem, dlc, l⟩).length = heN ext + 8 * n + 15 := by rw [boL_length, h.len]
    simp only [if_true]
    rw [hl]
    exact (body_any w id ext rem dlc a n c l hi hd h hr).mono fun e w' ⟨a', c', he, ho, hb⟩ => ⟨a', c', he, ho.rl, hb⟩

theorem wire_U (w : World) (id : Nat) (ext rem : Bool) (dlc : Nat) (a : Option Addr) (n c : Nat) (l : List UInt8) (hi : id < 4294967296) (hd : dlc < 256) (h : RL bv w a n c l) :
    Calls Tryz.prog 15 #[.agg #[.int .u32 (id : Int), .bool ext, .bool rem, .int .u8 (dlc : Int), .slice a n c]] w fun e w' => ∃ a' c', e = .returned (.tuple #[.slice a' (wiU ⟨id, ext, rem, dlc, l⟩ n).length c', .int .i64 (erU ⟨id, ext, rem, dlc, l⟩ n)]) ∧ RL .bool w' a' (wiU ⟨id, ext, rem, dlc, l⟩ n).length c' (wiU ⟨id, ext, rem, dlc, l⟩ n) ∧ Below w.heap.size w w' := by
  unfold wiU erU
  dsimp only
  cases hr : riF id ext rem dlc n
  · exact (wire_wrong w id ext rem dlc a n c hi hd hr).mono fun e w' ⟨he, hb⟩ => ⟨none, 0, he, RL.nil _ _ _ _, hb⟩
  · simp only [if_true]
    rw [wiL_length]
    exact (wire_any w id ext rem dlc a n c l hi hd h hr).mono fun e w' ⟨a', c', he, ho, hb⟩ => ⟨a', c', he, ho.rl, hb⟩

theorem fhead_U (w : World) (a : Option Addr) (n c : Nat) (l : List Bool) (h : RL .bool w a n c l) (hn : n ≤ 100000) :
    Calls Tryz.prog 106 #[.slice a n c] w fun e w' => e = .returned (.tuple #[.int .i64 (hdU l : Int), .bool (hdK l)]) ∧ Below w.heap.size w w' := by
  unfold hdU
  cases hk : hdK l
  · exact fhead_none w a n c l h (by omega) hk
  · exact fhead_any w a n c l h (by omega) hk

theorem paD_length (l : List Bool) (h : paK l = true) : (paD l).length = lonF (reF l).rem (reF l).dlc := by
  obtain ⟨_, _, h3⟩ := paK_parts h
  unfold paD
  refine byL_done ?_
  rw [h3]; unfold hdN; omega

theorem parse_U (w : World) (a : Option Addr) (n c : Nat) (l : List Bool) (h : RL .bool w a n c l) (hn : n ≤ 100000) :
    Calls Tryz.prog 97 #[.slice a n c] w fun e w' => ∃ a' c', e = .returned (.tuple #[.agg #[.int .u32 ((paU l).id : Int), .bool (paU l).ext, .bool (paU l).rem, .int .u8 ((paU l).dlc : Int), .slice a' (paU l).data.length c'], .int .i64 (peU l)]) ∧ RL bv w' a' (paU l).data.length c' (paU l).data ∧ Below w.heap.size w w' := by
  unfold paU peU
  cases hk : paK l
  · exact (parse_bits w a n c l h (by omega) hk).mono fun e w' ⟨he, hb⟩ => ⟨none, 0, he, RL.nil _ _ _ _, hb⟩
  · by_cases hs : suV l = 0#15
    · simp only [hs, decide_true, Bool.and_true, if_true]
      rw [paD_length l hk]
      exact parse_ok w a n c l h hk hs
    · simp only [hs, decide_false, Bool.and_false, if_false, if_true, Bool.false_eq_true]
      exact (parse_crc w a n c l h hk hs).mono fun e w' ⟨he, hb⟩ => ⟨none, 0, he, RL.nil _ _ _ _, hb⟩

/-- The same, of memory that is new. -/
theorem parse_W (w : World) (a : Option Addr) (n c : Nat) (l : List Bool) (h : RL .bool w a n c l) (hn : n ≤ 100000) :
    Calls Tryz.prog 97 #[.slice a n c] w fun e w' => ∃ a' c', e = .returned (.tuple #[.agg #[.int .u32 ((paU l).id : Int), .bool (paU l).ext, .bool (paU l).rem, .int .u8 ((paU l).dlc : Int), .slice a' (paU l).data.length c'], .int .i64 (peU l)]) ∧ OL bv 5 w.heap.size w' a' (paU l).data.length c' (paU l).data ∧ Below w.heap.size w w' := by
  unfold paU peU
  cases hk : paK l
  · exact (parse_bits w a n c l h (by omega) hk).mono fun e w' ⟨he, hb⟩ => ⟨none, 0, he, OL.nil _ _ _ _, hb⟩
  · by_cases hs : suV l = 0#15
    · simp only [hs, decide_true, Bool.and_true, if_true]
      rw [paD_length l hk]
      exact parse_own w a n c l h hk hs
    · simp only [hs, decide_false, Bool.and_false, if_false, if_true, Bool.false_eq_true]
      exact (parse_crc w a n c l h hk hs).mono fun e w' ⟨he, hb⟩ => ⟨none, 0, he, OL.nil _ _ _ _, hb⟩

end Go.Proofs.YtgpmhmdofefdcaaGreat

namespace Go.Proofs.YtgpmhmdofefdcaaGreat
open Go.RowKit
set_option linter.unusedVariables false

theorem over_any (w : World) (b : Bool) (m : Nat) (a : Option Addr) (n c : Nat) (p : Int) (fi : Bool) (q : Int) :
    Calls Tryz.prog 111 #[.agg #[.bool b, .int .u8 (m : Int), .slice a n c, .int .u8 p, .bool fi], .int .u8 q] w fun e w' => e = .returned (.tuple #[.agg #[.bool b, .int .u8 (m : Int), .slice a n c, .int .u8 11, .bool fi], .int .u8 q]) ∧ Below w.heap.size w w' := by
  go_enter Tryz.func111, Tryz.ntmps111
  go_wp2
  exact bodyPost_ret (v := .tuple #[.agg #[.bool b, .int .u8 (m : Int), .slice a n c, .int .u8 11, .bool fi], .int .u8 q]) (by simp [results, Tryz.results111, go_sem]) rfl ⟨rfl, bnew (bnew0 _ _) _⟩

theorem onward_any (w : World) (b : Bool) (m : Nat) (a : Option Addr) (n c : Nat) (p : Int) (fi : Bool) (q p1 : Int) (hp : p1 = p + 1) (h11 : 0 ≤ p ∧ p1 ≤ 11) :
    Calls Tryz.prog 113 #[.agg #[.bool b, .int .u8 (m : Int), .slice a n c, .int .u8 p, .bool fi], .int .u8 q] w fun e w' => e = .returned (.tuple #[.agg #[.bool b, .int .u8 (m : Int), .slice a n c, .int .u8 p1, .bool fi], .int .u8 q]) ∧ Below w.heap.size w w' := by
  have HP := hid hp; clear hp
  have hpi : p + 1 ≤ 11 := by have := HP.out; omega
  have hp0 := h11.1
  go_enter Tryz.func113, Tryz.ntmps113
  go_wp2
  have e : (p + 1) = p1 := by have := HP.out; omega
  rw [← e]
  exact bodyPost_ret (v := .tuple #[.agg #[.bool b, .int .u8 (m : Int), .slice a n c, .int .u8 (p + 1), .bool fi], .int .u8 q]) (by simp [results, Tryz.results113, go_sem]) rfl ⟨rfl, bnew (bnew0 _ _) _⟩

theorem due_any (w : World) (b : Bool) (m : Nat) (a : Option Addr) (n c : Nat) (p : Int) (fi : Bool) (hm : m < 256) :
    Calls Tryz.prog 96 #[.agg #[.bool b, .int .u8 (m : Int), .slice a n c, .int .u8 p, .bool fi]] w fun e w' => e = .returned (.bool (decide (m = 5))) ∧ Below w.heap.size w w' := by
  go_enter Tryz.func96, Tryz.ntmps96
  go_wp2_with (go_at_call 50; (with_reducible refine (owed_any _ b m hm).mono ?_); rintro e w1 ⟨rfl, g1⟩; have gg1 := bstep (bnew0 w _) g1)
  go_ret
  exact ⟨rfl, gg1⟩

theorem complete_any (w : World) (a : Option Addr) (n c : Nat) (l : List Bool) (h : RL .bool w a n c l) (hn : n ≤ 100000) :
    Calls Tryz.prog 112 #[.slice a n c] w fun e w' => e = .returned (.bool (cmpL l)) ∧ Below w.heap.size w w' := by
  have hc := fun w1 h1 => fhead_U w1 a n c l h1 hn
  have hr : Hid (cmpL l = (hdK l && decide ((n : Int) = (hdU l : Int)))) := by
    show _ = _
    unfold cmpL hdU
    rw [h.len]
    cases hdK l
    · rfl
    · simp only [Bool.true_and, if_true, decide_eq_decide]; omega
  generalize cmpL l = r at hr
  generalize hdU l = N at hc hr
  cases hk : hdK l
  all_goals
    rw [hk] at hc hr
    clear hk
    go_enter Tryz.func112, Tryz.ntmps112
    go_wp2_with (go_at_call 106; (with_reducible refine (hc _ h).mono ?_); rintro e w1 ⟨rfl, g1⟩)
    go_ret
    refine ⟨ret_bool ?_, g1⟩
    rw [hr.out]
    first | rfl | (rw [Bool.eq_iff_iff]; simp)
end Go.Proofs.YtgpmhmdofefdcaaGreat

namespace Go.Proofs.YtgpmhmdofefdcaaGreat
open Go.RowKit
set_option linter.unusedVariables false

theorem below7 {B g : Nat} {w w1 : World} (h : Below B w w1) (hg : B ≤ g) (v0 v1 v2 v3 v4 : Value) : Below B w (((((w1.setCell ⟨g, 0, none⟩ v0).setCell ⟨g, 1, none⟩ v1).setCell ⟨g, 2, none⟩ v2).setCell ⟨g, 3, none⟩ v3).setCell ⟨g, 4, none⟩ v4) :=
  ((((h.setCell hg _).setCell hg _).setCell hg _).setCell hg _).setCell hg _

theorem atFixed_any (w : World) (b : Bool) (m : Nat) (a : Option Addr) (n c : Nat) (p p1 : Int) (fi x : Bool) (hp : p1 = p + 1) (h11 : 0 ≤ p ∧ p1 ≤ 11) :
    Calls Tryz.prog 101 #[.agg #[.bool b, .int .u8 (m : Int), .slice a n c, .int .u8 p, .bool fi], .bool x] w fun e w' => e = .returned (.tuple #[.agg #[.bool b, .int .u8 (m : Int), .slice a n c, .int .u8 (if x then p1 else 11), .bool fi], .int .u8 (if x then 0 else 2)]) ∧ Below w.heap.size w w' := by
  have ho := fun w1 => onward_any w1 b m a n c p fi 0 p1 hp h11
  have hv := fun w1 => over_any w1 b m a n c p fi 2
  clear hp
  cases x
  · simp only [Bool.false_eq_true, if_false]
    go_enter Tryz.func101, Tryz.ntmps101
    go_wp2_with (go_at_call 111; (with_reducible refine (hv _).mono ?_); rintro e w1 ⟨rfl, g1⟩; obtain ⟨h0, h1, gg1⟩ := two_bx g1; obtain ⟨c0, c1, c2, c3, c4⟩ := bx5 h1; have f0 := bx_thaw h1)
    exact bodyPost_ret (v := .tuple #[.agg #[.bool b, .int .u8 (m : Int), .slice a n c, .int .u8 11, .bool fi], .int .u8 2]) (by simp [results, Tryz.results101, go_sem, c0, c1, c2, c3, c4]) rfl ⟨rfl, below7 gg1 (by omega) _ _ _ _ _⟩
  · simp only [if_true]
    go_enter Tryz.func101, Tryz.ntmps101
    go_wp2_with (go_at_call 113; (with_reducible refine (ho _).mono ?_); rintro e w1 ⟨rfl, g1⟩; obtain ⟨h0, h1, gg1⟩ := two_bx g1; obtain ⟨c0, c1, c2, c3, c4⟩ := bx5 h1; have f0 := bx_thaw h1)
    exact bodyPost_ret (v := .tuple #[.agg #[.bool b, .int .u8 (m : Int), .slice a n c, .int .u8 p1, .bool fi], .int .u8 0]) (by simp [results, Tryz.results101, go_sem, c0, c1, c2, c3, c4]) rfl ⟨rfl, below7 gg1 (by omega) _ _ _ _ _⟩

theorem atAck_any (w : World) (b : Bool) (m : Nat) (a : Option Addr) (n c : Nat) (fi x : Bool) :
    Calls Tryz.prog 102 #[.agg #[.bool b, .int .u8 (m : Int), .slice a n c, .int .u8 2, .bool fi], .bool x] w fun e w' => e = .returned (.tuple #[.agg #[.bool b, .int .u8 (m : Int), .slice a n c, .int .u8 3, .bool fi], .int .u8 0]) ∧ Below w.heap.size w w' := by
  have ho := fun w1 => onward_any w1 b m a n c 2 fi 0 3 (by omega) (by omega)
  go_enter Tryz.func102, Tryz.ntmps102
  go_wp2_with (go_at_call 113; (with_reducible refine (ho _).mono ?_); rintro e w1 ⟨rfl, g1⟩; obtain ⟨h0, h1, gg1⟩ := two_bx g1; obtain ⟨c0, c1, c2, c3, c4⟩ := bx5 h1; have f0 := bx_thaw h1)
  exact bodyPost_ret (v := .tuple #[.agg #[.bool b, .int .u8 (m : Int), .slice a n c, .int .u8 3, .bool fi], .int .u8 0]) (by simp [results, Tryz.results102, go_sem, c0, c1, c2, c3, c4]) rfl ⟨rfl, below7 gg1 (by omega) _ _ _ _ _⟩

theorem atDone_any (w : World) (b : Bool) (m : Nat) (a : Option Addr) (n c : Nat) (fi x : Bool) :
    Calls Tryz.prog 103 #[.agg #[.bool b, .int .u8 (m : Int), .slice a n c, .int .u8 3, .bool fi], .bool x] w fun e w' => e = .returned (.tuple #[.agg #[.bool b, .int .u8 (m : Int), .slice a n c, .int .u8 (if x && fi then 4 else 11), .bool fi], .int .u8 (if x then (if fi then 0 else 3) else 2)]) ∧ Below w.heap.size w w' := by
  have hf := fun w1 => atFixed_any w1 b m a n c 3 4 fi x (by omega) (by omega)
  have hv := fun w1 => over_any w1 b m a n c 3 fi 3
  cases x
  · simp only [Bool.false_eq_true, if_false, Bool.false_and] at hf ⊢
    go_enter Tryz.func103, Tryz.ntmps103
    go_wp2_with (go_at_call 101; (with_reducible refine (hf _).mono ?_); rintro e w1 ⟨rfl, g1⟩; obtain ⟨h0, h1, gg1⟩ := two_bx g1; obtain ⟨c0, c1, c2, c3, c4⟩ := bx5 h1; have f0 := bx_thaw h1)
    exact bodyPost_ret (v := .tuple #[.agg #[.bool b, .int .u8 (m : Int), .slice a n c, .int .u8 11, .bool fi], .int .u8 2]) (by simp [results, Tryz.results103, go_sem, c0, c1, c2, c3, c4]) rfl ⟨rfl, below7 gg1 (by omega) _ _ _ _ _⟩
  · cases fi
    · simp only [Bool.false_eq_true, if_false, if_true, Bool.and_false] at hf ⊢
      go_enter Tryz.func103, Tryz.ntmps103
      go_wp2_with (go_at_call 111; (with_reducible refine (hv _).mono ?_); rintro e w1 ⟨rfl, g1⟩; obtain ⟨h0, h1, gg1⟩ := two_bx g1; obtain ⟨c0, c1, c2, c3, c4⟩ := bx5 h1; have f0 := bx_thaw h1)
      exact bodyPost_ret (v := .tuple #[.agg #[.bool b, .int .u8 (m : Int), .slice a n c, .int .u8 11, .bool false], .int .u8 3]) (by simp [results, Tryz.results103, go_sem, c0, c1, c2, c3, c4]) rfl ⟨rfl, below7 gg1 (by omega) _ _ _ _ _⟩
    · simp only [if_true, Bool.and_true] at hf ⊢
      go_enter Tryz.func103, Tryz.ntmps103
      go_wp2_with (go_at_call 101; (with_reducible refine (hf _).mono ?_); rintro e w1 ⟨rfl, g1⟩; obtain ⟨h0, h1, gg1⟩ := two_bx g1; obtain ⟨c0, c1, c2, c3, c4⟩ := bx5 h1; have f0 := bx_thaw h1)
      exact bodyPost_ret (v := .tuple #[.agg #[.bool b, .int .u8 (m : Int), .slice a n c, .int .u8 4, .bool true], .int .u8 0]) (by simp [results, Tryz.results103, go_sem, c0, c1, c2, c3, c4]) rfl ⟨rfl, below7 gg1 (by omega) _ _ _ _ _⟩

theorem atEnd_any (w : World) (b : Bool) (m : Nat) (a : Option Addr) (n c : Nat) (p p1 : Int) (fi x : Bool) (hp : p1 = p + 1) (h11 : 4 ≤ p ∧ p ≤ 9) :
    Calls Tryz.prog 104 #[.agg #[.bool b, .int .u8 (m : Int), .slice a n c, .int .u8 p, .bool fi], .bool x] w fun e w' => e = .returned (.tuple #[.agg #[.bool b, .int .u8 (m : Int), .slice a n c, .int .u8 (if x then p1 else 11), .bool fi], .int .u8 (if x then (if p = 9 then 4 else 0) else 2)]) ∧ Below w.heap.size w w' := by
  have hf := fun w1 => atFixed_any w1 b m a n c p p1 fi x hp (by omega)
  have ho := fun w1 => onward_any w1 b m a n c p fi 4 p1 hp (by omega)
  have HP := hid hp; clear hp
  cases x
  · simp only [Bool.false_eq_true, if_false] at hf ⊢
    go_enter Tryz.func104, Tryz.ntmps104
    go_wp2_with (go_at_call 101; (with_reducible refine (hf _).mono ?_); rintro e w1 ⟨rfl, g1⟩; obtain ⟨h0, h1, gg1⟩ := two_bx g1; obtain ⟨c0, c1, c2, c3, c4⟩ := bx5 h1; have f0 := bx_thaw h1)
    exact bodyPost_ret (v := .tuple #[.agg #[.bool b, .int .u8 (m : Int), .slice a n c, .int .u8 11, .bool fi], .int .u8 2]) (by simp [results, Tryz.results104, go_sem, c0, c1, c2, c3, c4]) rfl ⟨rfl, below7 gg1 (by omega) _ _ _ _ _⟩
  · simp only [if_true] at hf ⊢
    by_cases h9 : p = 9
    · subst h9
      simp only [if_true]
      clear h11
      go_enter Tryz.func104, Tryz.ntmps104
      go_wp2_with (go_at_call 113; (with_reducible refine (ho _).mono ?_); rintro e w1 ⟨rfl, g1⟩; obtain ⟨h0, h1, gg1⟩ := two_bx g1; obtain ⟨c0, c1, c2, c3, c4⟩ := bx5 h1; have f0 := bx_thaw h1)
      exact bodyPost_ret (v := .tuple #[.agg #[.bool b, .int .u8 (m : Int), .slice a n c, .int .u8 p1, .bool fi], .int .u8 4]) (by simp [results, Tryz.results104, go_sem, c0, c1, c2, c3, c4]) rfl ⟨rfl, below7 gg1 (by omega) _ _ _ _ _⟩
    · rw [if_neg h9]
      go_enter Tryz.func104, Tryz.ntmps104
      go_wp2_with (go_at_call 101; (with_reducible refine (hf _).mono ?_); rintro e w1 ⟨rfl, g1⟩; obtain ⟨h0, h1, gg1⟩ := two_bx g1; obtain ⟨c0, c1, c2, c3, c4⟩ := bx5 h1; have f0 := bx_thaw h1)
      exact bodyPost_ret (v := .tuple #[.agg #[.bool b, .int .u8 (m : Int), .slice a n c, .int .u8 p1, .bool fi], .int .u8 0]) (by simp [results, Tryz.results104, go_sem, c0, c1, c2, c3, c4]) rfl ⟨rfl, below7 gg1 (by omega) _ _ _ _ _⟩

theorem atLast_any (w : World) (b : Bool) (m : Nat) (a : Option Addr) (n c : Nat) (fi x : Bool) :
    Calls Tryz.prog 105 #[.agg #[.bool b, .int .u8 (m : Int), .slice a n c, .int .u8 10, .bool fi], .bool x] w fun e w' => e = .returned (.tuple #[.agg #[.bool b, .int .u8 (m : Int), .slice a n c, .int .u8 11, .bool fi], .int .u8 (if x then 6 else 5)]) ∧ Below w.heap.size w w' := by
  have ho := fun w1 => onward_any w1 b m a n c 10 fi 5 11 (by omega) (by omega)
  have hv := fun w1 => onward_any w1 b m a n c 10 fi 6 11 (by omega) (by omega)
  cases x
  · simp only [Bool.false_eq_true, if_false]
    go_enter Tryz.func105, Tryz.ntmps105
    go_wp2_with (go_at_call 113; (with_reducible refine (ho _).mono ?_); rintro e w1 ⟨rfl, g1⟩; obtain ⟨h0, h1, gg1⟩ := two_bx g1; obtain ⟨c0, c1, c2, c3, c4⟩ := bx5 h1; have f0 := bx_thaw h1)
    exact bodyPost_ret (v := .tuple #[.agg #[.bool b, .int .u8 (m : Int), .slice a n c, .int .u8 11, .bool fi], .int .u8 5]) (by simp [results, Tryz.results105, go_sem, c0, c1, c2, c3, c4]) rfl ⟨rfl, below7 gg1 (by omega) _ _ _ _ _⟩
  · simp only [if_true]
    go_enter Tryz.func105, Tryz.ntmps105
    go_wp2_with (go_at_call 113; (with_reducible refine (hv _).mono ?_); rintro e w1 ⟨rfl, g1⟩; obtain ⟨h0, h1, gg1⟩ := two_bx g1; obtain ⟨c0, c1, c2, c3, c4⟩ := bx5 h1; have f0 := bx_thaw h1)
    exact bodyPost_ret (v := .tuple #[.agg #[.bool b, .int .u8 (m : Int), .slice a n c, .int .u8 11, .bool fi], .int .u8 6]) (by simp [results, Tryz.results105, go_sem, c0, c1, c2, c3, c4]) rfl ⟨rfl, below7 gg1 (by omega) _ _ _ _ _⟩
end Go.Proofs.YtgpmhmdofefdcaaGreat
