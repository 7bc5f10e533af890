/-
  Contracts: the first filter of a list that lets a frame in; whether one does; what covers what.
-/
import Derived.Test.YtmaklneiedljjaaB11
import Derived.Deep.RegionHeld3
namespace Go.Proofs.Ytmaklneiedljjaa
open Go.RowKit Go.Sort
set_option linter.unusedVariables false

/-- A frame's cells, of which a filter asks two. -/
abbrev fmV (id : Nat) (e r : Bool) (dl cd : Value) : Array Value := #[.int .u32 (id : Int), .bool e, .bool r, dl, cd]

theorem accepts_any (w : World) (id : Nat) (e r : Bool) (dl cd : Value) :
    Calls Try.prog 23 #[.agg (fmV id e r dl cd)] w fun q w' => q = .returned (.func (.func 31) #[] #[.pointer (some ⟨w.heap.size, 0, none⟩)]) ∧ w' = w.alloc (.cells (fmV id e r dl cd) 30) := by
  have hmf : ∀ w', (Instr.makeFunc (.func 31) #[] #[.pointer (some ⟨w.heap.size, 0, none⟩)]).run Try.prog w' = .ok (.func (.func 31) #[] #[.pointer (some ⟨w.heap.size, 0, none⟩)]) w' := fun w' => rfl
  go_enter Try.func23, Try.ntmps23
  go_wp2
  go_ret
  exact ⟨rfl, rfl⟩

set_option maxHeartbeats 1000000 in
theorem fiIndex_any (w : World) (a : Option Addr) (n c : Nat) (l : List Fi) (b id : Nat) (e r : Bool) (dl cd : Value) (h : RK fiE 3 w a n c l) (hok : ∀ x ∈ l, x.Ok) (hn : n ≤ 100000) (hi : id < 4294967296) (hb : w.heap[b]? = some (.cells (fmV id e r dl cd) 30 (0, 0))) :
    Calls Try.prog 22 #[.slice a n c, .func (.func 31) #[] #[.pointer (some ⟨b, 0, none⟩)]] w fun q w' => q = .returned (.int .i64 (fiF id e l)) ∧ Below w.heap.size w w' := by
  have HL := hid h.len
  have HO := hid hok; clear hok
  go_enter Try.func22, Try.ntmps22
  go_wp2
  go_loopg [8] n (fun gn vi wr => ∃ k : Nat, k ≤ n ∧ gn = n - k ∧ vi = .int .i64 (k : Int) ∧ Hid (anyF id e (l.take k) = false) ∧ Below w.heap.size w wr)
  case atStart => exact ⟨0, by omega, by omega, rfl, by rw [List.take_zero]; rfl, Below.refl _ _⟩
  case round =>
    obtain ⟨k, hk, rfl, rfl, HF, hbl⟩ := hrel
    by_cases hlt : k < n
    · obtain ⟨p, hp⟩ : ∃ p, l[k]? = some p := ⟨l[k]'(by rw [HL.out]; exact hlt), by simp⟩
      obtain ⟨gb, off, rfl, hgb, hr⟩ := (h.below hbl).range hp
      have hcl := lets_any wr p (HO.out p (List.mem_of_getElem? hp)) b id e r dl cd hi (bx_below hb hbl)
      have HP := hid hp; clear hp
      cases he : letsF id e p
      · rw [he] at hcl
        have HE := hid he; clear he
        go_wp2_with (first
          | (with_reducible refine wpList_loadM rowFi rfl _ rfl _ _ rfl (fiV p) hr rfl ?_)
          | (go_at_call 31; (with_reducible refine hcl.mono ?_); rintro q w1 ⟨rfl, g1⟩))
        go_roundg (n - (k + 1))
        case measure => omega
        case rel => exact ⟨k + 1, by omega, rfl, by go_num, by show _ = _; rw [anyF_take HP.out, HF.out, HE.out]; rfl, bstep hbl g1⟩
      · rw [he] at hcl
        have HE := hid he; clear he
        go_wp2_with (first
          | (with_reducible refine wpList_loadM rowFi rfl _ rfl _ _ rfl (fiV p) hr rfl ?_)
          | (go_at_call 31; (with_reducible refine hcl.mono ?_); rintro q w1 ⟨rfl, g1⟩))
        go_ret
        exact ⟨ret_int (fiF_at HP.out HE.out HF.out).symm, bstep hbl g1⟩
    · obtain rfl : k = n := by omega
      go_wp2
      go_ret
      exact ⟨ret_int (fiF_no (by have := HF.out; rwa [List.take_of_length_le (by rw [HL.out]; exact Nat.le_refl _)] at this)).symm, hbl⟩

theorem fiContains_any (w : World) (a : Option Addr) (n c : Nat) (l : List Fi) (b id : Nat) (e r : Bool) (dl cd : Value) (h : RK fiE 3 w a n c l) (hok : ∀ x ∈ l, x.Ok) (hn : n ≤ 100000) (hi : id < 4294967296) (hb : w.heap[b]? = some (.cells (fmV id e r dl cd) 30 (0, 0))) :
    Calls Try.prog 29 #[.slice a n c, .func (.func 31) #[] #[.pointer (some ⟨b, 0, none⟩)]] w fun q w' => q = .returned (.bool (anyF id e l)) ∧ Below w.heap.size w w' := by
  have hc := fiIndex_any w a n c l b id e r dl cd h hok hn hi hb
  rw [← fiF_ge]
  generalize fiF id e l = v at *
  go_enter Try.func29, Try.ntmps29
  go_wp2_with (go_at_call 22; (with_reducible refine hc.mono ?_); rintro q w1 ⟨rfl, g1⟩)
  all_goals (go_ret; exact ⟨ret_bool (by simp), g1⟩)

theorem fiFirst_any (w : World) (a : Option Addr) (n c : Nat) (l : List Fi) (id : Nat) (e r : Bool) (dl cd : Value) (h : RK fiE 3 w a n c l) (hok : ∀ x ∈ l, x.Ok) (hn : n ≤ 100000) (hi : id < 4294967296) :
    Calls Try.prog 9 #[.slice a n c, .agg (fmV id e r dl cd)] w fun q w' => q = .returned (.tuple #[.int .i64 (max (fiF id e l) 0), .bool (anyF id e l)]) ∧ Below w.heap.size w w' := by
  have hb0 := heap_alloc_new w (.cells (fmV id e r dl cd) 30)
  have g0 := bnew0 w (.cells (fmV id e r dl cd) 30)
  have hb1 := heap_alloc_new (w.alloc (.cells (fmV id e r dl cd) 30)) (.cells (fmV id e r dl cd) 30)
  rw [heap_size_alloc] at hb1
  have g1 := bnew g0 (.cells (fmV id e r dl cd) 30)
  have hc := fiIndex_any _ a n c l _ id e r dl cd (h.below g1) hok hn hi hb1
  rw [← fiF_ge]
  generalize fiF id e l = v at *
  have hm : ∀ ts t w', (Builtin.max_ ts t #[.int .i64 v, .int .i64 0]).run Try.prog w' = .ok (.int .i64 (max v 0)) w' := fun ts t w' => by rw [run_max_int2]; congr 2; split <;> omega
  go_enter Try.func9, Try.ntmps9
  go_wp2_with (first
    | (with_reducible refine wpList_loadR rowF rfl _ rfl _ rfl hb0 rfl ?_)
    | (go_at_call 23; (with_reducible refine (accepts_any _ id e r dl cd).mono ?_); rintro q w1 ⟨rfl, rfl⟩)
    | (go_at_call 22; (with_reducible refine hc.mono ?_); rintro q w2 ⟨rfl, g2⟩))
  all_goals (go_ret2; exact ⟨by simp, bstep g1 g2⟩)

theorem fiPass_any (w : World) (a : Option Addr) (n c : Nat) (l : List Fi) (id : Nat) (e r : Bool) (dl cd : Value) (h : RK fiE 3 w a n c l) (hok : ∀ x ∈ l, x.Ok) (hn : n ≤ 100000) (hi : id < 4294967296) :
    Calls Try.prog 13 #[.slice a n c, .agg (fmV id e r dl cd)] w fun q w' => q = .returned (.bool (passF id e l)) ∧ Below w.heap.size w w' := by
  have hb0 := heap_alloc_new w (.cells (fmV id e r dl cd) 30)
  have g0 := bnew0 w (.cells (fmV id e r dl cd) 30)
  have hb1 := heap_alloc_new (w.alloc (.cells (fmV id e r dl cd) 30)) (.cells (fmV id e r dl cd) 30)
  rw [heap_size_alloc] at hb1
  have g1 := bnew g0 (.cells (fmV id e r dl cd) 30)
  have hc := fiContains_any _ a n c l _ id e r dl cd (h.below g1) hok hn hi hb1
  rw [passF, h.len]
  generalize anyF id e l = v at *
  by_cases h0 : n = 0
  · subst h0
    go_enter Try.func13, Try.ntmps13
    go_wp2
    go_ret
    exact ⟨rfl, g0⟩
  · have d1 : ((n : Int) == 0) = false := by simp; omega
    rw [decide_eq_false h0, Bool.false_or]
    clear h0
    go_enter Try.func13, Try.ntmps13
    go_wp2_with (first
      | (with_reducible refine wpList_loadW rowF (by simp [Region.wanted, yielded]) _ rfl _ rfl hb0 rfl ?_)
      | (go_at_call 23; (with_reducible refine (accepts_any _ id e r dl cd).mono ?_); rintro q w1 ⟨rfl, rfl⟩)
      | (go_at_call 29; (with_reducible refine hc.mono ?_); rintro q w2 ⟨rfl, g2⟩))
    go_ret
    exact ⟨rfl, bstep g1 g2⟩
end Go.Proofs.Ytmaklneiedljjaa
