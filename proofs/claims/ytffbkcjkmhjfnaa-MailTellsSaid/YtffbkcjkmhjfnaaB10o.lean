/-
  Contracts: a mail that is none; the document's Same.
-/
import Derived.Test.YtffbkcjkmhjfnaaB10n
namespace Go.Proofs.Ytffbkcjkmhjfnaa
open Go.RowKit Go.Sort
set_option linter.unusedVariables false

abbrev mlZ : Array Value := #[.pointer none, .int .i64 0, .int .i64 0, .slice none 0 0, .int .i64 0, .bool false]
/-- A mail that is none: nil, or one that New did not answer. -/
def NoM (w : World) (v : Value) : Prop := v = .pointer none ∨ ∃ g, v = .pointer (some ⟨g, 0, none⟩) ∧ w.heap[g]? = some (.cells mlZ 49 (0, 0))
theorem NoM.below {w w1 : World} {v : Value} (h : NoM w v) (k : Below w.heap.size w w1) : NoM w1 v := by
  rcases h with h | ⟨g, h1, h2⟩
  · exact .inl h
  · exact .inr ⟨g, h1, bx_below h2 k⟩

theorem eqMn (w : World) (p : Addr) : (binOp .eql 23 (.pointer none) (.pointer (some p))).run Try.prog w = .ok (.bool false) w := by
  have h : ∀ d : Nat, (Op.equalIn (d + 1) 23 (.pointer none) (.pointer (some p))).run Try.prog w = .ok false w := fun d => by
    simp [Op.equalIn, run_underlying (show Try.prog.underlying 23 = some (.pointer 49) by kernel_rfl)]
  simp only [binOp]
  simp [Op.equal, Op.maxDepth, h 9999]

section
variable {w : World} {v : Value}

set_option maxRecDepth 100000 in
theorem made_none (h : NoM w v) : Calls Try.prog 27 #[v] w fun e w' => e = .returned (.bool false) ∧ w = w' := by
  rcases h with rfl | ⟨g, rfl, h⟩
  · go_enter Try.func27, Try.ntmps27
    go_wp2
    go_ret
    exact ⟨rfl, rfl⟩
  · have q0 := (bx6 h).1
    have qe := fun w => eqMn w ⟨g, 0, none⟩
    go_enter Try.func27, Try.ntmps27
    go_wp2
    go_ret
    exact ⟨rfl, rfl⟩

theorem mlPut_none (h : NoM w v) (cs : Array Value) : Calls Try.prog 17 #[v, .agg cs] w fun e w' => e = .returned (.tuple #[.int .i64 0, .int .i64 1]) ∧ Below w.heap.size w w' := by
  obtain ⟨w0, hw0, hg⟩ : ∃ w0, Hid (w.alloc (.cells cs 34) = w0) ∧ Below w.heap.size w w0 := ⟨_, rfl, bnew0 w _⟩
  have hm := made_none (h.below hg)
  clear h
  go_enter Try.func17, Try.ntmps17
  go_wp2_with (go_at_call 27; rw [hw0.out]; (refine hm.mono ?_); rintro e w1 ⟨rfl, rfl⟩)
  go_ret2
  exact ⟨rfl, hg⟩

theorem best_none (h : NoM w v) : Calls Try.prog 7 #[v] w fun e w' => e = .returned (.tuple #[.int .i64 0, .agg frZr, .bool false]) ∧ Below w.heap.size w w' := by
  obtain ⟨w0, hw0, hb, hg⟩ : ∃ w0, Hid (w.alloc (.cells frZr 34) = w0) ∧ w0.heap[w.heap.size]? = some (.cells frZr 34 (0, 0)) ∧ Below w.heap.size w w0 := ⟨_, rfl, heap_alloc_new w _, bnew0 w _⟩
  have hm := made_none (h.below hg)
  clear h
  go_enter Try.func7, Try.ntmps7
  go_wp2_with (first
    | (go_at_call 27; rw [hw0.out]; (refine hm.mono ?_); rintro e w1 ⟨rfl, rfl⟩)
    | (with_reducible refine wpList_storeR rowF rfl _ _ rfl _ _ rfl rfl hb rfl rfl (by kernel_rfl) ?_))
  exact bodyPost_ret (v := .tuple #[.int .i64 0, .agg frZr, .bool false]) (results_row_mid rowF rfl _ _ _ rfl rfl rfl (setRow_heap _ _ _ _ _ _ hb) rfl) rfl ⟨rfl, below_setRow hg (Nat.le_refl _) _⟩

theorem start_none (h : NoM w v) : Calls Try.prog 18 #[v] w fun e w' => e = .returned (.tuple #[.int .i64 0, .bool false]) ∧ w = w' := by
  have hm := made_none h
  clear h
  go_enter Try.func18, Try.ntmps18
  go_wp2_with (go_at_call 27; (refine hm.mono ?_); rintro e w1 ⟨rfl, rfl⟩)
  go_ret2
  exact ⟨rfl, rfl⟩
theorem sent_none (h : NoM w v) : Calls Try.prog 21 #[v] w fun e w' => e = .returned (.tuple #[.int .i64 0, .bool false]) ∧ w = w' := by
  have hm := made_none h
  clear h
  go_enter Try.func21, Try.ntmps21
  go_wp2_with (go_at_call 27; (refine hm.mono ?_); rintro e w1 ⟨rfl, rfl⟩)
  go_ret2
  exact ⟨rfl, rfl⟩
theorem lost_none (h : NoM w v) : Calls Try.prog 20 #[v] w fun e w' => e = .returned (.tuple #[]) ∧ w = w' := by
  have hm := made_none h
  clear h
  go_enter Try.func20, Try.ntmps20
  go_wp2_with (go_at_call 27; (refine hm.mono ?_); rintro e w1 ⟨rfl, rfl⟩)
  exact bodyPost_ret (v := .tuple #[]) (by simp [results, Try.results20, go_sem]) rfl ⟨rfl, rfl⟩
theorem abort_none (h : NoM w v) (n : Int) : Calls Try.prog 19 #[v, .int .i64 n] w fun e w' => e = .returned (.tuple #[.bool false, .int .i64 1]) ∧ w = w' := by
  have hm := made_none h
  clear h
  go_enter Try.func19, Try.ntmps19
  go_wp2_with (go_at_call 27; (refine hm.mono ?_); rintro e w1 ⟨rfl, rfl⟩)
  go_ret2
  exact ⟨rfl, rfl⟩
theorem mlen_none (h : NoM w v) : Calls Try.prog 10 #[v] w fun e w' => e = .returned (.int .i64 0) ∧ w = w' := by
  have hm := made_none h
  clear h
  go_enter Try.func10, Try.ntmps10
  go_wp2_with (go_at_call 27; (refine hm.mono ?_); rintro e w1 ⟨rfl, rfl⟩)
  go_ret
  exact ⟨rfl, rfl⟩
theorem waits_none (h : NoM w v) (n : Int) : Calls Try.prog 11 #[v, .int .i64 n] w fun e w' => e = .returned (.bool false) ∧ w = w' := by
  have hm := made_none h
  clear h
  go_enter Try.func11, Try.ntmps11
  go_wp2_with (go_at_call 27; (refine hm.mono ?_); rintro e w1 ⟨rfl, rfl⟩)
  go_ret
  exact ⟨rfl, rfl⟩

/-- Two frames without anything are the same. -/
theorem same_zero (w : World) : Calls Try.prog 9 #[.agg #[.int .u32 0, .bool false, .bool false, .int .u8 0, .slice none 0 0], .agg #[.int .u32 0, .bool false, .bool false, .int .u8 0, .slice none 0 0]] w fun e w' => e = .returned (.bool true) ∧ Below w.heap.size w w' := by
  go_enter Try.func9, Try.ntmps9
  go_wp2
  go_loopg [5] 0 (fun gn vi wr => vi = .int .i64 0 ∧ (wr.heap[w.heap.size]? = some (.cells frZr 34 (0, 0)) ∧ Below w.heap.size w wr))
  case atStart => exact ⟨rfl, bx_alloc _ (heap_alloc_new w _), bnew (bnew0 w _) _⟩
  case round =>
    obtain ⟨rfl, hb, hg⟩ := hrel
    have q4 := (bx5 hb).2.2.2.2
    go_wp2
    go_ret
    exact ⟨rfl, hg⟩
end
end Go.Proofs.Ytffbkcjkmhjfnaa
