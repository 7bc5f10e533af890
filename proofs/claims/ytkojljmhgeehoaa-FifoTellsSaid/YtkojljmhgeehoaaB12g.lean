/-
  Contracts of the document's own answers on fifos (jackstayref12.State), and of the comparison of frames.
-/
import Derived.Test.YtkojljmhgeehoaaB12
import Derived.Test.YtkojljmhgeehoaaRst
import Derived.Test.YtkojljmhgeehoaaTyB
import Derived.Lib.QuietBelow
import Derived.ArgAppend
namespace Go.Proofs.Ytkojljmhgeehoaa
open Go.RowKit Go.Sort
set_option linter.unusedVariables false

section
variable {P : Program} {md : Region.Mode} {ops : Array Oper} {Q : Exit → Act → World → Prop} {S : World → Prop} {X : List Nat} {i j m : Nat} {oi oj : Oper} {l : Array Bool} {a : Act} {w : World}
/-- Two may come up now: both are walked. -/
theorem Rest.two (hr : Region.ready md ops l = [i, j]) (hi : ops[i]? = some oi) (hj : ops[j]? = some oj)
    (h1 : ∀ K' : Act → World → Prop, (∀ a w, (S w ∨ Thru X (l.setIfInBounds i true)) ∧ Rest P md ops Q S X m (l.setIfInBounds i true) a w → K' a w) → if Region.wanted oi (yielded ops a.tmps) = true then Oper.wp P oi a w K' Q else K' (a.put oi.dst undef) w)
    (h2 : ∀ K' : Act → World → Prop, (∀ a w, (S w ∨ Thru X (l.setIfInBounds j true)) ∧ Rest P md ops Q S X m (l.setIfInBounds j true) a w → K' a w) → if Region.wanted oj (yielded ops a.tmps) = true then Oper.wp P oj a w K' Q else K' (a.put oj.dst undef) w) :
    Rest P md ops Q S X (m + 1) l a w :=
  ⟨fun h0 => (by rw [hr] at h0; cases h0), fun k hk => by
    rw [hr] at hk
    simp only [List.mem_cons, List.not_mem_nil, or_false] at hk
    rcases hk with rfl | rfl
    · exact wpOp_step hi h1
    · exact wpOp_step hj h2⟩
end

/-- 'append([]T{}, x...)': a row of the call's own; no block that was there is turned. -/
theorem wp_app0K {α : Type} {enc : α → List Value} {k : Nat} {E T : TypeId} {z : Value} {bytes : Nat} {B : Nat} {w : World} {P : Program} {m : List α} {h : Addr} {o : Oper} {ac : Act} {K : Act → World → Prop} {Q : Exit → Act → World → Prop} (hT : ElK P T E k z bytes) (hk : EnK enc k) (s x : Operand)
    (ho : o.op = .call { callee := .builtin .append, args := #[s, x], argTypes := #[T, T] }) (hs : ac.eval s = .slice (some h) 0 0) (hown : OK enc k E B w (some h) 0 0 []) {a2 : Option Addr} {n2 c2 : Nat} (hx : ac.eval x = .slice a2 n2 c2) (hr : RK enc k w a2 n2 c2 m)
    (h63 : n2 ≤ 1000000) (hby : bytes ≤ 64) (hbase : B ≤ w.heap.size)
    (hK : ∀ w' a' c', OK enc k E B w' a' n2 c' m → Below w.heap.size w w' → K (ac.put o.dst (.slice a' n2 c')) w') : o.wp P ac w K Q := by
  obtain ⟨i, hi, hz0, hz1, hz2⟩ := info_parts hT.info
  by_cases h0 : n2 = 0
  · subst h0
    have hm : m = [] := List.eq_nil_of_length_eq_zero hr.len
    subst hm
    have hrun : (Builtin.append_ #[T, T] o.type #[.slice (some h) 0 0, .slice a2 0 c2]).run P w = .ok (.slice (some h) 0 0) w := by
      cases a2 <;> simp [Builtin.append_, run_underlying hT.und, sizeOf, typeInfo, hi, Builtin.lenOf, Builtin.firstCells, storeCells, loadCells, loadCellsFrom]
    unfold Oper.wp
    simp [execOp, ho, resolve, invoke, builtin, hs, hx, hrun, Result.andThen]
    exact hK w _ _ hown (Below.refl _ _)
  · obtain ⟨b, off, rfl, hb, hc⟩ := hr.cell (by omega)
    obtain ⟨v', w', hrun, r1, r2⟩ := run_append_arg_grows (P := P) w T o.type E i z k bytes hT.und hi hz0 hz1 hz2 hT.zc hT.pos h 0 0 [] (by simp) (fun j u hu => by simp at hu) ⟨b, off, none⟩ n2 c2 (m.flatMap enc) (by rw [flat_len hk, hr.len]) (fun j u hu => by
      obtain ⟨i', j', y, h1, h2, rfl⟩ := flat_back hk m j u hu
      rw [Addr.add_lit]
      exact hc i' y j' u h1 h2) (by omega) (by unfold maxLen; omega) (by rw [Nat.zero_add]; have := Nat.mul_le_mul h63 hby; omega)
    obtain ⟨a', c', rfl, hol⟩ := ok_of_ownsRow (enc := enc) (l := m) r1 (by simp) (by rw [hr.len, Nat.zero_add])
    rw [Nat.zero_add] at hol hrun
    unfold Oper.wp
    simp [execOp, ho, resolve, invoke, builtin, hs, hx, hrun, Result.andThen]
    exact hK _ _ _ (hol.mono hbase) ⟨r2.os, r2.tape, r2.output, r2.size, fun k hk => r2.block k hk (by simp)⟩

/-- The list of a State: it is read, its data are; all its blocks are in T. -/
structure LrO (B : Nat) (w : World) (a : Option Addr) (c : Nat) (L : List Rx) (T : Nat → Prop) : Prop where
  row : RK enX 6 w a L.length c L
  dat : ∀ p ∈ L, RL bv w p.1.2.1 p.1.1.data.length p.1.2.2 p.1.1.data
  ta : ∀ q, a = some q → T q.block
  td : ∀ p ∈ L, ∀ q, p.1.2.1 = some q → T q.block
  tB : ∀ k, T k → B ≤ k
  tL : ∀ k, T k → k < w.heap.size

section
variable {B : Nat} {w w1 : World} {a : Option Addr} {c : Nat} {L : List Rx} {S T : Nat → Prop}
theorem LrO.ch (h : LrO B w a c L T) (k : Ch S w w1) (hn : ∀ b, T b → ¬ S b) : LrO B w1 a c L T :=
  ⟨h.row.ch k (fun q hq => hn _ (h.ta q hq)), fun p hp => (h.dat p hp).ch k (fun q hq => hn _ (h.td p hp q hq)), h.ta, h.td, h.tB, fun b hb => Nat.lt_of_lt_of_le (h.tL b hb) k.size⟩
theorem LrO.below (h : LrO B w a c L T) (k : Below w.heap.size w w1) : LrO B w1 a c L T := h.ch (S := fun _ => False) (Ch.of_below k) (fun _ _ e => e)
theorem LrO.nil (B : Nat) (w : World) : LrO B w none 0 [] (fun _ => False) := ⟨RK.nil _ _ _ _ _, fun p hp => (by cases hp), fun q hq => (by cases hq), fun p hp => (by cases hp), fun k h => h.elim, fun k h => h.elim⟩

abbrev stV (a : Option Addr) (c : Nat) (L : List Rx) (room : Nat) (fl : Bool) : Array Value := #[.slice a L.length c, .int .i64 (room : Int), .bool fl]
abbrev stZ : Array Value := #[.slice none 0 0, .int .i64 0, .bool false]
theorem st_ones (a : Option Addr) (c : Nat) (L : List Rx) (room : Nat) (fl : Bool) : (stV a c L room fl).all (·.oneCell') = true := by kernel_rfl
theorem rowSt : RowT Try.prog 30 3 := rowT_of (by kernel_rfl) (by kernel_rfl)

theorem bx3s {w : World} {g : Nat} {E : TypeId} {v0 v1 v2 : Value} (h : w.heap[g]? = some (.cells #[v0, v1, v2] E (0, 0))) :
    w.cell? ⟨g, 0, none⟩ = some v0 ∧ w.cell? ⟨g, 1, none⟩ = some v1 ∧ w.cell? ⟨g, 2, none⟩ = some v2 :=
  ⟨by rw [cell_of_row w g 0 _ _ _ h]; rfl, by rw [cell_of_row w g 1 _ _ _ h]; rfl, by rw [cell_of_row w g 2 _ _ _ h]; rfl⟩

set_option maxRecDepth 100000 in
set_option maxHeartbeats 4000000 in
theorem refPush_full (w : World) (room : Nat) (fl : Bool) (p : Rx) (hr : room ≤ L.length) :
    Calls Try.prog 9 #[.agg (stV a c L room fl), .agg (rxV p)] w fun e w' => e = .returned (.tuple #[.agg (stV a c L room true), .int .i64 5]) ∧ Below w.heap.size w w' := by
  obtain ⟨w0, hw0, b0, g0⟩ : ∃ w0, Hid (w.alloc (.cells (stV a c L room fl) 30) = w0) ∧ w0.heap[w.heap.size]? = some (.cells (stV a c L room fl) 30 (0, 0)) ∧ Below w.heap.size w w0 := ⟨_, rfl, heap_alloc_new w _, bnew0 w _⟩
  obtain ⟨r, w1, hw1, HR, b1, r1, g1, hne⟩ : ∃ r w1, Hid ((w0.alloc (.cells (rxV p) 36)).alloc (.cells stZ 30) = w1) ∧ Hid (w0.heap.size + 1 = r) ∧ w1.heap[w.heap.size]? = some (.cells (stV a c L room fl) 30 (0, 0)) ∧ w1.heap[r]? = some (.cells stZ 30 (0, 0)) ∧ Below w.heap.size w w1 ∧ w.heap.size < r :=
    ⟨_, _, rfl, rfl, bx_alloc _ (bx_alloc _ b0), by have := heap_alloc_new (w0.alloc (.cells (rxV p) 36)) (.cells stZ 30); rwa [heap_size_alloc] at this, bnew (bnew g0 _) _, by have := bx_lt b0; omega⟩
  obtain ⟨x0, x1, x2⟩ := bx3s b1
  have f1 := bx_thaw b1
  have hd : decide (room ≤ L.length) = true := decide_eq_true hr
  have b2 : (w1.setCell ⟨w.heap.size, 2, none⟩ (.bool true)).heap[w.heap.size]? = some (.cells (stV a c L room true) 30 (0, 0)) := heap_setCell_same w1 w.heap.size 2 _ _ _ b1
  have r2 : (w1.setCell ⟨w.heap.size, 2, none⟩ (.bool true)).heap[r]? = some (.cells stZ 30 (0, 0)) := (Below.heap_setCell _ _ _ _ (Nat.ne_of_gt hne)).trans r1
  clear b0 g0 hr
  go_enter Try.func9, Try.ntmps9
  go_wp2_with (first
    | (rw [hw0.out])
    | (rw [hw1.out, HR.out])
    | (with_reducible refine wpList_loadR rowSt rfl _ rfl _ rfl b2 rfl ?_)
    | (with_reducible refine wpList_storeR rowSt rfl _ _ rfl _ _ rfl rfl r2 rfl rfl (st_ones _ _ _ _ _) ?_))
  exact bodyPost_ret (v := .tuple #[.agg (stV a c L room true), .int .i64 5]) (results_row1 rowSt rfl _ _ _ rfl rfl (setRow_heap _ _ _ _ _ _ r2) rfl) rfl ⟨rfl, below_setRow (g1.setCell (Nat.le_refl _) _) (Nat.le_of_lt hne) _⟩

theorem refPush_box {w6 : World} {k : Nat} {a6 : Option Addr} {c6 room : Nat} {fl : Bool} {p : Rx} (h : w6.heap[k]? = some (.cells (stV a c L room fl) 30 (0, 0))) :
    (w6.setCell ⟨k, 0, none⟩ (.slice a6 (L.length + 1) c6)).heap[k]? = some (.cells (stV a6 c6 (L ++ [p]) room fl) 30 (0, 0)) := by
  rw [heap_setCell_same w6 k 0 _ _ _ h]
  show some (Obj.cells #[Value.slice a6 (L.length + 1) c6, _, _] _ _) = some (Obj.cells #[Value.slice a6 (L ++ [p]).length c6, _, _] _ _)
  rw [show (L ++ [p]).length = L.length + 1 by simp]

/-- What Push of a State answers. -/
def RpR (B : Nat) (w : World) (room : Nat) (fl : Bool) (L : List Rx) (T : Nat → Prop) (p : Rx) (e : Ending) (w' : World) : Prop :=
  ∃ a' c' T', e = .returned (.tuple #[.agg (stV a' c' (L ++ [p]) room fl), .int .i64 0]) ∧ LrO B w' a' c' (L ++ [p]) T' ∧ Below w.heap.size w w' ∧ (∀ k, T' k → T k ∨ (∃ q, p.1.2.1 = some q ∧ q.block = k) ∨ w.heap.size ≤ k)

theorem refPush_fin {room r : Nat} {fl : Bool} {p : Rx} {w6 : World} {a6 : Option Addr} {c6 : Nat} (h : LrO B w a c L T) (hB : B ≤ w.heap.size) (hp : RL bv w p.1.2.1 p.1.1.data.length p.1.2.2 p.1.1.data) (hpb : ∀ q, p.1.2.1 = some q → B ≤ q.block ∧ q.block < w.heap.size)
    (g1 : Below w.heap.size w w1) (g6 : Below w1.heap.size w1 w6) (o6 : OK enX 6 36 w1.heap.size w6 a6 (L.length + 1) c6 (L ++ [p])) (hr : w.heap.size ≤ r) (hr1 : r < w1.heap.size) (hs1 : w.heap.size < w1.heap.size) (cs : Array Value) :
    RpR B w room fl L T p (.returned (.tuple #[.agg (stV a6 c6 (L ++ [p]) room fl), .int .i64 0])) ((w6.setCell ⟨w.heap.size, 0, none⟩ (.slice a6 (L.length + 1) c6)).setRow r cs) := by
  have g06 := bstep g1 g6
  have k : Ch (fun b => b = w.heap.size ∨ b = r) w6 ((w6.setCell ⟨w.heap.size, 0, none⟩ (.slice a6 (L.length + 1) c6)).setRow r cs) :=
    (Ch.setCell (S := fun b => b = w.heap.size ∨ b = r) (Ch.refl _ w6) (p := ⟨w.heap.size, 0, none⟩) (.inl (.inl rfl)) _).setRow (.inl (.inr rfl)) _
  have hlen : (L ++ [p]).length = L.length + 1 := by simp
  have hol : ∀ q, a6 = some q → w1.heap.size ≤ q.block ∧ q.block < w6.heap.size := fun q hq => ⟨(o6.ltB hq).2, (o6.ltB hq).1⟩
  have z6 := g06.size
  refine ⟨a6, c6, fun b => T b ∨ (∃ q, p.1.2.1 = some q ∧ q.block = b) ∨ (w1.heap.size ≤ b ∧ b < w6.heap.size), rfl, ⟨?_, fun y hy => ?_, fun q hq => .inr (.inr (hol q hq)), fun y hy q hq => ?_, fun b hb => ?_, fun b hb => ?_⟩, below_setRow (g06.setCell (Nat.le_refl _) _) hr _, fun b hb => ?_⟩
  · rw [hlen]
    exact (o6.rk enX_k).ch k (fun q hq e => by have := hol q hq; rcases e with e | e <;> omega)
  · rcases List.mem_append.1 hy with hy | hy
    · exact ((h.dat y hy).below g06).ch k (fun q hq e => by have := h.tL _ (h.td y hy q hq); rcases e with e | e <;> omega)
    · simp at hy
      subst hy
      exact (hp.below g06).ch k (fun q hq e => by have := (hpb q hq).2; rcases e with e | e <;> omega)
  · rcases List.mem_append.1 hy with hy | hy
    · exact .inl (h.td y hy q hq)
    · simp at hy
      subst hy
      exact .inr (.inl ⟨q, hq, rfl⟩)
  · rcases hb with hb | ⟨q, hq, rfl⟩ | hb
    · exact h.tB b hb
    · exact (hpb q hq).1
    · omega
  · refine Nat.lt_of_lt_of_le ?_ k.size
    rcases hb with hb | ⟨q, hq, rfl⟩ | hb
    · have := h.tL b hb; omega
    · have := (hpb q hq).2; omega
    · exact hb.2
  · rcases hb with hb | hb | hb
    · exact .inl hb
    · exact .inr (.inl hb)
    · exact .inr (.inr (by omega))

set_option maxRecDepth 100000 in
set_option maxHeartbeats 8000000 in
theorem refPush_any (w : World) (room : Nat) (fl : Bool) (p : Rx) (h : LrO B w a c L T) (hB : B ≤ w.heap.size) (hr : L.length < room) (hn : L.length ≤ 1000) (hp : RL bv w p.1.2.1 p.1.1.data.length p.1.2.2 p.1.1.data) (hpb : ∀ q, p.1.2.1 = some q → B ≤ q.block ∧ q.block < w.heap.size) :
    Calls Try.prog 9 #[.agg (stV a c L room fl), .agg (rxV p)] w (RpR B w room fl L T p) := by
  obtain ⟨w0, hw0, b0, g0⟩ : ∃ w0, Hid (w.alloc (.cells (stV a c L room fl) 30) = w0) ∧ w0.heap[w.heap.size]? = some (.cells (stV a c L room fl) 30 (0, 0)) ∧ Below w.heap.size w w0 := ⟨_, rfl, heap_alloc_new w _, bnew0 w _⟩
  obtain ⟨r, x, w1, hw1, HR, HX, b1, c1, r1, g1, hne, hnx⟩ : ∃ r x w1, Hid ((w0.alloc (.cells (rxV p) 36)).alloc (.cells stZ 30) = w1) ∧ Hid (w0.heap.size + 1 = r) ∧ Hid (w0.heap.size = x) ∧ w1.heap[w.heap.size]? = some (.cells (stV a c L room fl) 30 (0, 0)) ∧ w1.heap[x]? = some (.cells (rxV p) 36 (0, 0)) ∧ w1.heap[r]? = some (.cells stZ 30 (0, 0)) ∧ Below w.heap.size w w1 ∧ w.heap.size < r ∧ w.heap.size < x :=
    ⟨_, _, _, rfl, rfl, rfl, bx_alloc _ (bx_alloc _ b0), bx_alloc _ (heap_alloc_new w0 _), by have := heap_alloc_new (w0.alloc (.cells (rxV p) 36)) (.cells stZ 30); rwa [heap_size_alloc] at this, bnew (bnew g0 _) _, by have := bx_lt b0; omega, bx_lt b0⟩
  obtain ⟨x0, x1, x2⟩ := bx3s b1
  have hd : decide (room ≤ L.length) = false := by rw [decide_eq_false_iff_not]; omega
  have HRM := hid hr
  clear b0 g0 hr
  go_enter Try.func9, Try.ntmps9
  go_wp2_with (first
    | (rw [hw0.out])
    | (rw [hw1.out, HR.out, HX.out]))
  clear hw0 hw1 HR HX x0 x1 x2
  have hd1 : Below w1.heap.size w1 w1.drew := (Below.refl _ _).drew
  have HS : Below w1.heap.size w1 w1.drew := hd1
  have hL := h.row.below g1
  have hq0 : ∀ w', Below w1.heap.size w1 w' → w'.cell? ⟨w.heap.size, 0, none⟩ = some (.slice a L.length c) := fun w' hw => (hw.cell (p := ⟨w.heap.size, 0, none⟩) (bx_lt b1)).trans (bx3s b1).1
  refine Rest.begin (S := fun w' => Below w1.heap.size w1 w') (X := [3, 5, 6]) (by kernel_rfl) ?_
  change Rest _ _ _ _ _ _ _ _ _ w1.drew
  refine Rest.take (i := 1) (v := .pointer (some ⟨w.heap.size, 0, none⟩)) rfl (by kernel_rfl) (by kernel_rfl) (by kernel_rfl) (by kernel_rfl) (fun _ _ _ h => h) (.inl HS) (Or.inl ⟨by simp [Region.wanted], ?_⟩) ?_
  · intro w; go_simp
  refine Rest.takeS (i := 2) (v := .slice a L.length c) rfl (by kernel_rfl) (by kernel_rfl) (by kernel_rfl) (by kernel_rfl) (fun _ _ _ h => h) HS (.inl ⟨by simp [Region.wanted], ?_⟩) ?_
  · intro w hw; have q0 := hq0 w hw; go_simp
  refine Rest.takeS (i := 4) (v := .agg (rxV p)) rfl (by kernel_rfl) (by kernel_rfl) (by kernel_rfl) (by kernel_rfl) (fun _ _ _ h => h) HS (yields_loadR rowX (by simp [Region.wanted]) _ rfl x (by simp [Act.eval, Act.put]) _ rfl (fun w' hw => ⟨_, _, bx_below c1 hw⟩)) ?_
  refine Rest.two (i := 0) (j := 5) (by kernel_rfl) rfl rfl (fun K hK => ?_) (fun K hK => ?_)
  · rw [if_pos (by simp [Region.wanted])]
    go_simp
    have oe := ok_lit enX_k 36 w1.heap.size w1.drew [] #[] 0 rfl rfl (by omega) hd1.size
    have ge : Below w1.heap.size w1 (w1.drew.alloc (.cells #[] 36)) := hd1.alloc hd1.size _
    refine hK _ _ ⟨.inl ge, ?_⟩; clear hK K
    refine Rest.two (i := 3) (j := 5) (by kernel_rfl) rfl rfl (fun K hK => ?_) (fun K hK => ?_)
    · rw [if_pos (by simp [Region.wanted])]
      refine wp_app0K elX enX_k (.tmp 14) (.tmp 16) rfl rfl oe rfl (hL.below ge) (by omega) (by omega) ge.size ?_
      intro w3 a3 c3 o3 g3
      have gg3 : Below w1.heap.size w1 w3 := bstep ge g3
      refine hK _ _ ⟨.inl gg3, ?_⟩; clear hK K
      refine Rest.one (i := 5) (by kernel_rfl) rfl (fun K hK => ?_)
      rw [if_pos (by simp [Region.wanted])]
      go_simp
      have sX := (ok_lit enX_k 36 0 w3 [p] (rxV p) 1 (by simp [enX]) rfl (by omega) (Nat.zero_le _)).rk enX_k
      have gX : Below w1.heap.size w1 (w3.alloc (.cells (rxV p) 36)) := gg3.alloc gg3.size _
      refine hK _ _ ⟨.inl gX, ?_⟩; clear hK K
      refine Rest.one (i := 6) (by kernel_rfl) rfl (fun K hK => ?_)
      rw [if_pos (by simp [Region.wanted])]
      refine wp_appK elX enX_k (.tmp 17) (.tmp 19) rfl rfl (o3.alloc (.cells (rxV p) 36)) rfl sX (by omega) (by omega) gX.size ?_
      intro w6 a6 c6 o6 g6
      have gg6 : Below w1.heap.size w1 w6 := gX.trans g6
      refine hK _ _ ⟨.inr (thru_of (by kernel_rfl)), Rest.of_any _ _ _ _ (thru_of (by kernel_rfl)) ?_⟩; clear hK K
      have b6 := bx_below b1 gg6
      have r6 := bx_below r1 gg6
      obtain ⟨x0, x1, x2⟩ := bx3s b6
      have f6 := bx_thaw b6
      have b7 : (w6.setCell ⟨w.heap.size, 0, none⟩ (.slice a6 (L.length + 1) c6)).heap[w.heap.size]? = some (.cells (stV a6 c6 (L ++ [p]) room fl) 30 (0, 0)) := refPush_box b6
      have r7 : (w6.setCell ⟨w.heap.size, 0, none⟩ (.slice a6 (L.length + 1) c6)).heap[r]? = some (.cells stZ 30 (0, 0)) := (Below.heap_setCell _ _ _ _ (Nat.ne_of_gt hne)).trans r6
      have hfin := refPush_fin (room := room) (fl := fl) h hB hp hpb g1 gg6 o6 (Nat.le_of_lt hne) (bx_lt r1) (bx_lt b1) (stV a6 c6 (L ++ [p]) room fl) (r := r)
      clear hq0 hL HS hd1 o6 gg6 g6 x1 x2 b6 r6
      refine wpAny_take (i := 7) (v := .pointer (some ⟨w.heap.size, 0, none⟩)) rfl (by kernel_rfl) (by kernel_rfl) (by kernel_rfl) (fun _ _ _ h => h) (Or.inl ⟨by simp [Region.wanted], ?_⟩) ?_
      · intro w; go_simp
      refine wpAny_ready (rs := [8]) (by kernel_rfl) (by simp) ?_
      refine AllReady.cons rfl (fun K hK => ?_) AllReady.nil
      rw [if_pos (by simp [Region.wanted])]
      go_simp
      refine hK _ _ ?_; clear hK K
      refine wpAny_done (by kernel_rfl) ?_ _
      go_wp2_with (first
        | (with_reducible refine wpList_loadR rowSt rfl _ rfl _ rfl b7 rfl ?_)
        | (with_reducible refine wpList_storeR rowSt rfl _ _ rfl _ _ rfl rfl r7 rfl rfl (st_ones _ _ _ _ _) ?_))
      exact bodyPost_ret (v := .tuple #[.agg (stV a6 c6 (L ++ [p]) room fl), .int .i64 0]) (results_row1 rowSt rfl _ _ _ rfl rfl (setRow_heap _ _ _ _ _ _ r7) rfl) rfl hfin
    · rw [if_pos (by simp [Region.wanted])]
      go_simp
      have sX := (ok_lit enX_k 36 0 (w1.drew.alloc (.cells #[] 36)) [p] (rxV p) 1 (by simp [enX]) rfl (by omega) (Nat.zero_le _)).rk enX_k
      rw [show (w1.drew.alloc (.cells #[] 36)).heap.size = w1.heap.size + 1 by rw [heap_size_alloc]; rfl] at sX
      have gX : Below w1.heap.size w1 ((w1.drew.alloc (.cells #[] 36)).alloc (.cells (rxV p) 36)) := ge.alloc ge.size _
      refine hK _ _ ⟨.inl gX, ?_⟩; clear hK K
      refine Rest.one (i := 3) (by kernel_rfl) rfl (fun K hK => ?_)
      rw [if_pos (by simp [Region.wanted])]
      refine wp_app0K elX enX_k (.tmp 14) (.tmp 16) rfl rfl (oe.alloc (.cells (rxV p) 36)) rfl (hL.below gX) (by omega) (by omega) gX.size ?_
      intro w3 a3 c3 o3 g3
      have gg3 : Below w1.heap.size w1 w3 := bstep gX g3
      refine hK _ _ ⟨.inl gg3, ?_⟩; clear hK K
      refine Rest.one (i := 6) (by kernel_rfl) rfl (fun K hK => ?_)
      rw [if_pos (by simp [Region.wanted])]
      refine wp_appK elX enX_k (.tmp 17) (.tmp 19) rfl rfl o3 rfl (sX.below g3) (by omega) (by omega) gg3.size ?_
      intro w6 a6 c6 o6 g6
      have gg6 : Below w1.heap.size w1 w6 := gg3.trans g6
      refine hK _ _ ⟨.inr (thru_of (by kernel_rfl)), Rest.of_any _ _ _ _ (thru_of (by kernel_rfl)) ?_⟩; clear hK K
      have b6 := bx_below b1 gg6
      have r6 := bx_below r1 gg6
      obtain ⟨x0, x1, x2⟩ := bx3s b6
      have f6 := bx_thaw b6
      have b7 : (w6.setCell ⟨w.heap.size, 0, none⟩ (.slice a6 (L.length + 1) c6)).heap[w.heap.size]? = some (.cells (stV a6 c6 (L ++ [p]) room fl) 30 (0, 0)) := refPush_box b6
      have r7 : (w6.setCell ⟨w.heap.size, 0, none⟩ (.slice a6 (L.length + 1) c6)).heap[r]? = some (.cells stZ 30 (0, 0)) := (Below.heap_setCell _ _ _ _ (Nat.ne_of_gt hne)).trans r6
      have hfin := refPush_fin (room := room) (fl := fl) h hB hp hpb g1 gg6 o6 (Nat.le_of_lt hne) (bx_lt r1) (bx_lt b1) (stV a6 c6 (L ++ [p]) room fl) (r := r)
      clear hq0 hL HS hd1 o6 gg6 g6 x1 x2 b6 r6
      refine wpAny_take (i := 7) (v := .pointer (some ⟨w.heap.size, 0, none⟩)) rfl (by kernel_rfl) (by kernel_rfl) (by kernel_rfl) (fun _ _ _ h => h) (Or.inl ⟨by simp [Region.wanted], ?_⟩) ?_
      · intro w; go_simp
      refine wpAny_ready (rs := [8]) (by kernel_rfl) (by simp) ?_
      refine AllReady.cons rfl (fun K hK => ?_) AllReady.nil
      rw [if_pos (by simp [Region.wanted])]
      go_simp
      refine hK _ _ ?_; clear hK K
      refine wpAny_done (by kernel_rfl) ?_ _
      go_wp2_with (first
        | (with_reducible refine wpList_loadR rowSt rfl _ rfl _ rfl b7 rfl ?_)
        | (with_reducible refine wpList_storeR rowSt rfl _ _ rfl _ _ rfl rfl r7 rfl rfl (st_ones _ _ _ _ _) ?_))
      exact bodyPost_ret (v := .tuple #[.agg (stV a6 c6 (L ++ [p]) room fl), .int .i64 0]) (results_row1 rowSt rfl _ _ _ rfl rfl (setRow_heap _ _ _ _ _ _ r7) rfl) rfl hfin
  · rw [if_pos (by simp [Region.wanted])]
    go_simp
    have sX := (ok_lit enX_k 36 0 w1.drew [p] (rxV p) 1 (by simp [enX]) rfl (by omega) (Nat.zero_le _)).rk enX_k
    have gX : Below w1.heap.size w1 (w1.drew.alloc (.cells (rxV p) 36)) := hd1.alloc hd1.size _
    refine hK _ _ ⟨.inl gX, ?_⟩; clear hK K
    refine Rest.one (i := 0) (by kernel_rfl) rfl (fun K hK => ?_)
    rw [if_pos (by simp [Region.wanted])]
    go_simp
    have oe := ok_lit enX_k 36 w1.heap.size (w1.drew.alloc (.cells (rxV p) 36)) [] #[] 0 rfl rfl (by omega) gX.size
    rw [show (w1.drew.alloc (.cells (rxV p) 36)).heap.size = w1.heap.size + 1 by rw [heap_size_alloc]; rfl] at oe
    have ge : Below w1.heap.size w1 ((w1.drew.alloc (.cells (rxV p) 36)).alloc (.cells #[] 36)) := gX.alloc gX.size _
    refine hK _ _ ⟨.inl ge, ?_⟩; clear hK K
    refine Rest.one (i := 3) (by kernel_rfl) rfl (fun K hK => ?_)
    rw [if_pos (by simp [Region.wanted])]
    refine wp_app0K elX enX_k (.tmp 14) (.tmp 16) rfl rfl oe rfl (hL.below ge) (by omega) (by omega) ge.size ?_
    intro w3 a3 c3 o3 g3
    have gg3 : Below w1.heap.size w1 w3 := bstep ge g3
    refine hK _ _ ⟨.inl gg3, ?_⟩; clear hK K
    refine Rest.one (i := 6) (by kernel_rfl) rfl (fun K hK => ?_)
    rw [if_pos (by simp [Region.wanted])]
    refine wp_appK elX enX_k (.tmp 17) (.tmp 19) rfl rfl o3 rfl ((sX.below (bnew0 _ _)).below g3) (by omega) (by omega) gg3.size ?_
    intro w6 a6 c6 o6 g6
    have gg6 : Below w1.heap.size w1 w6 := gg3.trans g6
    refine hK _ _ ⟨.inr (thru_of (by kernel_rfl)), Rest.of_any _ _ _ _ (thru_of (by kernel_rfl)) ?_⟩; clear hK K
    have b6 := bx_below b1 gg6
    have r6 := bx_below r1 gg6
    obtain ⟨x0, x1, x2⟩ := bx3s b6
    have f6 := bx_thaw b6
    have b7 : (w6.setCell ⟨w.heap.size, 0, none⟩ (.slice a6 (L.length + 1) c6)).heap[w.heap.size]? = some (.cells (stV a6 c6 (L ++ [p]) room fl) 30 (0, 0)) := refPush_box b6
    have r7 : (w6.setCell ⟨w.heap.size, 0, none⟩ (.slice a6 (L.length + 1) c6)).heap[r]? = some (.cells stZ 30 (0, 0)) := (Below.heap_setCell _ _ _ _ (Nat.ne_of_gt hne)).trans r6
    have hfin := refPush_fin (room := room) (fl := fl) h hB hp hpb g1 gg6 o6 (Nat.le_of_lt hne) (bx_lt r1) (bx_lt b1) (stV a6 c6 (L ++ [p]) room fl) (r := r)
    clear hq0 hL HS hd1 o6 gg6 g6 x1 x2 b6 r6
    refine wpAny_take (i := 7) (v := .pointer (some ⟨w.heap.size, 0, none⟩)) rfl (by kernel_rfl) (by kernel_rfl) (by kernel_rfl) (fun _ _ _ h => h) (Or.inl ⟨by simp [Region.wanted], ?_⟩) ?_
    · intro w; go_simp
    refine wpAny_ready (rs := [8]) (by kernel_rfl) (by simp) ?_
    refine AllReady.cons rfl (fun K hK => ?_) AllReady.nil
    rw [if_pos (by simp [Region.wanted])]
    go_simp
    refine hK _ _ ?_; clear hK K
    refine wpAny_done (by kernel_rfl) ?_ _
    go_wp2_with (first
      | (with_reducible refine wpList_loadR rowSt rfl _ rfl _ rfl b7 rfl ?_)
      | (with_reducible refine wpList_storeR rowSt rfl _ _ rfl _ _ rfl rfl r7 rfl rfl (st_ones _ _ _ _ _) ?_))
    exact bodyPost_ret (v := .tuple #[.agg (stV a6 c6 (L ++ [p]) room fl), .int .i64 0]) (results_row1 rowSt rfl _ _ _ rfl rfl (setRow_heap _ _ _ _ _ _ r7) rfl) rfl hfin

theorem results_row21 {P : Program} {T U : TypeId} {n m : Nat} (hT : RowT P T n) (hU : RowT P U m) {fn : Func} {p q s : Tmp} (h : fn.results = #[.cell p T, .cell q U, .tmp s]) (tmps : Array Value) (w : World) (g k : Nat) {t u : TypeId} {cs ds : Array Value} {fr fs : Nat × Nat} {v : Value}
    (hp : tmps.getD p undef = .pointer (some ⟨g, 0, none⟩)) (hq : tmps.getD q undef = .pointer (some ⟨k, 0, none⟩)) (hs : tmps.getD s undef = v) (hg : w.heap[g]? = some (.cells cs t fr)) (hk : w.heap[k]? = some (.cells ds u fs)) (hn : cs.size = n) (hm : ds.size = m) :
    (results fn tmps).run P w = .ok (.tuple #[.agg cs, .agg ds, v]) w := by
  obtain ⟨d, hu, hd⟩ := hT.und
  obtain ⟨d2, hu2, hd2⟩ := hU.und
  have hp' : tmps[p]?.getD undef = .pointer (some ⟨g, 0, none⟩) := by simpa using hp
  have hq' : tmps[q]?.getD undef = .pointer (some ⟨k, 0, none⟩) := by simpa using hq
  have hs' : tmps[s]?.getD undef = v := by simpa using hs
  have e1 := run_loadVar_row (P := P) w g t T cs fr d hg hu (by cases d <;> simp_all) (by rw [hT.size, hn])
  have e2 := run_loadVar_row (P := P) w k u U ds fs d2 hk hu2 (by cases d2 <;> simp_all) (by rw [hU.size, hm])
  simp [results, h, hp', hq', hs', asAddr, e1, e2]

/-- The boxes of Pop of a State. -/
theorem refPop_boxes (w : World) (cs : Array Value) : ∃ r1 r2 w1, Hid (((w.alloc (.cells cs 30)).alloc (.cells stZ 30)).alloc (.cells rxZ 36) = w1) ∧ Hid (w.heap.size + 1 = r1) ∧ Hid (w.heap.size + 1 + 1 = r2) ∧
    w1.heap[w.heap.size]? = some (.cells cs 30 (0, 0)) ∧ w1.heap[r1]? = some (.cells stZ 30 (0, 0)) ∧ w1.heap[r2]? = some (.cells rxZ 36 (0, 0)) ∧ Below w.heap.size w w1 ∧ w.heap.size < r1 ∧ r1 < r2 :=
  ⟨_, _, _, rfl, rfl, rfl, bx_alloc _ (bx_alloc _ (heap_alloc_new w _)), bx_alloc _ (by have := heap_alloc_new (w.alloc (.cells cs 30)) (.cells stZ 30); rwa [heap_size_alloc] at this), by have := heap_alloc_new ((w.alloc (.cells cs 30)).alloc (.cells stZ 30)) (.cells rxZ 36); rwa [heap_size_alloc, heap_size_alloc] at this, bnew (bnew (bnew0 w _) _) _, by omega, by omega⟩

set_option maxRecDepth 100000 in
set_option maxHeartbeats 2000000 in
theorem refPop_no (w : World) (room : Nat) (fl : Bool) :
    Calls Try.prog 11 #[.agg (stV a c [] room fl)] w fun e w' => e = .returned (.tuple #[.agg (stV a c [] room fl), .agg rxZ, .bool false]) ∧ Below w.heap.size w w' := by
  obtain ⟨r1, r2, w1, hw1, h1, h2, b0, b1, b2, g1, l1, l2⟩ := refPop_boxes w (stV a c [] room fl)
  obtain ⟨x0, x1, x2⟩ := bx3s b0
  go_enter Try.func11, Try.ntmps11
  go_wp2_with (first
    | (rw [hw1.out, h2.out, h1.out])
    | (with_reducible refine wpList_loadR rowSt rfl _ rfl _ rfl b0 rfl ?_)
    | (with_reducible refine wpList_storeR rowSt rfl _ _ rfl _ _ rfl rfl b1 rfl rfl (st_ones _ _ _ _ _) ?_
       have b2' := (setRow_other w1 r1 r2 (stV a c [] room fl) (Nat.ne_of_gt l2)).trans b2)
    | (with_reducible refine wpList_storeR rowX rfl _ _ rfl _ _ rfl rfl b2' rfl rfl rxZ_ones ?_))
  exact bodyPost_ret (v := .tuple #[.agg (stV a c [] room fl), .agg rxZ, .bool false]) (results_row21 rowSt rowX rfl _ _ _ _ rfl rfl rfl ((setRow_other _ r2 r1 rxZ (Nat.ne_of_lt l2)).trans (setRow_heap _ _ _ _ _ _ b1)) (setRow_heap _ _ _ _ _ _ b2') rfl rfl) rfl ⟨rfl, below_setRow (below_setRow g1 (Nat.le_of_lt l1) _) (Nat.le_of_lt (Nat.lt_trans l1 l2)) _⟩

theorem rk_cut1 {x : Rx} {L2 : List Rx} (h : LrO B w a c (x :: L2) T) : ∃ a', Go.sliced a 1 (L2.length + 1) c 6 = .slice a' L2.length (c - 1) ∧ LrO B w a' (c - 1) L2 T := by
  obtain ⟨a', he, hr⟩ := h.row.sliced 1 (L2.length + 1) 6 rfl (by omega) (Nat.le_refl _)
  rw [show (x :: L2).take (L2.length + 1) = x :: L2 from List.take_of_length_le (by simp), List.drop_one, List.tail_cons, Nat.add_sub_cancel] at hr
  rw [Nat.add_sub_cancel] at he
  refine ⟨a', he, hr, fun p hp => h.dat p (List.mem_cons_of_mem _ hp), fun q hq => ?_, fun p hp => h.td p (List.mem_cons_of_mem _ hp), h.tB, h.tL⟩
  have he2 := he
  unfold Go.sliced at he2
  simp only [Value.slice.injEq] at he2
  rw [← he2.1] at hq
  split at hq
  · exact h.ta q hq
  · cases a with
    | none => simp at hq
    | some p =>
      simp at hq
      rw [← hq]
      exact h.ta p rfl

set_option maxRecDepth 100000 in
set_option maxHeartbeats 8000000 in
theorem refPop_any (w : World) (room : Nat) (fl : Bool) (x : Rx) (L2 : List Rx) (h : LrO B w a c (x :: L2) T) :
    Calls Try.prog 11 #[.agg (stV a c (x :: L2) room fl)] w fun e w' => ∃ a' c', e = .returned (.tuple #[.agg (stV a' c' L2 room fl), .agg (rxV x), .bool true]) ∧ LrO B w' a' c' L2 T ∧ Below w.heap.size w w' := by
  obtain ⟨r1, r2, w1, hw1, h1, h2, b0, b1, b2, g1, l1, l2⟩ := refPop_boxes w (stV a c (x :: L2) room fl)
  obtain ⟨x0, x1, x2⟩ := bx3s b0
  have hT0 := h.tL
  have hL := h.below g1
  obtain ⟨gb, off, ha, hgb, hrg⟩ := hL.row.range (i := 0) (x := x) rfl
  rw [Nat.zero_mul, Nat.add_zero] at hrg
  have HL := hid hL
  subst ha
  obtain ⟨n, hn⟩ : ∃ n, L2.length = n := ⟨_, rfl⟩
  have x0' : w1.cell? ⟨w.heap.size, 0, none⟩ = some (.slice (some ⟨gb, off, none⟩) (n + 1) c) := by rw [x0, ← hn]; rfl
  have HN := hid hn
  have hne : ((n : Int) + 1 == 0) = false := by rw [beq_eq_false_iff_ne]; omega
  have b3 := heap_alloc_new w1 (.cells rxZ 36)
  have b4 := setRow_heap _ _ _ (rxV x) _ _ b3
  have g4 : Below w1.heap.size w1 ((w1.alloc (.cells rxZ 36)).setRow w1.heap.size (rxV x)) := below_setRow (bnew0 w1 _) (Nat.le_refl _) _
  have b04 := bx_below b0 g4
  have b14 := bx_below b1 g4
  have b24 := bx_below b2 g4
  have gg4 := bstep g1 g4
  have hL4 := hL.below g4
  have lx : r2 < w1.heap.size := bx_lt b2
  clear h b0 b1 b2 hL x0 hn
  go_enter Try.func11, Try.ntmps11
  go_wp2_with (first
    | (rw [hw1.out, h2.out, h1.out])
    | (with_reducible refine wpList_loadM rowX rfl _ rfl _ _ rfl (rxV x) hrg rfl ?_)
    | (with_reducible refine wpList_storeR rowX rfl _ _ rfl _ _ rfl rfl b3 rfl rfl (rx_ones x) ?_
       obtain ⟨a', hsl, hL5⟩ := rk_cut1 hL4
       rw [HN.out] at hsl
       clear b3 hrg hgb x0' x1 x2 hw1 h1 h2 g4 hL4
       generalize (w1.alloc (.cells rxZ 36)).setRow w1.heap.size (rxV x) = W at *
       generalize w1.heap.size = y at *
       obtain ⟨x0, x1, x2⟩ := bx3s b04
       rw [show (x :: L2).length = n + 1 by rw [List.length_cons, HN.out]] at x0
       have f4 := bx_thaw b04
       have hn1 : 1 ≤ n + 1 := by omega)
    | (with_reducible refine wpList_cutFromS elX rfl _ _ rfl .i64 1 1 rfl rfl rfl hn1 hsl ?_))
  have k5 : Ch (fun b => b = w.heap.size) W (W.setCell ⟨w.heap.size, 0, none⟩ (.slice a' n (c - 1))) := Ch.setCell (S := fun b => b = w.heap.size) (Ch.refl _ W) (p := ⟨w.heap.size, 0, none⟩) (.inl rfl) _
  have c0 : (W.setCell ⟨w.heap.size, 0, none⟩ (.slice a' n (c - 1))).heap[w.heap.size]? = some (.cells (stV a' (c - 1) L2 room fl) 30 (0, 0)) := by
    rw [heap_setCell_same W w.heap.size 0 _ _ _ b04, ← HN.out]; rfl
  have c1 := k5.bx b14 (Nat.ne_of_gt l1)
  have c2 := k5.bx b24 (Nat.ne_of_gt (Nat.lt_trans l1 l2))
  have cy := k5.bx b4 (Nat.ne_of_gt (Nat.lt_trans (Nat.lt_trans l1 l2) lx))
  have gg5 : Below w.heap.size w (W.setCell ⟨w.heap.size, 0, none⟩ (.slice a' n (c - 1))) := gg4.setCell (Nat.le_refl _) _
  clear x0 x1 x2 f4 b04 b14 b24 b4 gg4
  generalize W.setCell ⟨w.heap.size, 0, none⟩ (.slice a' n (c - 1)) = W5 at *
  have HS : W5.drew.heap[w.heap.size]? = some (.cells (stV a' (c - 1) L2 room fl) 30 (0, 0)) ∧ W5.drew.heap[y]? = some (.cells (rxV x) 36 (0, 0)) := ⟨c0, cy⟩
  refine Rest.begin (S := fun w' => w'.heap[w.heap.size]? = some (.cells (stV a' (c - 1) L2 room fl) 30 (0, 0)) ∧ w'.heap[y]? = some (.cells (rxV x) 36 (0, 0))) (X := [2, 3]) (by kernel_rfl) ?_
  change Rest _ _ _ _ _ _ _ _ _ W5.drew
  refine Rest.takeS (i := 0) (v := .agg (stV a' (c - 1) L2 room fl)) rfl (by kernel_rfl) (by kernel_rfl) (by kernel_rfl) (by kernel_rfl) (fun _ _ _ h => h) HS (yields_loadR rowSt (by simp [Region.wanted]) _ rfl w.heap.size (by simp [Act.eval]) _ rfl (fun w' hw => ⟨_, _, hw.1⟩)) ?_
  refine Rest.takeS (i := 1) (v := .agg (rxV x)) rfl (by kernel_rfl) (by kernel_rfl) (by kernel_rfl) (by kernel_rfl) (fun _ _ _ h => h) HS (yields_loadR rowX (by simp [Region.wanted]) _ rfl y (by simp [Act.eval, Act.put]) _ rfl (fun w' hw => ⟨_, _, hw.2⟩)) ?_
  have d1 : (W5.drew.setRow r1 (stV a' (c - 1) L2 room fl)).heap[r1]? = some (.cells (stV a' (c - 1) L2 room fl) 30 (0, 0)) := setRow_heap _ _ _ _ _ _ c1
  have d2 : (W5.drew.setRow r1 (stV a' (c - 1) L2 room fl)).heap[r2]? = some (.cells rxZ 36 (0, 0)) := (setRow_other _ _ _ _ (Nat.ne_of_gt l2)).trans c2
  have dS : (W5.drew.setRow r1 (stV a' (c - 1) L2 room fl)).heap[w.heap.size]? = some (.cells (stV a' (c - 1) L2 room fl) 30 (0, 0)) ∧ (W5.drew.setRow r1 (stV a' (c - 1) L2 room fl)).heap[y]? = some (.cells (rxV x) 36 (0, 0)) := ⟨(setRow_other _ _ _ _ (Nat.ne_of_lt l1)).trans c0, (setRow_other _ _ _ _ (Nat.ne_of_gt (Nat.lt_trans l2 lx))).trans cy⟩
  refine Rest.one (i := 2) (by kernel_rfl) rfl (fun K hK => ?_)
  refine draw_storeR rowSt rfl _ _ rfl r1 (stV a' (c - 1) L2 room fl) rfl rfl c1 rfl rfl (st_ones _ _ _ _ _) ?_
  refine hK _ _ ⟨.inl dS, ?_⟩; clear hK K
  refine Rest.one (i := 3) (by kernel_rfl) rfl (fun K hK => ?_)
  refine draw_storeR rowX rfl _ _ rfl r2 (rxV x) rfl rfl d2 rfl rfl (rx_ones _) ?_
  refine hK _ _ ⟨.inr (thru_of (by kernel_rfl)), Rest.of_any _ _ _ _ (thru_of (by kernel_rfl)) ?_⟩; clear hK K
  refine wpAny_take (i := 4) (v := .bool true) rfl (by kernel_rfl) (by kernel_rfl) (by kernel_rfl) (fun _ _ _ h => h) (Or.inl ⟨by simp [Region.wanted], ?_⟩) ?_
  · intro w; go_simp
  refine wpAny_done (by kernel_rfl) ?_ _
  have e1 : ((W5.drew.setRow r1 (stV a' (c - 1) L2 room fl)).setRow r2 (rxV x)).heap[r1]? = some (.cells (stV a' (c - 1) L2 room fl) 30 (0, 0)) := (setRow_other _ _ _ _ (Nat.ne_of_lt l2)).trans d1
  have e2 : ((W5.drew.setRow r1 (stV a' (c - 1) L2 room fl)).setRow r2 (rxV x)).heap[r2]? = some (.cells (rxV x) 36 (0, 0)) := setRow_heap _ _ _ _ _ _ d2
  have kE : Ch (fun b => b = r1 ∨ b = r2) W5 ((W5.drew.setRow r1 (stV a' (c - 1) L2 room fl)).setRow r2 (rxV x)) := (((Ch.refl _ W5).drew).setRow (.inl (.inl rfl)) _).setRow (.inl (.inr rfl)) _
  clear c0 c1 c2 cy d1 d2 dS HS
  generalize (W5.drew.setRow r1 (stV a' (c - 1) L2 room fl)).setRow r2 (rxV x) = W6 at *
  go_wp2
  have hk6 : ∀ b, T b → ¬ (b = r1 ∨ b = r2) := fun b hb e => by have := hT0 b hb; rcases e with e | e <;> omega
  have hk5 : ∀ b, T b → ¬ b = w.heap.size := fun b hb e => by have := hT0 b hb; omega
  exact bodyPost_ret (v := .tuple #[.agg (stV a' (c - 1) L2 room fl), .agg (rxV x), .bool true]) (results_row21 rowSt rowX rfl _ _ _ _ rfl rfl rfl e1 e2 rfl rfl) rfl ⟨a', c - 1, rfl, (hL5.ch k5 hk5).ch kE hk6, kE.below gg5 (Nat.le_refl _) (fun b hb => by rcases hb with e | e <;> omega)⟩
end
end Go.Proofs.Ytkojljmhgeehoaa
