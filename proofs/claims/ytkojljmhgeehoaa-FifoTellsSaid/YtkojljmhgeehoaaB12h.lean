/-
  Contracts: the comparison of frames (jackstayref10.Same), and of received ones (Alike), where they are alike.
-/
import Derived.Test.YtkojljmhgeehoaaB12g
namespace Go.Proofs.Ytkojljmhgeehoaa
open Go.RowKit Go.Sort
set_option linter.unusedVariables false

set_option maxRecDepth 100000 in
set_option maxHeartbeats 4000000 in
theorem same_eq (w : World) (F : Fr) (a1 a2 : Option Addr) (c1 c2 : Nat) (h1 : RL bv w a1 F.data.length c1 F.data) (h2 : RL bv w a2 F.data.length c2 F.data) (hn : F.data.length ≤ 1000000) :
    Calls Try.prog 22 #[.agg (frV F a1 c1), .agg (frV F a2 c2)] w fun e w' => e = .returned (.bool true) ∧ Below w.heap.size w w' := by
  obtain ⟨n, hnl⟩ : ∃ n, F.data.length = n := ⟨_, rfl⟩
  have HN := hid hnl
  rw [hnl] at h1 h2 hn
  obtain ⟨w1, hw1, b1, b2, g1⟩ : ∃ w1, Hid ((w.alloc (.cells (frV F a1 c1) 34)).alloc (.cells (frV F a2 c2) 34) = w1) ∧ w1.heap[w.heap.size]? = some (.cells (frV F a1 c1) 34 (0, 0)) ∧ w1.heap[w.heap.size + 1]? = some (.cells (frV F a2 c2) 34 (0, 0)) ∧ Below w.heap.size w w1 :=
    ⟨_, rfl, bx_alloc _ (heap_alloc_new w _), by have := heap_alloc_new (w.alloc (.cells (frV F a1 c1) 34)) (.cells (frV F a2 c2) 34); rwa [heap_size_alloc] at this, bnew (bnew0 w _) _⟩
  rw [show frV F a1 c1 = #[.int .u32 (F.id : Int), .bool F.ext, .bool F.rem, .int .u8 (F.dlc : Int), .slice a1 n c1] by rw [← hnl]] at b1 hw1 ⊢
  rw [show frV F a2 c2 = #[.int .u32 (F.id : Int), .bool F.ext, .bool F.rem, .int .u8 (F.dlc : Int), .slice a2 n c2] by rw [← hnl]] at b2 hw1 ⊢
  clear hnl
  obtain ⟨x0, x1, x2, x3, x4⟩ := bx5 b1
  obtain ⟨y0, y1, y2, y3, y4⟩ := bx5 b2
  go_enter Try.func22, Try.ntmps22
  go_wp2_with (rw [hw1.out])
  clear x0 x1 x2 x3 x4 y0 y1 y2 y3 y4 hw1
  go_loopg [5] n (fun gn vi wr => ∃ k : Nat, k ≤ n ∧ gn = n - k ∧ vi = .int .i64 (k : Int) ∧ Below w1.heap.size w1 wr)
  case atStart => exact ⟨0, by omega, by omega, rfl, Below.refl _ _⟩
  case round =>
    obtain ⟨k, hk, rfl, rfl, gg⟩ := hrel
    have x4 := (bx5 (bx_below b1 gg)).2.2.2.2
    have y4 := (bx5 (bx_below b2 gg)).2.2.2.2
    by_cases hkl : k < n
    · obtain ⟨p1, o1, v, rfl, hv, hc1⟩ := ((h1.below g1).below gg).at hkl
      obtain ⟨p2, o2, v2, rfl, hv2, hc2⟩ := ((h2.below g1).below gg).at hkl
      rw [hv] at hv2
      simp only [Option.some.injEq] at hv2
      subst hv2
      have HV := hid hv
      clear hv h1 h2
      unfold bv at hc1 hc2
      go_wp2
      go_quiet (fail)
      have gg2 := below_drewN gg nq
      clear gg x4 y4 hc1 hc2
      go_wp2
      go_roundg (n - (k + 1))
      case measure => omega
      case rel => exact ⟨k + 1, by omega, rfl, by go_num, gg2⟩
    · obtain rfl : n = k := by omega
      go_wp2
      go_ret
      exact ⟨rfl, bstep g1 gg⟩

/-- 'append([]T{}, x...)', elements of one cell: a row of the call's own; no block that was there is turned. -/
theorem wpList_app0 {α : Type} {f : α → Value} {E T : TypeId} {z : Value} {bytes : Nat} {B : Nat} {w : World} {P : Program} {m : List α} {h : Addr} {ops : Array Oper} {rest : List Oper} {o : Oper} {ac : Act} {Q : Exit → Act → World → Prop} (hT : ElT P T E z bytes) (hgd : o.guard = none) (s x : Operand)
    (ho : o.op = .call { callee := .builtin .append, args := #[s, x], argTypes := #[T, T] }) (hs : ac.eval s = .slice (some h) 0 0) (hown : OL f E B w (some h) 0 0 []) {a2 : Option Addr} {n2 c2 : Nat} (hx : ac.eval x = .slice a2 n2 c2) (hr : RL f w a2 n2 c2 m)
    (h63 : n2 ≤ 1000000) (hby : bytes ≤ 64) (hbase : B ≤ w.heap.size)
    (hK : ∀ w' a' c', OL f E B w' a' n2 c' m → Below w.heap.size w w' → (∃ q, a' = some q) → wpList P ops Q rest (ac.put o.dst (.slice a' n2 c')) w') : wpList P ops Q (o :: rest) ac w := by
  obtain ⟨i, hi, hz0, hz1, hz2⟩ := info_parts hT.info
  refine wpList_plain hgd fun K hK' => ?_
  by_cases h0 : n2 = 0
  · subst h0
    have hm : m = [] := List.eq_nil_of_length_eq_zero hr.len
    subst hm
    have hrun : (Builtin.append_ #[T, T] o.type #[.slice (some h) 0 0, .slice a2 0 c2]).run P w = .ok (.slice (some h) 0 0) w := by
      cases a2 <;> simp [Builtin.append_, run_underlying hT.und, sizeOf, typeInfo, hi, Builtin.lenOf, Builtin.firstCells, storeCells, loadCells, loadCellsFrom]
    unfold Oper.wp
    simp [execOp, ho, resolve, invoke, builtin, hs, hx, hrun, Result.andThen]
    exact hK' _ _ (hK w _ _ hown (Below.refl _ _) ⟨_, rfl⟩)
  · obtain ⟨b, off, rfl, hb, hc⟩ := hr.cell (by omega)
    obtain ⟨v', w', hrun, r1, r2⟩ := run_append_arg_grows (P := P) w T o.type E i z 1 bytes hT.und hi hz0 hz1 hz2 hT.zc (by decide) h 0 0 [] (by simp) (fun j u hu => by simp at hu) ⟨b, off, none⟩ n2 c2 (m.map f) (by rw [List.length_map, hr.len, Nat.mul_one]) (fun j u hu => by
      rw [List.getElem?_map] at hu
      cases hj : m[j]? with
      | none => rw [hj] at hu; cases hu
      | some y =>
        rw [hj] at hu
        simp only [Option.map_some, Option.some.injEq] at hu
        subst hu
        rw [Addr.add_lit]
        exact hc j y hj) (by omega) (by unfold maxLen; omega) (by rw [Nat.zero_add]; have := Nat.mul_le_mul h63 hby; omega)
    obtain ⟨a', c', rfl, hol⟩ := of_ownsRow (f := f) (l := m) r1 (by simp)
    rw [Nat.zero_add] at hol hrun
    unfold Oper.wp
    simp [execOp, ho, resolve, invoke, builtin, hs, hx, hrun, Result.andThen]
    refine hK' _ _ (hK _ _ _ (hol.mono hbase) ⟨r2.os, r2.tape, r2.output, r2.size, fun k hk => r2.block k hk (by simp)⟩ ?_)
    rcases hol.ex with ⟨_, hn, _⟩ | ⟨g, cur, ha, _⟩
    · omega
    · exact ⟨_, ha⟩

theorem rowF12 : RowT Try.prog 34 5 := rowT_of (by kernel_rfl) (by kernel_rfl)

/-- The frame of a received one, in its box. -/
theorem rx_frame {w : World} {g : Nat} {p : Rx} {E : TypeId} (h : w.heap[g]? = some (.cells (rxV p) E (0, 0))) : w.rangeAt g 0 (frV p.1.1 p.1.2.1 p.1.2.2).toList := fun j v hj => by
  rw [Nat.zero_add, cell_of_row w g j _ _ _ h]
  match j, hj with
  | 0, hj => simpa using hj
  | 1, hj => simpa using hj
  | 2, hj => simpa using hj
  | 3, hj => simpa using hj
  | 4, hj => simpa using hj
  | j + 5, hj => simp at hj

set_option maxRecDepth 100000 in
set_option maxHeartbeats 2000000 in
theorem alike_eq (w : World) (F : Fr) (t : Int) (a1 a2 : Option Addr) (c1 c2 : Nat) (h1 : RL bv w a1 F.data.length c1 F.data) (h2 : RL bv w a2 F.data.length c2 F.data) (hn : F.data.length ≤ 1000000) :
    Calls Try.prog 13 #[.agg (rxV ((F, (a1, c1)), t)), .agg (rxV ((F, (a2, c2)), t))] w fun e w' => e = .returned (.bool true) ∧ Below w.heap.size w w' := by
  obtain ⟨w1, hw1, b1, b2, g1⟩ : ∃ w1, Hid ((w.alloc (.cells (rxV ((F, (a1, c1)), t)) 36)).alloc (.cells (rxV ((F, (a2, c2)), t)) 36) = w1) ∧ w1.heap[w.heap.size]? = some (.cells (rxV ((F, (a1, c1)), t)) 36 (0, 0)) ∧ w1.heap[w.heap.size + 1]? = some (.cells (rxV ((F, (a2, c2)), t)) 36 (0, 0)) ∧ Below w.heap.size w w1 :=
    ⟨_, rfl, bx_alloc _ (heap_alloc_new w _), by have := heap_alloc_new (w.alloc (.cells (rxV ((F, (a1, c1)), t)) 36)) (.cells (rxV ((F, (a2, c2)), t)) 36); rwa [heap_size_alloc] at this, bnew (bnew0 w _) _⟩
  have x5 := (bx6 b1).2.2.2.2.2
  have y5 := (bx6 b2).2.2.2.2.2
  have r1 := rx_frame b1
  have r2 := rx_frame b2
  have hs := same_eq w1 F a1 a2 c1 c2 (h1.below g1) (h2.below g1) hn
  clear b1 b2 h1 h2
  go_enter Try.func13, Try.ntmps13
  go_wp2_with (first
    | (rw [hw1.out])
    | (with_reducible refine wpList_loadMW rowF12 (by simp [Region.wanted, yielded, Act.put]) _ rfl _ _ rfl (frV F a1 c1) r1 rfl ?_)
    | (with_reducible refine wpList_loadMW rowF12 (by simp [Region.wanted, yielded, Act.put]) _ rfl _ _ rfl (frV F a2 c2) r2 rfl ?_)
    | (go_at_call 22; (with_reducible refine hs.mono ?_); rintro e w2 ⟨rfl, g2⟩))
  go_ret
  exact ⟨rfl, bstep g1 g2⟩
end Go.Proofs.Ytkojljmhgeehoaa
