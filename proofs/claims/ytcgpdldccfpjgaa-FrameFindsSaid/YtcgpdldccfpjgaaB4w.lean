/-
  Parse where the bits are no body, in one form; append of a great row of bits.
-/
import Derived.Test.YtcgpdldccfpjgaaB4u
namespace Go.Proofs.Ytcgpdldccfpjgaa
open Go.RowKit Go.Sort
set_option linter.unusedVariables false

theorem parse_bad (w : World) (a : Option Addr) (n c : Nat) (l : List Bool) (h : RL .bool w a n c l) (hn : n ≤ 9223372036854775807) (hs : suV l ≠ 0#15) :
    Calls Try.prog 26 #[.slice a n c] w fun e w' => e = .returned (.tuple #[.agg #[.int .u32 0, .bool false, .bool false, .int .u8 0, .slice none 0 0], .int .i64 (if paK l then 42 else 41)]) ∧ Below w.heap.size w w' := by
  cases hk : paK l
  · exact parse_bits w a n c l h hn hk
  · exact parse_crc w a n c l h hk hs

/-- 'append(v, x...)' of rows of bits of whatever length that fits a machine. -/
theorem wpList_appL {P : Program} {E T : TypeId} {z : Value} {B n c n2 c2 : Nat} {a a2 : Option Addr} {l m : List Bool} {w : World} {ops : Array Oper} {rest : List Oper} {o : Oper} {ac : Act} {Q : Exit → Act → World → Prop} (hT : ElT P T E z 1) (hgd : o.guard = none) (s x : Operand)
    (ho : o.op = .call { callee := .builtin .append, args := #[s, x], argTypes := #[T, T] })
    (hs : ac.eval s = .slice a n c) (hown : OL .bool E B w a n c l) (hx : ac.eval x = .slice a2 n2 c2) (hr : RL .bool w a2 n2 c2 m)
    (h47 : n + n2 ≤ 140737488355328) (hn9 : n ≤ 1000000000) (hbase : B ≤ w.heap.size)
    (h : ∀ w' a' c', OL .bool E B w' a' (n + n2) c' (l ++ m) → Below B w w' → wpList P ops Q rest (ac.put o.dst (.slice a' (n + n2) c')) w') : wpList P ops Q (o :: rest) ac w := by
  refine wpList_plain hgd fun K hK => ?_
  obtain ⟨i, hi, hz0, hz1, hz2⟩ := info_parts hT.info
  have hbl : ∀ k, (Value.slice a n c).ownBlock = some k → B ≤ k := fun k hk => (hown.own.lt k hk).1
  by_cases h0 : n2 = 0
  · exact wp_app (f := Value.bool) hT s x ho hs hown hx hr (fun _ => rfl) (by omega) (by omega) hbase fun w' a' c' h2 h3 => hK _ _ (h w' a' c' h2 h3)
  · obtain ⟨b, off, rfl, hb, hc⟩ := hr.cell (by omega)
    refine wp_append_own _ s x T ho B E i z 1 1 hT.und hi hz0 hz1 hz2 hT.zc (by decide) (.slice a n c) n (l.map Value.bool) hs hown.own ⟨b, off, none⟩ n2 c2 (m.map Value.bool) hx (by simp [hr.len]) ?_ ?_ (by unfold maxLen; omega) ?_ hbase ?_
    · intro j u hu
      rw [List.getElem?_map] at hu
      cases hj : m[j]? with
      | none => rw [hj] at hu; cases hu
      | some y =>
        rw [hj] at hu
        simp only [Option.map_some, Option.some.injEq] at hu
        subst hu
        rw [Addr.add_lit]
        exact hc j y hj
    · intro u hu
      obtain ⟨y, _, rfl⟩ := List.mem_map.1 hu
      rfl
    · omega
    · intro v' w' hown' hg _
      obtain ⟨a', c', rfl, hol⟩ := of_ownsRow (f := Value.bool) (l := l ++ m) hown' (by simp)
      exact hK _ _ (h w' a' c' hol ((Below.refl B w).grown hg hbase hbl))
end Go.Proofs.Ytcgpdldccfpjgaa
