/-
  Contracts: whether two lists of filters are the same; a filter made right; the chapter's examples.
-/
import Derived.Test.YtmaklneiedljjaaB11d
import Derived.Deep.Light
import Derived.WalkSmall
namespace Go.Proofs.Ytmaklneiedljjaa
open Go.RowKit Go.Sort
set_option linter.unusedVariables false

theorem eqFi (x y : Fi) (w : World) : (binOp .eql 25 (.agg (fiV x)) (.agg (fiV y))).run Try.prog w = .ok (.bool (decide (x = y))) w := by
  have u3 := Try.underlying4
  have a3 := Try.isAgg4
  have z3 := Try.sizeOf4
  have u5 := Try.underlying23
  have a5 := Try.isAgg23
  have z5 := Try.sizeOf23
  have hS : Try.prog.underlying 25 = some (.struct (Try.prog.fieldsOf 25)) := by kernel_rfl
  have hp : Try.prog.stoodInHeld 25 = false := by kernel_rfl
  rw [run_eql_struct, show (10000 : Nat) = 9999 + 1 from rfl, run_equalIn_agg w 9999 25 _ _ hS hp]
  simp only [Program.fieldsOf, Try.underlying25]
  obtain ⟨e, m, a⟩ := x
  obtain ⟨e', m', a'⟩ := y
  go_simp
  by_cases h1 : e = e' <;> by_cases h2 : m = m' <;> by_cases h3 : a = a' <;> simp [h1, h2, h3] <;> omega
theorem neFi (x y : Fi) (w : World) : (binOp .neq 25 (.agg (fiV x)) (.agg (fiV y))).run Try.prog w = .ok (.bool (!decide (x = y))) w := by
  have u3 := Try.underlying4
  have a3 := Try.isAgg4
  have z3 := Try.sizeOf4
  have u5 := Try.underlying23
  have a5 := Try.isAgg23
  have z5 := Try.sizeOf23
  have hS : Try.prog.underlying 25 = some (.struct (Try.prog.fieldsOf 25)) := by kernel_rfl
  have hp : Try.prog.stoodInHeld 25 = false := by kernel_rfl
  rw [run_neq_struct, show (10000 : Nat) = 9999 + 1 from rfl, run_equalIn_agg w 9999 25 _ _ hS hp]
  simp only [Program.fieldsOf, Try.underlying25]
  obtain ⟨e, m, a⟩ := x
  obtain ⟨e', m', a'⟩ := y
  go_simp
  by_cases h1 : e = e' <;> by_cases h2 : m = m' <;> by_cases h3 : a = a' <;> simp [h1, h2, h3] <;> omega
theorem guFi : Try.prog.eqGuardType Try.prog.depth 25 = false := by kernel_rfl

theorem take_moreF {l : List Fi} {k : Nat} {x : Fi} (hx : l[k]? = some x) : l.take (k + 1) = l.take k ++ [x] := by
  rw [List.take_add_one, hx]; rfl

/-- A filter's three cells inside a round. -/
theorem rfi_at {w : World} {a : Option Addr} {n c k : Nat} {l : List Fi} (h : RK fiE 3 w a n c l) (hk : k < n) :
    ∃ b off x, a = some ⟨b, off, none⟩ ∧ l[k]? = some x ∧ b < w.heap.size ∧ w.cell? ⟨b, off + k * 3, none⟩ = some (.bool x.ext) ∧ w.cell? ⟨b, off + k * 3 + 1, none⟩ = some (.int .u32 (x.mask : Int)) ∧ w.cell? ⟨b, off + k * 3 + 2, none⟩ = some (.int .u32 (x.mat : Int)) := by
  have hl : k < l.length := by rw [h.len]; exact hk
  obtain ⟨b, off, ha, hb, hr⟩ := h.range (i := k) (x := l[k]) (by simp [hl])
  exact ⟨b, off, l[k], ha, by simp [hl], hb, by have := hr 0 _ rfl; rwa [Nat.add_zero] at this, hr 1 _ rfl, hr 2 _ rfl⟩

theorem fiLists_any (w : World) (a : Option Addr) (n c : Nat) (l : List Fi) (a2 : Option Addr) (n2 c2 : Nat) (l2 : List Fi) (h : RK fiE 3 w a n c l) (h2 : RK fiE 3 w a2 n2 c2 l2) (hn : n ≤ 1000000) :
    Calls Try.prog 19 #[.slice a n c, .slice a2 n2 c2] w fun e w' => e = .returned (.bool (decide (l = l2))) ∧ RowKit.Below w.heap.size w w' := by
  by_cases hne : n = n2
  · subst hne
    have HE : Hid (∀ k, l.take k = l2.take k → n ≤ k → l = l2) := fun k hk hkn => by
      rwa [List.take_of_length_le (by rw [h.len]; omega), List.take_of_length_le (by rw [h2.len]; omega)] at hk
    have HL := hid h.len
    have HL2 := hid h2.len
    go_enter Try.func19, Try.ntmps19
    go_wp2
    go_loopg [13] n (fun gn vi wr => ∃ k : Nat, k ≤ n ∧ gn = n - k ∧ vi = .int .i64 (k : Int) ∧ Hid (l.take k = l2.take k) ∧ RowKit.Below w.heap.size w wr)
    case atStart => exact ⟨0, by omega, by omega, rfl, hid (by simp), RowKit.Below.refl _ _⟩
    case round =>
      obtain ⟨k, hk, rfl, rfl, HA, hb⟩ := hrel
      by_cases hlt : k < n
      · obtain ⟨gb, off, x, rfl, hx, hgb, x0, x1, x2⟩ := rfi_at (h.below hb) hlt
        obtain ⟨gb2, off2, y, rfl, hy, hgb2, y0, y1, y2⟩ := rfi_at (h2.below hb) hlt
        have HX := hid hx; clear hx
        have HY := hid hy; clear hy
        have hgu := guFi
        have hq := fun w' => neFi x y w'
        by_cases hxx : x = y
        · rw [decide_eq_true hxx] at hq
          have HXX := hid hxx; clear hxx
          go_wp2
          go_quiet (fail)
          go_wp2
          go_roundg (n - (k + 1))
          case measure => omega
          case rel => exact ⟨k + 1, by omega, rfl, by go_num, hid (by rw [take_moreF HX.out, take_moreF HY.out, HA.out, HXX.out]), below_drewN hb _⟩
        · rw [decide_eq_false hxx] at hq
          have HXX := hid hxx; clear hxx
          go_wp2
          go_quiet (fail)
          go_wp2
          go_ret
          exact ⟨ret_bool (decide_eq_false (fun e => HXX.out (by have := HX.out; rw [e, HY.out] at this; exact (by simpa using this.symm)))).symm, below_drewN hb _⟩
      · have HL3 := hid (HE.out k HA.out (by omega))
        go_wp2
        go_ret
        exact ⟨ret_bool (decide_eq_true HL3.out).symm, hb⟩
  · have HN : Hid (¬ l = l2) := fun e => by
      subst e; exact hne (h.len.symm.trans h2.len)
    have hd : ((n : Int) == (n2 : Int)) = false := by simp; omega
    have hd' : ((n : Int) != (n2 : Int)) = true := by simp; omega
    go_enter Try.func19, Try.ntmps19
    go_wp2
    go_ret
    exact ⟨ret_bool (decide_eq_false HN.out).symm, RowKit.Below.refl _ _⟩
end Go.Proofs.Ytmaklneiedljjaa
