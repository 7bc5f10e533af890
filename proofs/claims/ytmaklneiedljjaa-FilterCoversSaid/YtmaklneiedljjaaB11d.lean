/-
  Contracts: the greatest of some numbers; the filters of identifiers.
-/
import Derived.Test.YtmaklneiedljjaaB11c
import Derived.Test.YtmaklneiedljjaaSr9
import Derived.Test.YtmaklneiedljjaaM11c
namespace Go.Proofs.Ytmaklneiedljjaa
open Go.RowKit Go.Sort
set_option linter.unusedVariables false

/-- The greatest. -/
def mxL : Nat → List Nat → Nat
  | m, [] => m
  | m, x :: l => mxL (max m x) l
theorem mxL_gt (t : Nat) : ∀ (l : List Nat) (m : Nat), decide (t < mxL m l) = (decide (t < m) || l.any fun x => decide (t < x))
  | [], m => by unfold mxL; rw [List.any_nil, Bool.or_false]
  | x :: l, m => by
    rw [mxL, mxL_gt t l, List.any_cons, ← Bool.or_assoc]
    congr 1
    by_cases h1 : t < m <;> by_cases h2 : t < x <;> simp [h1, h2] <;> omega
theorem mxL_more {l : List Nat} {k : Nat} {x : Nat} (hx : l[k]? = some x) (m : Nat) : mxL m (l.drop k) = mxL (max m x) (l.drop (k + 1)) := by
  have := List.getElem?_eq_some_iff.1 hx
  rw [← this.2, List.drop_eq_getElem_cons this.1]; rfl

theorem max_any (w : World) (a : Option Addr) (n c : Nat) (x0 : Nat) (l : List Nat) (h : RL wv w a n c (x0 :: l)) (hn : n ≤ 1000000) :
    Calls Try.prog 26 #[.slice a n c] w fun e w' => e = .returned (.int .u32 (mxL x0 l : Int)) ∧ w' = w := by
  have HL := hid h.len
  have hn1 : 1 ≤ n := by rw [← HL.out]; simp
  have hmx : ∀ (x y : Nat) ts t w', (Builtin.max_ ts t #[.int .u32 (x : Int), .int .u32 (y : Int)]).run Try.prog w' = .ok (.int .u32 ((max x y : Nat) : Int)) w' := fun x y ts t w' => by rw [run_max_int2]; congr 2; split <;> omega
  obtain ⟨b, off, z, rfl, hz, hc0⟩ := h.at (k := 0) (by omega)
  rw [Nat.add_zero] at hc0
  obtain rfl : x0 = z := by simpa using hz
  clear hz
  have hc0' : w.cell? ⟨b, off, none⟩ = some (.int .u32 (x0 : Int)) := hc0
  clear hc0
  obtain ⟨R, hR⟩ : ∃ R, R = mxL x0 l := ⟨_, rfl⟩
  rw [← hR]
  have HR := hid hR; clear hR
  go_enter Try.func26, Try.ntmps26
  go_wp2
  go_loopg [3, 4] (n - 1) (fun gn vm vi wr => ∃ (k m : Nat), 1 ≤ k ∧ k ≤ n ∧ gn = n - k ∧ vm = .int .u32 (m : Int) ∧ vi = .int .i64 (k : Int) ∧ Hid (mxL m ((x0 :: l).drop k) = R) ∧ wr = w)
  case atStart => exact ⟨1, x0, by omega, by omega, rfl, rfl, rfl, hid HR.out.symm, rfl⟩
  case round =>
    obtain ⟨k, m, hk1, hk, rfl, rfl, rfl, HM, rfl⟩ := hrel
    by_cases hlt : k < n
    · obtain ⟨b', off', x, e', hx, hc⟩ := h.at hlt
      simp only [Option.some.injEq, Addr.mk.injEq, and_true] at e'
      obtain ⟨rfl, rfl⟩ := e'
      have hc' : wr.cell? ⟨b, off + k, none⟩ = some (.int .u32 (x : Int)) := hc
      have HX := hid (mxL_more hx m)
      have hm1 := hmx m x
      clear hc hx hmx
      go_wp2
      go_roundg (n - (k + 1))
      case measure => omega
      case rel => exact ⟨k + 1, max m x, by omega, by omega, rfl, rfl, by go_num, hid (by rw [← HX.out]; exact HM.out), rfl⟩
    · have HE := hid (show m = R by have := HM.out; rw [List.drop_eq_nil_of_le (by rw [HL.out]; omega)] at this; exact this)
      go_wp2
      go_ret
      exact ⟨ret_int (by rw [HE.out]), rfl⟩

/-- A row of filters that grows, beside all that lay in w0. -/
structure RF (w0 wr : World) (a : Option Addr) (m c : Nat) (out : List Fi) : Prop where
  own : OK fiE 3 25 w0.heap.size wr a m c out
  bel : RowKit.Below w0.heap.size w0 wr
section
variable {w0 wr w2 : World} {a a2 : Option Addr} {m c m2 c2 : Nat} {out out2 : List Fi}
theorem RF.alloc (h : RF w0 wr a m c out) (o : Obj) : RF w0 (wr.alloc o) a m c out := ⟨h.own.alloc o, bnew h.bel o⟩
theorem RF.app (h : RF w0 wr a m c out) (ho : OK fiE 3 25 w0.heap.size w2 a2 m2 c2 out2) (g : RowKit.Below w0.heap.size wr w2) : RF w0 w2 a2 m2 c2 out2 := ⟨ho, h.bel.trans g⟩
end
theorem lit1Fi (w : World) (x : Fi) : RK fiE 3 (w.alloc (.cells (fiV x) 25)) (some ⟨w.heap.size, 0, none⟩) 1 1 [x] :=
  (ok_lit eFi 25 0 w [x] _ 1 rfl rfl (by omega) (Nat.zero_le _)).rk eFi

set_option maxHeartbeats 2000000 in
theorem only_any (w : World) (a : Option Addr) (n c : Nat) (l : List Nat) (e : Bool) (h : RL wv w a n c l) (hn : n ≤ 1000000) :
    Calls Try.prog 11 #[.slice a n c, .bool e] w fun r w' => ∃ (a' : Option Addr) (m c' : Nat), r = .returned (.tuple #[.slice a' m c', .int .i64 (onlyE e l)]) ∧ OK fiE 3 25 w.heap.size w' a' m c' (onlyL e l) ∧ RowKit.Below w.heap.size w w' := by
  have HL := hid h.len
  have kG := hid (fun w => greatest_any e w)
  have ht := topF_lt e
  have kU := hid (unique_any w a n c l h hn)
  have hE : ∀ t, topF e = t → onlyE e l = if l.any (fun x => decide (t < x)) = true then 2 else if 64 < (uqL l).length then 5 else 0 := fun t h => by unfold onlyE; rw [h]
  have hL : onlyL e l = if onlyE e l = 0 then (uqL l).map (mkFo e) else [] := rfl
  have HE := hid hE
  have HLL := hid hL
  clear hE hL
  obtain ⟨any, hany⟩ : ∃ any, any = l.any (fun x => decide (topF e < x)) := ⟨_, rfl⟩
  have HA := hid hany
  cases any with
  | true =>
    have hE2 : onlyE e l = 2 := by rw [HE.out _ rfl, if_pos HA.out.symm]
    have HR := hid (show onlyE e l = 2 ∧ onlyL e l = [] from ⟨hE2, by rw [HLL.out, hE2]; rfl⟩)
    cases l with
    | nil => simp at hany
    | cons x0 l =>
      have kM := hid (max_any w a n c x0 l h hn)
      have hn0 : 0 < n := by rw [← HL.out]; simp
      have dn : decide (0 < (n : Int)) = true := by simp; omega
      have hgt : decide ((topF e : Int) < (mxL x0 l : Int)) = true := by
        have := mxL_gt (topF e) l x0
        rw [← List.any_cons (f := fun x => decide (topF e < x)), ← hany] at this
        simpa using this
      have hgt2 : topF e < mxL x0 l := by simpa using hgt
      clear hany
      generalize topF e = t at *
      generalize mxL x0 l = mx at *
      go_enter Try.func11, Try.ntmps11
      go_wp2_with (first
        | (go_at_call 25; (with_reducible refine (kG.out _).mono ?_); rintro e w' ⟨rfl, rfl⟩)
        | (go_at_call 26; (with_reducible refine kM.out.mono ?_); rintro e w' ⟨rfl, rfl⟩))
      go_ret2
      exact ⟨none, 0, 0, by simp [HR.out.1], by rw [HR.out.2]; exact OK.nil _ _ _ _ _, RowKit.Below.refl _ _⟩
  | false =>
    have hE2 : onlyE e l = if 64 < (uqL l).length then 5 else 0 := by rw [HE.out _ rfl, if_neg (by rw [← HA.out]; exact Bool.false_ne_true)]
    have HE2 := hid hE2
    clear hE2
    obtain ⟨dn, hmax⟩ : ∃ dn : Bool, Hid (dn = decide (0 < (n : Int))) := ⟨_, hid rfl⟩
    -- the test ahead: no number is too great
    have kM : n ≠ 0 → ∃ mx : Nat, decide (topF e < mx) = false ∧ Hid (∀ w', RL wv w' a n c l → Calls Try.prog 26 #[.slice a n c] w' fun e w'' => e = .returned (.int .u32 (mx : Int)) ∧ w'' = w') := fun hn0 => by
      cases l with
      | nil => exact absurd HL.out.symm hn0
      | cons x0 l =>
        refine ⟨mxL x0 l, ?_, hid (fun w' h' => max_any w' a n c x0 l h' hn)⟩
        have := mxL_gt (topF e) l x0
        rw [← List.any_cons (f := fun x => decide (topF e < x)), ← hany] at this
        simpa using this
    clear hany dn hmax
    have HMK := hid (fun t (h : topF e = t) x => show mkFo e x = ⟨e, t, x⟩ by rw [← h]; rfl)
    have HR0 := hid h
    clear h
    generalize topF e = t at *
    go_enter Try.func11, Try.ntmps11
    go_upto_region 2 with (go_at_call 25; (with_reducible refine (kG.out _).mono ?_); rintro e w' ⟨rfl, rfl⟩)
    go_cut [20] (fun s wx => s = .bool false ∧ wx = w)
    case first =>
      by_cases hn0 : n = 0
      · subst hn0
        go_wp2_with fail
        go_meet
        exact ⟨rfl, rfl⟩
      · obtain ⟨mx, hmx, KM⟩ := kM hn0
        have hn1 : 0 < n := by omega
        clear hn0 kM
        go_wp2_with (go_at_call 26; (with_reducible refine (KM.out _ HR0.out).mono ?_); rintro e w2 ⟨rfl, rfl⟩)
        go_meet
        exact ⟨rfl, rfl⟩
    case rest =>
    obtain ⟨rfl, rfl⟩ := hcut
    clear kM
    by_cases h64 : 64 < (uqL l).length
    · have hE3 : onlyE e l = 5 := by rw [HE2.out, if_pos h64]
      have HR := hid (show onlyE e l = 5 ∧ onlyL e l = [] from ⟨hE3, by rw [HLL.out, hE3]; rfl⟩)
      go_wp2_with (go_at_call 27; (with_reducible refine kU.out.mono ?_); rintro e w2 ⟨a2, m2, c2, u, rfl, r2, o2, i2, g2⟩; obtain rfl := uqL_is o2 i2; have hm2 : (uqL l).length = m2 := r2.len; have hm3 : 64 < m2 := (by omega); clear o2 i2 r2 hm2)
      go_ret2
      exact ⟨none, 0, 0, by simp [HR.out.1], by rw [HR.out.2]; exact OK.nil _ _ _ _ _, g2⟩
    · have hE3 : onlyE e l = 0 := by rw [HE2.out, if_neg h64]
      have HR := hid (show onlyE e l = 0 ∧ onlyL e l = (uqL l).map (mkFo e) from ⟨hE3, by rw [HLL.out, if_pos hE3]⟩)
      clear HE HE2 HLL hE3
      go_wp2_with (go_at_call 27; (with_reducible refine kU.out.mono ?_); rintro r w2 ⟨a2, m2, c2, u, rfl, r2, o2, i2, g2⟩; obtain rfl := uqL_is o2 i2; have hm2 : (uqL l).length = m2 := r2.len; have hm3 : m2 ≤ 64 := (by omega); have d64 : decide (64 < m2) = false := (by simp; omega); have R2 := hid r2; have HM2 := hid hm2; clear o2 i2 r2 hm2)
      go_loopg [7, 28] m2 (fun gn vo vi wr => ∃ (k m : Nat) (a' : Option Addr) (c' : Nat), k ≤ m2 ∧ gn = m2 - k ∧ vi = .int .i64 (k : Int) ∧ vo = .slice a' k c' ∧ Hid (RF w2 wr a' k c' (((uqL l).take k).map (mkFo e))))
      case atStart => exact ⟨0, 0, none, 0, by omega, by omega, rfl, rfl, hid ⟨OK.nil _ _ _ _ _, RowKit.Below.refl _ _⟩⟩
      case round =>
        obtain ⟨k, m, a', c', hk, rfl, rfl, rfl, HF⟩ := hrel
        by_cases hlt : k < m2
        · obtain ⟨b, off, x, rfl, hx, hc⟩ := (R2.out.below HF.out.bel).at hlt
          have hc' : wr.cell? ⟨b, off + k, none⟩ = some (.int .u32 (x : Int)) := hc
          have HX := hid (show ((uqL l).take (k + 1)).map (mkFo e) = ((uqL l).take k).map (mkFo e) ++ [⟨e, t, x⟩] by
            rw [List.take_add_one, hx, List.map_append]; simp [HMK.out t rfl x])
          clear hc hx
          have hsz := HF.out.bel.size
          go_wp2_with (at_builtin; refine wpList_appK (enc := fiE) tFi eFi rfl _ _ rfl rfl (HF.out.own.alloc _) rfl (lit1Fi wr ⟨e, t, x⟩) (by omega) (by omega) (by simp; omega) ?_; intro w10 a10 c10 hol10 hb10)
          go_roundg (m2 - (k + 1))
          case measure => omega
          case rel => exact ⟨k + 1, 0, a10, c10, by omega, rfl, by go_num, rfl, hid ((HF.out.alloc _).app (by rw [HX.out]; exact hol10) hb10)⟩
        · obtain rfl : k = m2 := by omega
          go_wp2
          go_ret2
          have e9 : (uqL l).take k = uqL l := List.take_of_length_le (by rw [HM2.out]; exact Nat.le_refl _)
          have HF2 := HF.out
          rw [e9] at HF2
          exact ⟨a', k, c', by simp [HR.out.1], by rw [HR.out.2]; exact HF2.own.mono g2.size, bstep g2 HF2.bel⟩
end Go.Proofs.Ytmaklneiedljjaa
