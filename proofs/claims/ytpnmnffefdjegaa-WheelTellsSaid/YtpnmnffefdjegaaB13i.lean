/-
  Contracts of the statements' own ints (are two lists the same?) and awake (the chapter's examples).
-/
import Derived.Test.YtpnmnffefdjegaaB13h
namespace Go.Proofs.Ytpnmnffefdjegaa
open Go.RowKit Go.Maps Go.Sort
set_option linter.unusedVariables false

theorem take_eq_succ {α : Type} {l m : List α} {k : Nat} {x : α} (h : l.take k = m.take k) (hl : l[k]? = some x) (hm : m[k]? = some x) : l.take (k + 1) = m.take (k + 1) := by
  rw [List.take_add_one, List.take_add_one, h, hl, hm]

section
variable {w : World} {a b : Option Addr} {n p c d : Nat} {l l' : List Int}

set_option maxRecDepth 100000 in
set_option maxHeartbeats 4000000 in
theorem ints_any (h : RL iv w a n c l) (h' : RL iv w b p d l') (hn : n ≤ 1000000) (hp : p ≤ 1000000) :
    Calls Try.prog 16 #[.slice a n c, .slice b p d] w fun e w' => e = .returned (.bool (decide (l = l'))) ∧ Below w.heap.size w w' := by
  by_cases hnp : n = p
  · subst hnp
    have hlen : l.length = l'.length := by rw [h.len, h'.len]
    go_enter Try.func16, Try.ntmps16
    go_wp2
    go_loopg [13] n (fun gn vi wr => ∃ k : Nat, k ≤ n ∧ gn = n - k ∧ vi = .int .i64 (k : Int) ∧ Hid (l.take k = l'.take k) ∧ Below w.heap.size w wr)
    case atStart => exact ⟨0, by omega, by omega, rfl, hid (by simp), Below.refl _ _⟩
    case round =>
      obtain ⟨k, hk, rfl, rfl, HE, hb⟩ := hrel
      by_cases hlt : k < n
      · obtain ⟨b1, o1, x1, rfl, e1, c1⟩ := (h.below hb).at hlt
        obtain ⟨b2, o2, x2, rfl, e2, c2⟩ := (h'.below hb).at hlt
        simp only [iv] at c1 c2
        by_cases hxx : x1 = x2
        · subst hxx
          have hb1 : (x1 == x1) = true := by simp
          have HX := hid e1; have HY := hid e2
          clear e1 e2
          go_wp2
          go_quiet (fail)
          go_wp2
          go_roundg (n - (k + 1))
          case measure => omega
          case rel => exact ⟨k + 1, by omega, rfl, by go_num, hid (take_eq_succ HE.out HX.out HY.out), below_drewN hb _⟩
        · have hb1 : (x1 == x2) = false := by simpa using hxx
          have HX := hid e1; have HY := hid e2; have HN := hid hxx
          clear e1 e2 hxx
          go_wp2
          go_quiet (fail)
          go_wp2
          go_ret
          exact ⟨ret_bool (decide_eq_false (fun e => HN.out (by have := HX.out; rw [e, HY.out] at this; exact (by simpa using this.symm)))).symm, below_drewN hb _⟩
      · obtain rfl : k = n := by omega
        have HL := hid (show l = l' by have := HE.out; rwa [List.take_of_length_le (by rw [h.len]; exact Nat.le_refl _), List.take_of_length_le (by rw [h'.len]; exact Nat.le_refl _)] at this)
        go_wp2
        go_ret
        exact ⟨ret_bool (decide_eq_true HL.out).symm, hb⟩
  · have hne : ((n : Int) == (p : Int)) = false := by rw [beq_eq_false_iff_ne]; omega
    have HN : Hid (l ≠ l') := fun e => hnp (by rw [← h.len, ← h'.len, e])
    go_enter Try.func16, Try.ntmps16
    go_wp2
    go_ret
    exact ⟨ret_bool (decide_eq_false HN.out).symm, Below.refl _ _⟩

variable {B : Nat} {w1 : World} {x : Wl} {m m' : Wh} {id after r : Int}
theorem whSet_at (h : WhO B w x m) (hw : (Lit.int .i64 id).wf = true) (hn : m.now ≤ 1000000000) (hc : setC m id after = r) (hm : setW m id after = m') :
    Calls Try.prog 12 #[.pointer (some ⟨x.g, 0, none⟩), .int .i64 id, .int .i64 after] w fun e w' => e = .returned (.int .i64 r) ∧ WhO B w' x m' ∧ Ch x.S w w' := by
  subst hc; subst hm; exact whSet_any h hw hn
theorem whCancel_at {t : Bool} (h : WhO B w x m) (hw : (Lit.int .i64 id).wf = true) (hn : m.now ≤ 1000000000) (hc : hasL m.L id = t) (hm : cutW m id = m') :
    Calls Try.prog 14 #[.pointer (some ⟨x.g, 0, none⟩), .int .i64 id] w fun e w' => e = .returned (.bool t) ∧ WhO B w' x m' ∧ Ch x.S w w' := by
  subst hc; subst hm; exact whCancel_any h hw hn
theorem whTick_at {t : List Int} (h : WhO B w x m) (hn : m.now ≤ 1000000000) (ht : Told m t) (hm : tickW m = m') :
    Calls Try.prog 17 #[.pointer (some ⟨x.g, 0, none⟩)] w fun e w' => ∃ a c, e = .returned (.slice a t.length c) ∧ OL iv 3 w.heap.size w' a t.length c t ∧ WhO B w' x m' ∧ Ch x.S w w' := by
  subst hm
  refine (whTick_any h hn).mono fun e w' ⟨a, c, t', h1, h2, h3, _, h4, h5⟩ => ?_
  obtain rfl := rising_eq h3.up ht.up (fun i => (h3.has i).trans (ht.has i).symm)
  exact ⟨a, c, h1, h2, h4, h5⟩
theorem whLeft_at {l : Int} {t : Bool} (h : WhO B w x m) (hw : (Lit.int .i64 id).wf = true) (hn : m.now ≤ 1000000000) (hl : leftW m id = l) (ht : hasL m.L id = t) :
    Calls Try.prog 18 #[.pointer (some ⟨x.g, 0, none⟩), .int .i64 id] w fun e w' => e = .returned (.tuple #[.int .i64 l, .bool t]) ∧ w = w' := by
  subst hl; subst ht; exact whLeft_any h hw hn
/-- A told list lies apart from the wheel. -/
theorem OL.apart {B0 : Nat} {w2 : World} (h : OL iv 3 B0 w1 a n c l) (hs : ∀ b, x.S b → b < B0) (k : Ch x.S w1 w2) : OL iv 3 B0 w2 a n c l :=
  h.ch k (fun p hp e => by have := (h.ltB hp).2; have := hs _ e; omega)

theorem told_7 : Told ⟨0, 2, [(2, 3), (7, 1)]⟩ [7] := ⟨by simp, fun i => by simp⟩
theorem told_no : Told ⟨1, 2, [(2, 3)]⟩ [] := ⟨by simp, fun i => by simp⟩
theorem told_2 : Told ⟨2, 2, [(2, 3)]⟩ [2] := ⟨by simp, fun i => by simp⟩

theorem aw_ints (h : OL iv 3 B w1 a n c l) (h' : RL iv w b p d l') (hn : n ≤ 1000000) (hp : p ≤ 1000000) (g : Below w1.heap.size w1 w) (e : l = l') :
    Calls Try.prog 16 #[.slice a n c, .slice b p d] w fun e w' => e = .returned (.bool true) ∧ Below w.heap.size w w' :=
  (ints_any (h.rl.below g) h' hn hp).mono fun _ _ ⟨h1, h2⟩ => ⟨h1.trans (ret_bool (decide_eq_true e)), h2⟩

set_option maxRecDepth 100000 in
set_option maxHeartbeats 8000000 in
theorem awake13_any (w : World) : Calls Try.prog 10 #[] w fun e w' => e = .returned (.bool true) ∧ Below w.heap.size w w' := by
  have hN : Calls Try.prog 9 #[.int .i64 4, .int .i64 2] w (NewWh w 4 2) := whNew_any w 4 2 (by omega) (by omega) (by omega) (by omega)
  go_enter Try.func10, Try.ntmps10
  go_wp2_with (first
    | (go_at_call 9; (refine hN.mono ?_); rintro e w1 ⟨x, rfl, _, h1, g1⟩
       have hB : ∀ b, x.S b → w.heap.size ≤ b := h1.hB
       have k1 := whSet_at (id := 7) (after := 3) (r := 0) (m' := ⟨0, 2, [(7, 3)]⟩) h1 (by decide) (by decide) (by decide) (by rfl))
    | (go_at_call 12; (with_reducible refine k1.mono ?_); rintro e w2 ⟨rfl, h2, c2⟩
       have k2 := whSet_at (id := 2) (after := 3) (r := 0) (m' := ⟨0, 2, [(7, 3), (2, 3)]⟩) h2 (by decide) (by decide) (by decide) (by rfl))
    | (go_at_call 12; (with_reducible refine k2.mono ?_); rintro e w3 ⟨rfl, h3, c3⟩
       have k3 := whSet_at (id := 9) (after := 1) (r := 5) (m' := ⟨0, 2, [(7, 3), (2, 3)]⟩) h3 (by decide) (by decide) (by decide) (by rfl))
    | (go_at_call 12; (with_reducible refine k3.mono ?_); rintro e w4 ⟨rfl, h4, c4⟩
       have k4 := whSet_at (id := 7) (after := 1) (r := 0) (m' := ⟨0, 2, [(2, 3), (7, 1)]⟩) h4 (by decide) (by decide) (by decide) (by rfl))
    | (go_at_call 12; (with_reducible refine k4.mono ?_); rintro e w5 ⟨rfl, h5, c5⟩
       have k5 := whTick_at h5 (by decide) told_7 (m' := ⟨1, 2, [(2, 3)]⟩) (by rfl))
    | (go_at_call 17; (with_reducible refine k5.mono ?_); rintro e w6 ⟨a6, n6, rfl, o6, h6, c6⟩
       have hL5 := h5.sL
       have k6 := whLeft_at (id := 2) (l := 2) (t := true) h6 (by decide) (by decide) (by decide) (by decide)
       have k7 := whTick_at h6 (by decide) told_no (m' := ⟨2, 2, [(2, 3)]⟩) (by rfl))
    | (go_at_call 18; (with_reducible refine k6.mono ?_); rintro e w7 ⟨rfl, rfl⟩)
    | (go_at_call 17; (with_reducible refine k7.mono ?_); rintro e w7 ⟨a7, n7, rfl, o7, h7, c7⟩
       have p7 := OL.apart o6 hL5 c7
       have k8 := whTick_at h7 (by decide) told_2 (m' := ⟨3, 2, []⟩) (by rfl))
    | (go_at_call 17; (with_reducible refine k8.mono ?_); rintro e w8 ⟨a8, n8, rfl, o8, h8, c8⟩
       have p8 := OL.apart p7 hL5 c8
       have hL7 := h7.sL
       have k9 := whSet_at (id := 2) (after := 5) (r := 0) (m' := ⟨3, 2, [(2, 8)]⟩) h8 (by decide) (by decide) (by decide) (by rfl))
    | (go_at_call 12; (with_reducible refine k9.mono ?_); rintro e w9 ⟨rfl, h9, c9⟩
       have p9 := OL.apart p8 hL5 c9
       have r9 := OL.apart o8 hL7 c9
       have k10 := aw_ints (n := 1) (l := [7]) p9 (lit1I w9 7) (by decide) (by omega) (bnew0 w9 _) rfl)
    | (go_at_call 16; (with_reducible refine k10.mono ?_); rintro e w10 ⟨rfl, g10⟩
       have z10 := (bnew0 w9 (.cells #[.int .i64 7] 3)).trans (g10.mono (by simp))
       have k11 := aw_ints (n := 1) (l := [2]) (r9.below z10) (lit1I w10 2) (by decide) (by omega) (bnew0 w10 _) rfl)
    | (go_at_call 16; (with_reducible refine k11.mono ?_); rintro e w11 ⟨rfl, g11⟩
       have z11 := bstep z10 ((bnew0 w10 (.cells #[.int .i64 2] 3)).trans (g11.mono (by simp)))
       have h11 := h9.below z11
       have k12 := whNow_any h11
       have k13 := whCancel_at (id := 2) (t := true) (m' := ⟨3, 2, []⟩) h11 (by decide) (by decide) (by decide) (by rfl))
    | (go_at_call 20; (with_reducible refine k12.mono ?_); rintro e w12 ⟨rfl, rfl⟩)
    | (go_at_call 14; (with_reducible refine k13.mono ?_); rintro e w13 ⟨rfl, h13, c13⟩
       have k14 := whCancel_at (id := 2) (t := false) (m' := ⟨3, 2, []⟩) h13 (by decide) (by decide) (by decide) (by rfl))
    | (go_at_call 14; (with_reducible refine k14.mono ?_); rintro e w14 ⟨rfl, h14, c14⟩))
  go_ret
  have i : ∀ {w0 : World} (b : Nat), x.S b → x.S b ∨ w0.heap.size ≤ b := fun b hb => .inl hb
  have C := ((((((((((c2.trans c3 i).trans c4 i).trans c5 i).trans c6 i).trans c7 i).trans c8 i).trans c9 i).call z11).trans c13 i).trans c14 i)
  exact ⟨rfl, C.below g1 (Nat.le_refl _) hB⟩
end
end Go.Proofs.Ytpnmnffefdjegaa
