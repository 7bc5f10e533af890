/-
  Contracts of the document's own answers of layer 5: Make, Mask, Without.
-/
import Derived.Test.YtoeeaohgihipgaaB5g
namespace Go.Proofs.Ytoeeaohgihipgaa
open Go.RowKit Go.Sort
set_option linter.unusedVariables false

/-- What is made, and the error. -/
def mkO (l : List Fl) : List Fl := if l.all isF = true then mkL l else []
def mkE (l : List Fl) : Int := if l.all isF = true then 0 else 2

theorem refMake_any (w : World) (a : Option Addr) (n c : Nat) (l : List Fl) (h : RK fe 2 w a n c l) (hn : n ≤ 100000) :
    Calls Try.prog 10 #[.slice a n c] w fun e w' => ∃ a' m c', e = .returned (.tuple #[.slice a' m c', .int .i64 (mkE l)]) ∧ OK fe 2 38 w.heap.size w' a' m c' (mkO l) ∧ Below w.heap.size w w' := by
  have HLN := hid h.len
  go_enter Try.func10, Try.ntmps10
  go_wp2
  go_loopg [4, 5] n (fun gn v i wr => ∃ (k m : Nat) (a' : Option Addr) (c' : Nat), k ≤ n ∧ gn = n - k ∧ i = .int .i64 (k : Int) ∧ v = .slice a' m c' ∧ (l.take k).all isF = true ∧ RB w wr a' m c' (mkL (l.take k)))
  case atStart => exact ⟨0, 0, none, 0, by omega, by omega, rfl, rfl, by simp, RB.start w⟩
  case round =>
    obtain ⟨k, m, a', c', hk, rfl, rfl, rfl, hall, hR⟩ := hrel
    have HALL := hid hall; clear hall
    by_cases hlt : k < n
    · obtain ⟨b, off, s, u, rfl, hx, hbk, hc0, hc1⟩ := rf_at (h.below hR.bel) hlt
      have HX := hid hx; clear hx
      have km := may_any wr s u
      cases hF : isF (s, u)
      · rw [hF] at km
        have HF := hid (all_false HX.out hF); clear hF
        go_wp2_with (go_at_call 27; with_reducible refine km.mono ?_; rintro e w2 ⟨rfl, g2⟩)
        go_ret2
        refine ⟨none, 0, 0, by unfold mkE; rw [HF.out]; rfl, ?_, (hR.call g2).bel⟩
        unfold mkO
        rw [HF.out]
        exact OK.nil _ _ _ _ _
      · rw [hF] at km
        have HF := hid (show (l.take (k + 1)).all isF = true by rw [all_snoc HX.out, HALL.out, hF]; rfl); clear hF
        have HM := hid (show mkL (l.take (k + 1)) = turnL (mkL (l.take k)) (s, u) by rw [take_more HX.out, mkL_snoc])
        have hml : m ≤ 100000 := by
          have h1 := mkL_length (l.take k)
          rw [hR.own.len, List.length_take] at h1
          omega
        go_wp2_with (first | (go_at_call 27; with_reducible refine km.mono ?_; rintro e w2 ⟨rfl, g2⟩; have hR2 := hR.call g2; obtain ⟨b', off', s2, u2, e', hx', hbk', hd0, hd1⟩ := rf_at (h.below hR2.bel) hlt; cases e'; obtain ⟨rfl, rfl⟩ : s2 = s ∧ u2 = u := (by have := HX.out; rw [hx'] at this; simpa using this); clear hx' hc0 hc1 hR) | (go_at_call 28; with_reducible refine (turned_any w2 a' m c' _ s2 u2 hR2.rk hml (sor_mkL _)).mono ?_; rintro e w3 ⟨a3, m3, c3, rfl, ho3, g3⟩))
        go_roundg (n - (k + 1))
        case measure => omega
        case rel => exact ⟨k + 1, m3, a3, c3, by omega, rfl, by go_num, rfl, HF.out, ⟨by rw [HM.out]; exact ho3.mono hR2.sz, (hR2.call g3).bel⟩⟩
    · have e1 := HALL.out
      rw [List.take_of_length_le (by rw [HLN.out]; omega)] at e1 hR
      have HE := hid e1; clear e1
      go_wp2
      go_ret2
      refine ⟨a', m, c', by unfold mkE; rw [HE.out]; rfl, ?_, hR.bel⟩
      unfold mkO
      rw [HE.out]
      exact hR.own

/-- Without a node. -/
def woL (l : List Fl) (j : Nat) : List Fl := l.filter fun x => x.2 != j

theorem woL_more {l : List Fl} {k : Nat} {x : Fl} (hx : l[k]? = some x) (j : Nat) : woL (l.take (k + 1)) j = woL (l.take k) j ++ if x.2 = j then [] else [x] := by
  unfold woL
  rw [take_more hx, List.filter_append]
  by_cases h : x.2 = j <;> simp [h]

theorem refWithout_any (w : World) (a : Option Addr) (n c : Nat) (l : List Fl) (j : Nat) (h : RK fe 2 w a n c l) (hn : n ≤ 1000000) (hj : j < 256) :
    Calls Try.prog 21 #[.slice a n c, .int .u8 (j : Int)] w fun e w' => ∃ a' m c', e = .returned (.slice a' m c') ∧ OK fe 2 38 w.heap.size w' a' m c' (woL l j) ∧ Below w.heap.size w w' := by
  have HLN := hid h.len
  go_enter Try.func21, Try.ntmps21
  go_wp2
  go_loopg [5, 6] n (fun gn v i wr => ∃ (k m : Nat) (a' : Option Addr) (c' : Nat), k ≤ n ∧ gn = n - k ∧ i = .int .i64 (k : Int) ∧ v = .slice a' m c' ∧ m ≤ k ∧ RB w wr a' m c' (woL (l.take k) j))
  case atStart => exact ⟨0, 0, none, 0, by omega, by omega, rfl, rfl, by omega, RB.start w⟩
  case round =>
    obtain ⟨k, m, a', c', hk, rfl, rfl, rfl, hm, hR⟩ := hrel
    by_cases hlt : k < n
    · obtain ⟨b, off, s, u, rfl, hx, hbk, hc0, hc1⟩ := rf_at (h.below hR.bel) hlt
      have HM := hid (woL_more hx j); clear hx
      have hsz := hR.sz
      by_cases hu : u = j
      · subst hu
        go_wp2
        go_roundg (n - (k + 1))
        case measure => omega
        case rel => exact ⟨k + 1, m, a', c', by omega, rfl, by go_num, rfl, by omega, by rw [HM.out]; simpa using hR⟩
      · have hu' : ((u : Int) != (j : Int)) = true := by simp; omega
        have HU := hid hu; clear hu
        go_wp2_with (at_builtin; refine wpList_appK (enc := fe) tF eF rfl _ _ rfl rfl (hR.own.alloc _) rfl (lit1F wr s u) (by omega) (by omega) (by simp; omega) ?_; intro w10 a10 c10 hol10 hb10)
        go_roundg (n - (k + 1))
        case measure => omega
        case rel => exact ⟨k + 1, m + 1, a10, c10, by omega, rfl, by go_num, by go_num, by omega, (hR.alloc _).app (by rw [HM.out, if_neg HU.out]; exact hol10) hb10⟩
    · rw [List.take_of_length_le (by rw [HLN.out]; omega)] at hR
      go_wp2
      go_ret
      exact ⟨a', m, c', rfl, hR.own, hR.bel⟩

theorem lit2F (w : World) (s : Int) (u : Nat) {o : Obj} : RK fe 2 ((w.alloc o).alloc (.cells #[.int .i64 s, .int .u8 (u : Int)] 38)) (some ⟨w.heap.size + 1, 0, none⟩) 1 1 [(s, u)] := by
  have := lit1F (w.alloc o) s u
  rwa [heap_size_alloc] at this

theorem without_any (w : World) (a : Option Addr) (n c : Nat) (l : List Fl) (j : Nat) (h : RK fe 2 w a n c l) (hn : n ≤ 1000000) (hj : j < 256) :
    Calls Try.prog 20 #[.slice a n c, .int .u8 (j : Int)] w fun e w' => ∃ a' m c', e = .returned (.slice a' m c') ∧ OK fe 2 38 w.heap.size w' a' m c' (woL l j) ∧ Below w.heap.size w w' := by
  have HLN := hid h.len
  go_enter Try.func20, Try.ntmps20
  go_wp2
  go_loopg [5, 10] n (fun gn v i wr => ∃ (k m : Nat) (a' : Option Addr) (c' : Nat), k ≤ n ∧ gn = n - k ∧ i = .int .i64 (k : Int) ∧ v = .slice a' m c' ∧ m ≤ k ∧ RB w wr a' m c' (woL (l.take k) j))
  case atStart => exact ⟨0, 0, none, 0, by omega, by omega, rfl, rfl, by omega, RB.start w⟩
  case round =>
    obtain ⟨k, m, a', c', hk, rfl, rfl, rfl, hm, hR⟩ := hrel
    by_cases hlt : k < n
    · obtain ⟨b, off, s, u, rfl, hx, hbk, hc0, hc1⟩ := rf_at (h.below hR.bel) hlt
      have HM := hid (woL_more hx j); clear hx
      have hsz := hR.sz
      by_cases hu : u = j
      · subst hu
        go_wp2
        go_roundg (n - (k + 1))
        case measure => omega
        case rel => exact ⟨k + 1, m, a', c', by omega, rfl, by go_num, rfl, by omega, by rw [HM.out]; simpa using hR.alloc _⟩
      · have hu' : ((u : Int) != (j : Int)) = true := by simp; omega
        have HU := hid hu; clear hu
        have hR1 := hR.alloc (.cells #[.int .i64 s, .int .u8 (u : Int)] 38)
        have hlit := lit2F wr s u (o := .cells #[.int .i64 s, .int .u8 (u : Int)] 38)
        have hsz1 := hR1.sz
        go_wp2_with (at_builtin; refine wpList_appK (enc := fe) tF eF rfl _ _ rfl rfl (hR1.own.alloc _) rfl hlit (by omega) (by omega) (by simp; omega) ?_; intro w10 a10 c10 hol10 hb10)
        go_roundg (n - (k + 1))
        case measure => omega
        case rel => exact ⟨k + 1, m + 1, a10, c10, by omega, rfl, by go_num, by go_num, by omega, (hR1.alloc _).app (by rw [HM.out, if_neg HU.out]; exact hol10) hb10⟩
    · rw [List.take_of_length_le (by rw [HLN.out]; omega)] at hR
      go_wp2
      go_ret
      exact ⟨a', m, c', rfl, hR.own, hR.bel⟩
end Go.Proofs.Ytoeeaohgihipgaa
