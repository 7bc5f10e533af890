/-
  Contract: the document's own filters of identifiers.
-/
import Derived.Test.YtmaklneiedljjaaB11l
import Derived.Test.YtmaklneiedljjaaM11d
namespace Go.Proofs.Ytmaklneiedljjaa
open Go.RowKit Go.Sort
set_option linter.unusedVariables false

/-- The number that was told last, or -1. -/
def lastI (u : List Nat) (j : Nat) : Int := if j = 0 then -1 else ((u[j - 1]?).getD 0 : Int)
/-- What the search for the next one knows of those that it has seen. -/
def MinP (la : Int) (seen : List Nat) (nx : Int) : Prop := (nx = 1099511627776 ∨ ∃ x ∈ seen, (x : Int) = nx ∧ la < nx) ∧ ∀ x ∈ seen, la < (x : Int) → nx ≤ (x : Int)

theorem lastI_lt {u : List Nat} (hu : u.Pairwise (· < ·)) {j : Nat} (hj : j < u.length) : lastI u j < (u[j] : Int) := by
  unfold lastI
  by_cases h0 : j = 0
  · rw [if_pos h0]; omega
  · rw [if_neg h0, List.getElem?_eq_getElem (show j - 1 < u.length by omega)]
    have := List.pairwise_iff_getElem.1 hu (j - 1) j (by omega) hj (by omega)
    show ((u[j - 1] : Nat) : Int) < _
    omega
theorem lastI_le {u : List Nat} (hu : u.Pairwise (· < ·)) {j i : Nat} (hj : j ≤ u.length) (hi : i < u.length) (h : lastI u j < (u[i] : Int)) : j ≤ i := by
  apply Nat.le_of_not_lt
  intro hlt
  unfold lastI at h
  rw [if_neg (by omega), List.getElem?_eq_getElem (show j - 1 < u.length by omega)] at h
  have h2 : ((u[j - 1] : Nat) : Int) < (u[i] : Int) := h
  by_cases e : i = j - 1
  · subst e; omega
  · have := List.pairwise_iff_getElem.1 hu i (j - 1) hi (by omega) (by omega)
    omega
theorem min_none {l : List Nat} (h32 : ∀ x ∈ l, x < 4294967296) {j : Nat} (hj : j ≤ (uqL l).length) (h : MinP (lastI (uqL l) j) l 1099511627776) : j = (uqL l).length := by
  apply Nat.le_antisymm hj
  apply Nat.le_of_not_lt
  intro hlt
  have h1 := lastI_lt (uqL_rise l) hlt
  have hm : (uqL l)[j] ∈ l := (uqL_mem _ l).1 (List.getElem_mem hlt)
  have := h.2 _ hm h1
  have := h32 _ hm
  omega
theorem min_some {l : List Nat} {j : Nat} {nx : Int} (hj : j ≤ (uqL l).length) (hn : nx ≠ 1099511627776) (h : MinP (lastI (uqL l) j) l nx) : ∃ x : Nat, nx = (x : Int) ∧ x ∈ l ∧ (uqL l)[j]? = some x ∧ lastI (uqL l) (j + 1) = nx := by
  rcases h.1 with h0 | ⟨x, hx, hxe, hla⟩
  · exact absurd h0 hn
  · have hxu := (uqL_mem x l).2 hx
    obtain ⟨i, hi, hie⟩ := List.mem_iff_getElem.1 hxu
    have hji : j ≤ i := lastI_le (uqL_rise l) hj hi (by rw [hie, hxe]; exact hla)
    have hjl : j < (uqL l).length := by omega
    have h1 := h.2 _ ((uqL_mem _ l).1 (List.getElem_mem hjl)) (lastI_lt (uqL_rise l) hjl)
    have h2 : (uqL l)[j] ≤ (uqL l)[i] := by
      by_cases e : j = i
      · subst e; exact Nat.le_refl _
      · exact Nat.le_of_lt (List.pairwise_iff_getElem.1 (uqL_rise l) j i hjl hi (by omega))
    have e2 : (uqL l)[j] = x := by omega
    refine ⟨x, hxe.symm, hx, by rw [List.getElem?_eq_getElem hjl, e2], ?_⟩
    unfold lastI
    rw [if_neg (by omega), Nat.add_sub_cancel, List.getElem?_eq_getElem hjl, e2]
    exact hxe
theorem min_more {la nx : Int} {l : List Nat} {i : Nat} {x : Nat} (hx : l[i]? = some x) (h : MinP la (l.take i) nx) :
    (la < (x : Int) ∧ (x : Int) < nx → MinP la (l.take (i + 1)) (x : Int)) ∧ (¬ (la < (x : Int) ∧ (x : Int) < nx) → MinP la (l.take (i + 1)) nx) := by
  have e : l.take (i + 1) = l.take i ++ [x] := by rw [List.take_add_one, hx]; rfl
  rw [e]
  refine ⟨fun ⟨h1, h2⟩ => ⟨.inr ⟨x, by simp, rfl, h1⟩, fun y hy hl => ?_⟩, fun hc => ⟨?_, fun y hy hl => ?_⟩⟩
  · rcases List.mem_append.1 hy with hy | hy
    · have := h.2 y hy hl; omega
    · simp at hy; omega
  · rcases h.1 with h0 | ⟨y, hy, h1, h2⟩
    · exact .inl h0
    · exact .inr ⟨y, by simp [hy], h1, h2⟩
  · rcases List.mem_append.1 hy with hy | hy
    · exact h.2 y hy hl
    · simp at hy
      subst hy
      omega

set_option maxRecDepth 100000 in
set_option maxHeartbeats 8000000 in
theorem refOnly_any (w : World) (a : Option Addr) (n c : Nat) (l : List Nat) (e : Bool) (h : RL wv w a n c l) (h32 : ∀ x ∈ l, x < 4294967296) (hn : n ≤ 1000000) :
    Calls Try.prog 12 #[.slice a n c, .bool e] w fun r w' => ∃ (a' : Option Addr) (m c' : Nat), r = .returned (.tuple #[.slice a' m c', .int .i64 (onlyE e l)]) ∧ OK fiE 3 25 w.heap.size w' a' m c' (onlyL e l) ∧ RowKit.Below w.heap.size w w' := by
  have HL := hid h.len
  have H32 := hid h32; clear h32
  have HH := hid h
  have ht := topF_lt e
  obtain ⟨t, htt⟩ : ∃ t, t = topF e := ⟨_, rfl⟩
  have kM := hid (fun w => refMost_any e w)
  rw [← htt] at kM ht
  have HMK := hid (fun x => show mkFo e x = ⟨e, t, x⟩ by rw [htt]; rfl)
  have hE : onlyE e l = if l.any (fun x => decide (t < x)) = true then 2 else if 64 < (uqL l).length then 5 else 0 := by rw [htt]; rfl
  have hLL : onlyL e l = if onlyE e l = 0 then (uqL l).map (mkFo e) else [] := rfl
  have HE := hid hE
  have HLL := hid hLL
  clear hE hLL htt h
  go_enter Try.func12, Try.ntmps12
  go_wp2
  go_loopg [7] (n - 0) (fun gn vi wr => ∃ k : Nat, k ≤ n ∧ gn = n - k ∧ vi = .int .i64 (k : Int) ∧ Hid (∀ x ∈ l.take k, x ≤ t) ∧ Hid (RowKit.Below w.heap.size w wr))
  case atStart => exact ⟨0, by omega, by omega, by first | rfl | (go_num; done), hid (by simp), hid (RowKit.Below.refl _ _)⟩
  case round =>
    obtain ⟨k, hk, rfl, rfl, HA, HB⟩ := hrel
    by_cases hlt : k < n
    · obtain ⟨b, off, x, rfl, hx, hc⟩ := (HH.out.below HB.out).at hlt
      have hc' : wr.cell? ⟨b, off + k, none⟩ = some (.int .u32 (x : Int)) := hc
      have hcc : ∀ d os, (grow (redrawn wr d) os).cell? ⟨b, off + k, none⟩ = _ := fun d os => cell_regrown hc' d os
      have kM' : ∀ d os, Calls Try.prog 28 #[.bool e] (grow (redrawn wr d) os) fun r w'' => r = .returned (.int .u32 (t : Int)) ∧ ∃ r : Regrown, w'' = grow (redrawn wr r.d) r.os := fun d os =>
        Calls.regrown_of ((kM.out _).mono fun e w' he => ⟨he.1, by rw [he.2]; exact RowKit.Below.refl _ _⟩)
      have HX := hid hx
      clear hc hc' hx
      by_cases hgt : t < x
      · have hgt2 : decide (t < x) = true := by simp; omega
        have hgt3 : decide ((t : Int) < (x : Int)) = true := by simp; omega
        have hE2 : onlyE e l = 2 := by
          rw [HE.out, if_pos]
          rw [List.any_eq_true]
          exact ⟨x, List.mem_of_getElem? HX.out, hgt2⟩
        have HR := hid (show onlyE e l = 2 ∧ onlyL e l = [] from ⟨hE2, by rw [HLL.out, hE2]; rfl⟩)
        clear hE2
        go_wp2
        refine wp_region_quiet_below (by kernel_rfl) (by kernel_rfl) ?_
        repeat (go_big_quiet_step (first | (go_at_call 28; with_reducible exact kM' _ _)))
        refine wpQuiet_nil ?_
        intro w9 hw9
        have g9 : RowKit.Below wr.heap.size wr w9 := by obtain ⟨p9, rfl⟩ := hw9; exact below_regrown _ _ _
        clear hw9 kM' hcc
        go_wp2
        go_ret2
        exact ⟨none, 0, 0, by simp [HR.out.1], by rw [HR.out.2]; exact OK.nil _ _ _ _ _, bstep HB.out g9⟩
      · have hgt2 : decide (t < x) = false := by simp; omega
        have hgt3 : decide ((t : Int) < (x : Int)) = false := by simp; omega
        go_wp2
        refine wp_region_quiet_below (by kernel_rfl) (by kernel_rfl) ?_
        repeat (go_big_quiet_step (first | (go_at_call 28; with_reducible exact kM' _ _)))
        refine wpQuiet_nil ?_
        intro w9 hw9
        have g9 : RowKit.Below wr.heap.size wr w9 := by obtain ⟨p9, rfl⟩ := hw9; exact below_regrown _ _ _
        clear hw9 kM' hcc
        go_wp2
        go_roundg (n - (k + 1))
        case measure => omega
        case rel => exact ⟨k + 1, by omega, rfl, by go_num, hid (fun y hy => by
          rw [List.take_add_one, HX.out] at hy
          rcases List.mem_append.1 hy with hy | hy
          · exact HA.out y hy
          · simp at hy; omega), hid (bstep HB.out g9)⟩
    · have hall : l.any (fun x => decide (t < x)) = false := by
        rw [List.any_eq_false]
        intro x hx
        have := HA.out x (by rw [List.take_of_length_le (by rw [HL.out]; omega)]; exact hx)
        simp; omega
      have HE2 := hid (show onlyE e l = if 64 < (uqL l).length then 5 else 0 by rw [HE.out, hall]; rfl)
      clear hall HA HE
      have hule := uqL_length l
      rw [HL.out] at hule
      have HUL := hid hule
      clear hule
      obtain ⟨M, hM⟩ : ∃ M, M = (uqL l).length := ⟨_, rfl⟩
      have hMn : M ≤ n := by rw [hM]; exact HUL.out
      have HMM := hid hM; clear hM
      obtain ⟨li, hli⟩ : ∃ li : Nat → Int, li = lastI (uqL l) := ⟨_, rfl⟩
      have hl0 : li 0 = -1 := by rw [hli]; rfl
      have HLI := hid hli; clear hli
      have HR0 := hid (HH.out.below HB.out)
      go_wp2
      go_loopg [6, 8] (M - 0) (fun gn vo vl wq => ∃ (j : Nat) (a' : Option Addr) (c' : Nat), j ≤ M ∧ gn = M - j ∧ vo = .slice a' j c' ∧ vl = .int .i64 (li j) ∧ Hid (RF wr wq a' j c' (((uqL l).take j).map (mkFo e))))
      case atStart => exact ⟨0, none, 0, by omega, by omega, rfl, by rw [hl0], hid ⟨OK.nil _ _ _ _ _, RowKit.Below.refl _ _⟩⟩
      case round =>
        obtain ⟨j, a', c', hj, rfl, rfl, rfl, HF⟩ := hrel
        obtain ⟨la, hla⟩ : ∃ la, la = li j := ⟨_, rfl⟩
        rw [← hla]
        have HLA := hid hla; clear hla hl0
        have HR1 := hid (HR0.out.below HF.out.bel)
        go_wp2
        go_loopg [9, 10] (n - 0) (fun gn vn vi wz => ∃ (i : Nat) (nx : Int), i ≤ n ∧ gn = n - i ∧ vn = .int .i64 nx ∧ vi = .int .i64 (i : Int) ∧ Hid (MinP la (l.take i) nx) ∧ wz = wr)
        case atStart => exact ⟨0, _, by omega, by omega, rfl, by first | rfl | (go_num; done), hid ⟨.inl rfl, by simp⟩, rfl⟩
        case round =>
          obtain ⟨i, nx, hi, rfl, rfl, rfl, HMP, rfl⟩ := hrel
          by_cases hlt : i < n
          · obtain ⟨b, off, x, rfl, hx, hc⟩ := HR1.out.at hlt
            have hc' : wr.cell? ⟨b, off + i, none⟩ = some (.int .u32 (x : Int)) := hc
            have hxl := H32.out x (List.mem_of_getElem? hx)
            have HX := hid (min_more hx HMP.out)
            clear hc hx
            by_cases h1 : la < (x : Int)
            · by_cases h2 : (x : Int) < nx
              · have HN := hid (HX.out.1 ⟨h1, h2⟩)
                clear HX
                go_wp2
                go_roundg (n - (i + 1))
                case measure => omega
                case rel => exact ⟨i + 1, _, by omega, rfl, rfl, by go_num, hid HN.out, rfl⟩
              · have HN := hid (HX.out.2 (fun h => h2 h.2))
                clear HX
                go_wp2
                go_roundg (n - (i + 1))
                case measure => omega
                case rel => exact ⟨i + 1, nx, by omega, rfl, rfl, by go_num, hid HN.out, rfl⟩
            · have HN := hid (HX.out.2 (fun h => h1 h.1))
              clear HX
              go_wp2
              go_roundg (n - (i + 1))
              case measure => omega
              case rel => exact ⟨i + 1, nx, by omega, rfl, rfl, by go_num, hid HN.out, rfl⟩
          · have HFIN := hid (show MinP la l nx by have := HMP.out; rwa [List.take_of_length_le (by rw [HL.out]; omega)] at this)
            clear HMP
            by_cases hnx : nx = 1099511627776
            · subst hnx
              have hjM : j = M := by
                rw [HMM.out]
                refine min_none H32.out (by rw [← HMM.out]; exact hj) ?_
                have := HFIN.out
                rw [HLA.out, HLI.out] at this
                exact this
              subst hjM
              have e9 : (uqL l).take j = uqL l := List.take_of_length_le (by rw [HMM.out]; exact Nat.le_refl _)
              have HF2 := HF.out
              rw [e9] at HF2
              have HG := hid HF2
              by_cases h64 : 64 < j
              · have hE3 : onlyE e l = 5 := by rw [HE2.out, if_pos (by rw [← HMM.out]; exact h64)]
                have HR := hid (show onlyE e l = 5 ∧ onlyL e l = [] from ⟨hE3, by rw [HLL.out, hE3]; rfl⟩)
                clear hE3 e9 HF2
                go_wp2
                go_ret2
                exact ⟨none, 0, 0, by simp [HR.out.1], by rw [HR.out.2]; exact OK.nil _ _ _ _ _, bstep HB.out HG.out.bel⟩
              · have hE3 : onlyE e l = 0 := by rw [HE2.out, if_neg (by rw [← HMM.out]; exact h64)]
                have HR := hid (show onlyE e l = 0 ∧ onlyL e l = (uqL l).map (mkFo e) from ⟨hE3, by rw [HLL.out, if_pos hE3]⟩)
                clear hE3 e9 HF2
                go_wp2
                go_ret2
                exact ⟨a', j, c', by simp [HR.out.1], by rw [HR.out.2]; exact HG.out.own.mono HB.out.size, bstep HB.out HG.out.bel⟩
            · obtain ⟨x, rfl, hxm, hxu, hxl⟩ := min_some (by rw [← HMM.out]; exact hj) hnx (by have := HFIN.out; rw [HLA.out, HLI.out] at this; exact this)
              have hx32 := H32.out x hxm
              have hjM : j < M := by rw [HMM.out]; exact (List.getElem?_eq_some_iff.1 hxu).1
              have HXT := hid (show ((uqL l).take (j + 1)).map (mkFo e) = ((uqL l).take j).map (mkFo e) ++ [⟨e, t, x⟩] by
                rw [List.take_add_one, hxu, List.map_append]; simp [HMK.out x])
              have HLN := hid (show li (j + 1) = (x : Int) by rw [HLI.out]; exact hxl)
              clear hxu hxl hxm
              have hsz := HF.out.bel.size
              go_wp2_with (first
                | (go_at_call 28; (with_reducible refine (kM.out _).mono ?_); rintro r w' ⟨rfl, rfl⟩)
                | (at_builtin; refine wpList_appK (enc := fiE) tFi eFi rfl _ _ rfl rfl (HF.out.own.alloc _) rfl (lit1Fi wr ⟨e, t, x⟩) (by omega) (by omega) (by simp; omega) ?_; intro w10 a10 c10 hol10 hb10))
              go_roundg (M - (j + 1))
              case measure => omega
              case rel => exact ⟨j + 1, a10, c10, by omega, rfl, rfl, by rw [HLN.out], hid ((HF.out.alloc _).app (by rw [HXT.out]; exact hol10) hb10)⟩
end Go.Proofs.Ytmaklneiedljjaa
