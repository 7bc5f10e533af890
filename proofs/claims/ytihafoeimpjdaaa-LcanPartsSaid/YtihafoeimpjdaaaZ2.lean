/-
  Texts of this place, put together: B16d, B16e, B16f, B16g, Rt, ClF, B16h, Base2K, Apg, ApL, B16i, B16j, Mp, B16k, B16l. What stands here is used by the statement; conditions: none of their own.
-/
import Derived.Test.YtihafoeimpjdaaaZ1
import Derived.BigRegion
import Derived.Lib.QuietBelow
import Derived.ArgAppend
import Derived.WalkKit
import Derived.Deep.Upon
import Derived.Maps.OwnOps
import Derived.Maps.OwnSet
import Derived.Maps.Views
namespace Go.Proofs.Ytihafoeimpjdaaa
open Go.RowKit Go.Sort
set_option linter.unusedVariables false
set_option linter.unusedSimpArgs false
section
variable {B : Nat} {w w1 : World} {g gN c sil i : Nat} {hs : List Hol} {x y : Hol} {m : Ma}

theorem draw_allocH {ops : Array Oper} {Q : Exit → Act → World → Prop} {a : Act} {w : World} {o : Oper} {K : Act → World → Prop} (hgd : o.guard = none) (ho : o.op = .alloc 43)
    (h : ∀ w' g, w'.heap[g]? = some (.cells holZ 43 (0, 0)) → Below w.heap.size w w' → w.heap.size ≤ g → g < w'.heap.size → K (a.put o.dst (.pointer (some ⟨g, 0, none⟩))) w') :
    if Region.wanted o (yielded ops a.tmps) = true then Oper.wp Try.prog o a w K Q else K (a.put o.dst undef) w := by
  rw [if_pos (by simp [Region.wanted, hgd])]
  unfold Oper.wp
  have e : (execOp a.eval o).run Try.prog w = .ok (.value (.pointer (some ⟨w.heap.size, 0, none⟩))) (w.alloc (.cells holZ 43)) := by
    obtain ⟨d, op, t, p, af, gd⟩ := o
    dsimp only at ho
    subst ho
    kernel_rfl
  rw [e]
  exact h _ _ (heap_alloc_new _ _) (bnew0 w _) (Nat.le_refl _) (by simp)

set_option maxRecDepth 100000 in
theorem drop_any (h : BuM B w g gN c hs sil) (hi : hs[i]? = some x) (hm : m.node = (i : Int)) (hwh : m.what = 2) :
    Calls Try.prog 25 #[.pointer (some ⟨g, 0, none⟩), .agg (mayV m)] w (MetR B w g gN c hs sil m.ev) := by
  obtain ⟨w0, hw0, hb0, g0⟩ := boxMay w m
  have h0 := h.below g0
  have hn := (List.getElem?_eq_some_iff.1 hi).1
  have i1 : (i : Int) < (hs.length : Int) := by omega
  have H := hid h
  have H0 := hid h0
  have HI := hid hi
  have HM := hid hm
  have HW := hid hwh
  have hU := hid (stL_drop (s := lbOf hs sil) (e := m.ev) hm (lb_at hi) hwh)
  have hq0 : ∀ w', Below w0.heap.size w0 w' → w'.cell? ⟨g, 0, none⟩ = some (.slice (some ⟨gN, 0, none⟩) hs.length c) := fun w' k => (h0.below k).two.1
  have hq1 : ∀ w', Below w0.heap.size w0 w' → w'.cell? ⟨w.heap.size, 1, none⟩ = some (.int .i64 (i : Int)) := fun w' k => by rw [← hm]; exact (may_cells (bx_below hb0 k)).2.1
  have hq2 : ∀ w', Below w0.heap.size w0 w' → w'.rangeAt gN (i * 9) (holV x).toList := fun w' k => (h0.below k).own.row.range enHol_k hi
  clear h h0 hi hm hwh
  go_enter Try.func25, Try.ntmps25
  go_wp2_with (first
    | (rw [hw0.out]))
  have HS : Below w0.heap.size w0 w0.drew := (Below.refl _ _).drew
  refine Rest.begin (S := fun w' => Below w0.heap.size w0 w') (X := [10]) (by kernel_rfl) ?_
  change Rest _ _ _ _ _ _ _ _ _ w0.drew
  refine Rest.take (i := 0) (v := .pointer (some ⟨g, 0, none⟩)) rfl (by kernel_rfl) (by kernel_rfl) (by kernel_rfl) (by kernel_rfl) (fun _ _ _ h => h) (.inl HS) (Or.inl ⟨by simp [Region.wanted], ?_⟩) ?_
  · intro w; go_simp
  refine Rest.take (i := 1) (v := .pointer (some ⟨g, 0, none⟩)) rfl (by kernel_rfl) (by kernel_rfl) (by kernel_rfl) (by kernel_rfl) (fun _ _ _ h => h) (.inl HS) (Or.inl ⟨by simp [Region.wanted], ?_⟩) ?_
  · intro w; go_simp
  refine Rest.take (i := 2) (v := .pointer (some ⟨g, 0, none⟩)) rfl (by kernel_rfl) (by kernel_rfl) (by kernel_rfl) (by kernel_rfl) (fun _ _ _ h => h) (.inl HS) (Or.inl ⟨by simp [Region.wanted], ?_⟩) ?_
  · intro w; go_simp
  refine Rest.take (i := 3) (v := .pointer (some ⟨g, 0, none⟩)) rfl (by kernel_rfl) (by kernel_rfl) (by kernel_rfl) (by kernel_rfl) (fun _ _ _ h => h) (.inl HS) (Or.inl ⟨by simp [Region.wanted], ?_⟩) ?_
  · intro w; go_simp
  refine Rest.takeS (i := 4) (v := .slice (some ⟨gN, 0, none⟩) hs.length c) rfl (by kernel_rfl) (by kernel_rfl) (by kernel_rfl) (by kernel_rfl) (fun _ _ _ h => h) HS (.inl ⟨by simp [Region.wanted], ?_⟩) ?_
  · intro w' hw; have hx0 := hq0 w' hw; go_simp
  refine Rest.take (i := 5) (v := .pointer (some ⟨w.heap.size, 1, none⟩)) rfl (by kernel_rfl) (by kernel_rfl) (by kernel_rfl) (by kernel_rfl) (fun _ _ _ h => h) (.inl HS) (Or.inl ⟨by simp [Region.wanted], ?_⟩) ?_
  · intro w; go_simp
  refine Rest.takeS (i := 6) (v := .int .i64 (i : Int)) rfl (by kernel_rfl) (by kernel_rfl) (by kernel_rfl) (by kernel_rfl) (fun _ _ _ h => h) HS (.inl ⟨by simp [Region.wanted], ?_⟩) ?_
  · intro w' hw; have hx0 := hq1 w' hw; go_simp
  refine Rest.take (i := 7) (v := .pointer (some ⟨gN, i * 9, none⟩)) rfl (by kernel_rfl) (by kernel_rfl) (by kernel_rfl) (by kernel_rfl) (fun _ _ _ h => h) (.inl HS) (Or.inl ⟨by simp [Region.wanted], ?_⟩) ?_
  · intro w; go_simp
  refine Rest.takeS (i := 8) (v := .agg (holV x)) rfl (by kernel_rfl) (by kernel_rfl) (by kernel_rfl) (by kernel_rfl) (fun _ _ _ h => h) HS (yields_loadM rowHol (by simp [Region.wanted]) _ rfl gN (i * 9) (by simp [Act.eval, Act.put]) _ rfl hq2) ?_
  refine Rest.one (i := 9) (by kernel_rfl) rfl (fun K hK => ?_)
  refine draw_allocH rfl rfl ?_
  intro w2 g9 h9 kz l9 m9
  replace kz : Below w0.heap.size w0 w2 := HS.trans kz
  refine hK _ _ ⟨.inl kz, ?_⟩; clear hK K HS
  replace HS := kz
  refine Rest.one (i := 10) (by kernel_rfl) rfl (fun K hK => ?_)
  (with_reducible refine draw_storeR rowHol ?zgd ?zx ?zy ?zo g9 (holV x) ?zhx ?zhy h9 ?zn ?zold (hol_ones _) ?zh)
  case zo => exact rfl
  case zgd => exact rfl
  case zhx => simp [Act.eval, Act.put]
  case zhy => simp [Act.eval, Act.put]
  case zn => rfl
  case zold => rfl
  case zh =>
  have g3 : Below w0.heap.size w0 (w2.setRow g9 (holV x)) := below_setRow HS (by exact l9) _
  have h3 := setRow_heap _ _ _ (holV x) _ _ h9
  have d3 : (w2.setRow g9 (holV x)).cell? ⟨g9, 7, none⟩ = some (.bool x.x.cr) := by rw [cell_of_row _ _ 7 _ _ _ h3]; rfl
  have d0 : (w2.setRow g9 (holV x)).cell? ⟨g9, 0, none⟩ = some (.bool x.x.has) := by rw [cell_of_row _ _ 0 _ _ _ h3]; rfl
  generalize w2.setRow g9 (holV x) = w3 at *
  refine hK _ _ ⟨.inl g3, ?_⟩; clear hK K HS kz h9 h3
  refine ⟨by kernel_rfl, ?_⟩
  simp [Act.put]
  have q1 := hq1 w3 g3
  have H3 := hid (H0.out.below g3)
  clear hq0 hq1 hq2
  have kF := free_any H3.out HI.out
  have g4 := bstep g0 g3
  cases hcr : x.x.cr
  · cases hha : x.x.has
    · have hU2 := hid hcr
      have hU3 := hid hha
      rw [hcr] at d3
      rw [hha] at d0
      clear hcr hha
      go_wp2
      go_ret
      exact MetR.no H.out (by rw [hU.out, hU2.out, hU3.out]; rfl) g4
    · have hU2 := hid hcr
      have hU3 := hid hha
      rw [hcr] at d3
      rw [hha] at d0
      clear hcr hha
      go_wp2_with (go_at_call 33; with_reducible refine kF.mono ?_; rintro e w4 ⟨rfl, h4, k4⟩)
      go_ret
      refine MetR.yes (by rw [hU.out, hU2.out, hU3.out]; rfl) h4 (by rw [lb_set]; unfold freeH; dsimp only; rw [hU2.out]) ?_ (fun b hb => .inl (BuS.same HI.out hb (.inr rfl)))
      exact (Ch.of_below g4).trans (S1 := fun b => b = gN) k4 (fun b hb => .inl (.inr (.inl hb)))
  · have hU2 := hid hcr
    rw [hcr] at d3
    clear hcr
    go_wp2
    go_ret
    exact MetR.no H.out (by rw [hU.out, hU2.out]; rfl) g4
end
end Go.Proofs.Ytihafoeimpjdaaa

namespace Go.Proofs.Ytihafoeimpjdaaa
open Go.RowKit Go.Sort
set_option linter.unusedVariables false
set_option linter.unusedSimpArgs false

/-- A number among others. -/
abbrev ivN (k : Nat) : Value := .int .i64 (k : Int)
theorem tN : ElT Try.prog 37 3 (.int .i64 0) 8 := ⟨by kernel_rfl, by kernel_rfl, by kernel_rfl, by kernel_rfl, by kernel_rfl⟩

/-- What holds of each bus that was made so. -/
structure LbK (s : Lb) : Prop where
  tk : ∀ x ∈ s.ns, x.took.length = if x.has then s.ns.length else 0
  n2 : 2 ≤ s.ns.length
  n32 : s.ns.length ≤ 32
  da : ∀ x ∈ s.ns, x.fr.data.length ≤ 1000

def misP (s : Lb) (i : Nat) (x : Ln) (j : Nat) : Bool := decide (j ≠ i) && (match s.ns[j]? with | some y => y.up | none => false) && !(x.took[j]?.getD false)
def misK (s : Lb) (i : Nat) (x : Ln) (k : Nat) : List Nat := (List.range k).filter (misP s i x)
theorem misK_succ (s : Lb) (i : Nat) (x : Ln) (k : Nat) : misK s i x (k + 1) = misK s i x k ++ (if misP s i x k then [k] else []) := by
  unfold misK
  rw [List.range_succ, List.filter_append]
  cases h : misP s i x k <;> simp [h]
theorem misK_len (s : Lb) (i : Nat) (x : Ln) (k : Nat) : (misK s i x k).length ≤ k := by
  have := List.length_filter_le (misP s i x) (List.range k)
  rwa [List.length_range] at this
theorem misL_at {s : Lb} {i : Nat} {x : Ln} (h : LbK s) (hx : s.ns[i]? = some x) : misK s i x x.took.length = misL s i := by
  have ht := h.tk x (List.mem_of_getElem? hx)
  unfold misL
  rw [hx]
  rw [ht]
  show misK s i x _ = if x.has = true then misK s i x s.ns.length else []
  cases hh : x.has
  · rfl
  · rfl
section
variable {B : Nat} {w w1 : World} {g gN c sil i : Nat} {hs : List Hol} {x y : Hol} {m : Ma}

set_option maxRecDepth 100000 in
set_option maxHeartbeats 2000000 in
theorem missing_at (h : BuM B w g gN c hs sil) (hi : hs[i]? = some x) (hK : LbK (lbOf hs sil)) :
    Calls Try.prog 15 #[.pointer (some ⟨g, 0, none⟩), .int .i64 (i : Int)] w fun e w' => ∃ a c, e = .returned (.slice a (misL (lbOf hs sil) i).length c) ∧ OL ivN 3 w.heap.size w' a (misL (lbOf hs sil) i).length c (misL (lbOf hs sil) i) ∧ Below w.heap.size w w' := by
  rw [← misL_at hK (lb_at hi)]
  obtain ⟨T, hT⟩ : ∃ T, T = x.x.took.length := ⟨_, rfl⟩
  obtain ⟨TA, hTA⟩ : ∃ TA, TA = x.ta := ⟨_, rfl⟩
  have hT32 : T ≤ hs.length := by
    have h1 := hK.tk x.x (List.mem_of_getElem? (lb_at (sil := sil) hi))
    rw [lb_len] at h1
    rw [hT, h1]; split <;> omega
  have hn32 : hs.length ≤ 32 := by have := hK.n32; rwa [lb_len] at this
  have hn := (List.getElem?_eq_some_iff.1 hi).1
  have i1 : (i : Int) < (hs.length : Int) := by omega
  have q0 := h.two.1
  have c6 : w.cell? ⟨gN, i * 9 + 6, none⟩ = some (.slice TA T x.tc) := by rw [hT, hTA]; exact h.own.cell (j := 6) hi rfl
  have kH := has_any w g gN hs.length c (.int .i64 (sil : Int)) (i : Int) h.box
  rw [decide_eq_true (show 0 ≤ (i : Int) ∧ (i : Int) < (hs.length : Int) by omega)] at kH
  have H := hid h
  have HI := hid hi
  have HT := hid hT
  have HTA := hid hTA
  rw [← hT]
  clear h hi hK hT hTA
  go_enter Try.func15, Try.ntmps15
  go_wp2_with (go_at_call 19; with_reducible refine kH.mono ?_; rintro e w1 ⟨rfl, rfl⟩)
  go_loopg [5, 22] T (fun gn vv vi wr => ∃ (k : Nat) (aa : Option Addr) (cc : Nat), k ≤ T ∧ gn = T - k ∧ vi = .int .i64 (k : Int) ∧ vv = .slice aa (misK (lbOf hs sil) i x.x k).length cc ∧ OL ivN 3 w1.heap.size wr aa (misK (lbOf hs sil) i x.x k).length cc (misK (lbOf hs sil) i x.x k) ∧ Below w1.heap.size w1 wr)
  case atStart => exact ⟨0, none, 0, by omega, by omega, rfl, rfl, OL.nil _ _ _ _, Below.refl _ _⟩
  case round =>
    obtain ⟨k, aa, cc, hk, rfl, rfl, rfl, hol, hb⟩ := hrel
    have hl := misK_len (lbOf hs sil) i x.x k
    by_cases hlt : k < T
    · have hw := H.out.below hb
      have hxm := List.mem_of_getElem? HI.out
      obtain ⟨b0, off, bk, hta, hbk, hck⟩ := ((hw.own.tok x hxm).rl).at (k := k) (by rw [← HT.out]; exact hlt)
      obtain rfl : TA = some ⟨b0, off, none⟩ := HTA.out.trans hta
      clear hta
      have hky : k < hs.length := by omega
      obtain ⟨y, hy⟩ : ∃ y, hs[k]? = some y := ⟨_, List.getElem?_eq_getElem hky⟩
      have kU := up_any hw hy
      have hs1 := misK_succ (lbOf hs sil) i x.x k
      have hp : misP (lbOf hs sil) i x.x k = (decide (k ≠ i) && y.x.up && !bk) := by
        unfold misP
        rw [lb_at hy, hbk]; rfl
      rw [hp] at hs1
      have hs2 := hid hs1
      have HB := hid hb
      have HL := hid hol
      clear hs1 hp hbk
      have kpt : (k : Int) < (T : Int) := by omega
      have hs0 := hb.size
      by_cases hki : k = i
      · have e : misK (lbOf hs sil) i x.x (k + 1) = misK (lbOf hs sil) i x.x k := by rw [hs2.out]; simp [hki]
        have E := hid e
        have ne0 : ((k : Int) != (i : Int)) = false := by simp [hki]
        clear hki e kU
        go_wp2
        go_roundg (T - (k + 1))
        case measure => omega
        case rel =>
          refine ⟨k + 1, aa, cc, by omega, rfl, by first | rfl | simp, ?_, ?_, HB.out⟩
          · rw [E.out]
          · rw [E.out]; exact HL.out
      · have ne0 : ((k : Int) != (i : Int)) = true := by simp [show ¬ (k : Int) = (i : Int) by omega]
        have hd : decide (k ≠ i) = true := decide_eq_true hki
        cases hup : y.x.up
        · have e : misK (lbOf hs sil) i x.x (k + 1) = misK (lbOf hs sil) i x.x k := by rw [hs2.out, hup]; simp
          have E := hid e
          rw [hup] at kU
          clear hki e hd hup
          go_wp2_with (go_at_call 22; with_reducible refine kU.mono ?_; rintro e w2 ⟨rfl, g2⟩)
          go_roundg (T - (k + 1))
          case measure => omega
          case rel =>
            refine ⟨k + 1, aa, cc, by omega, rfl, by first | rfl | simp, ?_, ?_, bstep HB.out g2⟩
            · rw [E.out]
            · rw [E.out]; exact HL.out.below g2
        · cases bk
          · have e : misK (lbOf hs sil) i x.x (k + 1) = misK (lbOf hs sil) i x.x k ++ [k] := by rw [hs2.out, hup, hd]; simp
            have E := hid e
            rw [hup] at kU
            clear hki e hd hup
            generalize misK (lbOf hs sil) i x.x k = M at *
            go_wp2_with (first
              | (go_at_call 22; with_reducible refine kU.mono ?_; rintro e w2 ⟨rfl, g2⟩
                 have hol2 := HL.out.below g2
                 have g02 := bstep HB.out g2
                 have s2 := g02.size)
              | (at_builtin; refine wpList_app (f := ivN) tN rfl _ _ rfl rfl (hol2.alloc _) rfl (ol_lit ivN _ w1.heap.size w2 [k] _ 1 rfl rfl (by omega) s2).rl (fun _ => rfl) (by omega) (by omega) (by simp; omega) ?_; intro w3 a3 c3 hol3 hb3; have hb03 := (g02.alloc s2 (.cells #[.int .i64 (k : Int)] 3)).trans hb3))
            go_roundg (T - (k + 1))
            case measure => omega
            case rel =>
              refine ⟨k + 1, a3, c3, by omega, rfl, by first | rfl | simp, ?_, ?_, hb03⟩
              · rw [E.out]; simp
              · rw [E.out, List.length_append]; exact hol3
          · have e : misK (lbOf hs sil) i x.x (k + 1) = misK (lbOf hs sil) i x.x k := by rw [hs2.out]; simp
            have E := hid e
            rw [hup] at kU
            clear hki e hd hup
            go_wp2_with (go_at_call 22; with_reducible refine kU.mono ?_; rintro e w2 ⟨rfl, g2⟩)
            go_roundg (T - (k + 1))
            case measure => omega
            case rel =>
              refine ⟨k + 1, aa, cc, by omega, rfl, by first | rfl | simp, ?_, ?_, bstep HB.out g2⟩
              · rw [E.out]
              · rw [E.out]; exact HL.out.below g2
    · obtain rfl : k = T := by omega
      go_wp2
      go_ret
      exact ⟨_, _, rfl, hol, hb⟩
end
end Go.Proofs.Ytihafoeimpjdaaa

namespace Go.Proofs.Ytihafoeimpjdaaa
open Go.RowKit Go.Sort
set_option linter.unusedVariables false
set_option linter.unusedSimpArgs false

theorem OK.congr {α : Type} {enc : α → List Value} {k B n c : Nat} {E : TypeId} {w : World} {a : Option Addr} {l l' : List α} (h : OK enc k E B w a n c l) (he : l'.flatMap enc = l.flatMap enc) (hl : l'.length = l.length) : OK enc k E B w a n c l' :=
  ⟨hl.trans h.len, h.cap, by rw [he]; exact h.own⟩
theorem flat_same {α : Type} {enc : α → List Value} {l : List α} {i : Nat} {x y : α} (hi : l[i]? = some x) (he : enc y = enc x) : (l.set i y).flatMap enc = l.flatMap enc := by
  obtain ⟨hn, hx⟩ := List.getElem?_eq_some_iff.1 hi
  rw [List.flatMap_def, List.flatMap_def, List.map_set, he]
  congr 1
  apply List.ext_getElem?
  intro j
  by_cases e : j = i
  · subst e; rw [List.getElem?_set_self (by simpa using hn)]; simp [hi]
  · rw [List.getElem?_set_ne (Ne.symm e)]

def markH (y : Hol) (i : Nat) : Hol := { y with x := { y.x with took := y.x.took.set i true } }

section
variable {B : Nat} {w w1 : World} {g gN c sil i j bt : Nat} {hs : List Hol} {x y : Hol} {m : Ma}

theorem BuM.marked (h : BuM B w g gN c hs sil) (hj : hs[j]? = some y) (hta : y.ta = some ⟨bt, 0, none⟩) : BuM B (w.setCell ⟨bt, i, none⟩ (.bool true)) g gN c (hs.set j (markH y i)) sil := by
  have hy := List.mem_of_getElem? hj
  have hn := (List.getElem?_eq_some_iff.1 hj).1
  have k : ∀ b, b ≠ bt → (w.setCell ⟨bt, i, none⟩ (.bool true)).heap[b]? = w.heap[b]? := fun b hb => Below.heap_setCell _ _ _ _ hb
  have e1 : gN ≠ bt := fun e => h.own.tn y hy _ hta (by simpa using e.symm)
  have e2 : g ≠ bt := fun e => h.gt y hy _ hta (by simpa using e.symm)
  have hg : ∀ z ∈ hs.set j (markH y i), z = markH y i ∨ ∃ l, l ≠ j ∧ hs[l]? = some z := fun z hz => by
    obtain ⟨l, hl⟩ := List.getElem?_of_mem hz
    by_cases e : l = j
    · subst e; rw [List.getElem?_set_self hn] at hl; exact .inl (Option.some.inj hl).symm
    · rw [List.getElem?_set_ne (Ne.symm e)] at hl; exact .inr ⟨l, e, hl⟩
  have hm : ∀ z ∈ hs.set j (markH y i), ∃ z', z' ∈ hs ∧ z.ta = z'.ta ∧ z.da = z'.da ∧ z.x.fr = z'.x.fr ∧ z.dc = z'.dc := fun z hz => by
    rcases List.mem_or_eq_of_mem_set hz with hz | rfl
    · exact ⟨z, hz, rfl, rfl, rfl, rfl⟩
    · exact ⟨y, hy, rfl, rfl, rfl, rfl⟩
  have hi' : ∀ (l : Nat) (z : Hol), (hs.set j (markH y i))[l]? = some z → ∃ z', hs[l]? = some z' ∧ z.ta = z'.ta := fun l z hz => by
    by_cases e : l = j
    · subst e; rw [List.getElem?_set_self hn] at hz; cases hz; exact ⟨y, hj, rfl⟩
    · rw [List.getElem?_set_ne (Ne.symm e)] at hz; exact ⟨z, hz, rfl⟩
  refine ⟨by rw [k g e2, List.length_set]; exact h.box, ⟨?_, fun z hz => ?_, fun z hz => ?_, fun z hz => ?_, fun z hz => ?_, fun z hz u hu p q hp hq => ?_, fun l l' z u p q hll hz hu hp hq => ?_, fun z hz => ?_, fun z hz => ?_⟩, h.gB, h.gn, fun z hz => ?_, fun z hz => ?_⟩
  · rw [List.length_set]
    exact OK.congr (h.own.row.kept fun q hq => by cases hq; exact k gN e1) (flat_same hj (by unfold enHol markH; simp)) (by simp)
  · rcases hg z hz with rfl | ⟨l, hl, hz'⟩
    · have ht := h.own.tok y hy
      rw [hta] at ht
      have := OL.set (i := i) ht true
      show OL _ _ _ _ y.ta (y.x.took.set i true).length _ _
      rw [hta, List.length_set]; exact this
    · exact (h.own.tok z (List.mem_of_getElem? hz')).kept fun q hq => k q (fun e => h.own.tt l j z y _ _ hl hz' hj hq hta (by simpa using e))
  · obtain ⟨z', h1, h2, h3, h4, h5⟩ := hm z hz
    rw [h3, h4, h5]
    exact (h.own.dat z' h1).kept fun q hq => k q (fun e => h.own.dt z' h1 y hy _ _ hq hta (by simpa using e))
  · obtain ⟨z', h1, h2, h3, h4, h5⟩ := hm z hz; rw [h2]; exact h.own.tn z' h1
  · obtain ⟨z', h1, h2, h3, h4, h5⟩ := hm z hz; rw [h3]; exact h.own.dn z' h1
  · obtain ⟨z', h1, h2, h3, h4, h5⟩ := hm z hz
    obtain ⟨u', g1, g2, g3, g4, g5⟩ := hm u hu
    exact h.own.dt z' h1 u' g1 p q (h3 ▸ hp) (g2 ▸ hq)
  · obtain ⟨z', h1, h2⟩ := hi' l z hz
    obtain ⟨u', g1, g2⟩ := hi' l' u hu
    exact h.own.tt l l' z' u' p q hll h1 g1 (h2 ▸ hp) (g2 ▸ hq)
  · obtain ⟨z', h1, h2, h3, h4, h5⟩ := hm z hz; rw [h4]; exact h.own.id z' h1
  · obtain ⟨z', h1, h2, h3, h4, h5⟩ := hm z hz; rw [h4]; exact h.own.dl z' h1
  · obtain ⟨z', h1, h2, h3, h4, h5⟩ := hm z hz; rw [h2]; exact h.gt z' h1
  · obtain ⟨z', h1, h2, h3, h4, h5⟩ := hm z hz; rw [h3]; exact h.gd z' h1

/-- One more is counted. -/
theorem BuM.more (h : BuM B w g gN c hs sil) (v : Value) (hv : v = .int .i64 ((sil + 1 : Nat) : Int)) : BuM B (w.setCell ⟨g, 1, none⟩ v) g gN c hs (sil + 1) := by
  subst hv
  have k : ∀ b, b ≠ g → (w.setCell ⟨g, 1, none⟩ (.int .i64 ((sil + 1 : Nat) : Int))).heap[b]? = w.heap[b]? := fun b hb => Below.heap_setCell _ _ _ _ hb
  refine ⟨heap_setCell_same w g 1 _ _ _ h.box, ⟨h.own.row.kept fun q hq => ?_, fun z hz => (h.own.tok z hz).kept fun q hq => ?_, fun z hz => (h.own.dat z hz).kept fun q hq => ?_, h.own.tn, h.own.dn, h.own.dt, h.own.tt, h.own.id, h.own.dl⟩, h.gB, h.gn, h.gt, h.gd⟩
  · cases hq; exact k _ (Ne.symm h.gn)
  · exact k q fun e => h.gt z hz _ hq (by simpa using e)
  · exact k q fun e => h.gd z hz _ hq (by simpa using e)

set_option maxRecDepth 100000 in
set_option maxHeartbeats 1000000 in
theorem sent_any (h : BuM B w g gN c hs sil) (hK : LbK (lbOf hs sil)) (hsl : sil ≤ 1000000000) (hi : hs[i]? = some x) (hm : m.node = (i : Int)) (hwh : m.what = 5) :
    Calls Try.prog 28 #[.pointer (some ⟨g, 0, none⟩), .agg (mayV m)] w (MetR B w g gN c hs sil m.ev) := by
  obtain ⟨w0, hw0, hb0, g0⟩ := boxMay w m
  have h0 := h.below g0
  have hn := (List.getElem?_eq_some_iff.1 hi).1
  have i1 : (i : Int) < (hs.length : Int) := by omega
  have c1 : w0.cell? ⟨w.heap.size, 1, none⟩ = some (.int .i64 (i : Int)) := by rw [← hm]; exact (may_cells hb0).2.1
  have d1 := cell_regrown c1
  have d0 := cell_regrown h0.two.1
  have c2 : w0.cell? ⟨gN, i * 9, none⟩ = some (.bool x.x.has) := h0.own.cell (j := 0) hi rfl
  have d2 := cell_regrown c2
  have kU : ∀ d os, Calls Try.prog 22 #[.pointer (some ⟨g, 0, none⟩), .int .i64 (i : Int)] (grow (redrawn w0 d) os) fun e w'' => e = .returned (.bool x.x.up) ∧ ∃ p : Regrown, w'' = grow (redrawn w0 p.d) p.os := fun d os =>
    Calls.regrown_of (up_any (h0.below (below_regrown _ _ _)) hi)
  have H := hid h
  have H0 := hid h0
  have HI := hid hi
  have HM := hid hm
  have HK := hid hK
  have hU := hid (stL_sent (s := lbOf hs sil) (e := m.ev) hm (lb_at hi) hwh)
  clear h h0 hi hm hwh hK c1 c2
  cases hup : x.x.up
  · rw [hup] at kU
    have hU2 := hid hup
    clear hup
    go_enter Try.func28, Try.ntmps28
    go_wp2_with (rw [hw0.out])
    refine wp_region_quiet_below (by kernel_rfl) (by kernel_rfl) ?_
    repeat (go_big_quiet_step (first
      | (go_at_call 22; with_reducible exact kU _ _)))
    refine wpQuiet_nil ?_
    intro w9 hw9
    have g9 : Below w0.heap.size w0 w9 := by obtain ⟨p9, rfl⟩ := hw9; exact below_regrown _ _ _
    clear hw9 kU d0 d1 d2
    go_wp2
    go_ret
    exact MetR.no H.out (by rw [hU.out, hU2.out]; rfl) (bstep g0 g9)
  · rw [hup] at kU
    have hU2 := hid hup
    clear hup
    cases hha : x.x.has
    · rw [hha] at d2
      have hU3 := hid hha
      clear hha
      go_enter Try.func28, Try.ntmps28
      go_wp2_with (rw [hw0.out])
      refine wp_region_quiet_below (by kernel_rfl) (by kernel_rfl) ?_
      repeat (go_big_quiet_step (first
        | (go_at_call 22; with_reducible exact kU _ _)))
      refine wpQuiet_nil ?_
      intro w9 hw9
      have g9 : Below w0.heap.size w0 w9 := by obtain ⟨p9, rfl⟩ := hw9; exact below_regrown _ _ _
      clear hw9 kU d0 d1 d2
      go_wp2
      go_ret
      exact MetR.no H.out (by rw [hU.out, hU2.out, hU3.out]; rfl) (bstep g0 g9)
    · rw [hha] at d2
      have hU3 := hid hha
      clear hha
      go_enter Try.func28, Try.ntmps28
      go_wp2_with (rw [hw0.out])
      refine wp_region_quiet_below (by kernel_rfl) (by kernel_rfl) ?_
      repeat (go_big_quiet_step (first
        | (go_at_call 22; with_reducible exact kU _ _)))
      refine wpQuiet_nil ?_
      intro w9 hw9
      have g9 : Below w0.heap.size w0 w9 := by obtain ⟨p9, rfl⟩ := hw9; exact below_regrown _ _ _
      clear hw9 kU d0 d1 d2
      have h9 := H0.out.below g9
      have c1 : w9.cell? ⟨w.heap.size, 1, none⟩ = some (.int .i64 (i : Int)) := by rw [← HM.out]; exact (may_cells (bx_below hb0 g9)).2.1
      have kM := missing_at h9 HI.out HK.out
      obtain ⟨M, hM⟩ : ∃ M, M = misL (lbOf hs sil) i := ⟨_, rfl⟩
      rw [← hM] at kM
      have HMi := hid hM
      have H9 := hid h9
      clear hM h9
      cases M with
      | nil =>
        have e0 : lbOf (hs.set i (freeH x)) sil = { setL (lbOf hs sil) i { x.x with has := false, fr := zeroFr, took := [] } with sil := (lbOf hs sil).sil + (if misL (lbOf hs sil) i = [] then 0 else 1) } := by
          rw [if_pos HMi.out.symm, lb_set]; rfl
        have E0 := hid e0
        clear e0
        go_wp2_with (first
          | (go_at_call 15; with_reducible refine kM.mono ?_; rintro e w10 ⟨a10, k10, rfl, o10, g10⟩
             have h10 := H9.out.below g10
             have c2 : w10.cell? ⟨w.heap.size, 1, none⟩ = some (.int .i64 (i : Int)) := by rw [← HM.out]; exact (may_cells (bx_below (bx_below hb0 g9) g10)).2.1
             have kF := free_any h10 HI.out
             clear c1 h10)
          | (go_at_call 33; with_reducible refine kF.mono ?_; rintro e w11 ⟨rfl, h11, k11⟩))
        go_ret
        refine MetR.yes (by rw [hU.out, hU2.out, hU3.out]; rfl) h11 E0.out ?_ (fun b hb => .inl (BuS.same HI.out hb (.inr rfl)))
        exact (Ch.of_below (bstep (bstep g0 g9) g10)).trans (S1 := fun b => b = gN) k11 (fun b hb => .inl (.inr (.inl hb)))
      | cons z M =>
        have e0 : lbOf (hs.set i (freeH x)) (sil + 1) = { setL (lbOf hs sil) i { x.x with has := false, fr := zeroFr, took := [] } with sil := (lbOf hs sil).sil + (if misL (lbOf hs sil) i = [] then 0 else 1) } := by
          rw [if_neg (by rw [← HMi.out]; simp), lb_set]; rfl
        have E0 := hid e0
        have hL : 0 < (z :: M).length := by simp
        have hd : decide (0 < (z :: M).length) = true := decide_eq_true hL
        have gw : g < w.heap.size := H.out.size
        have hw1 : IntKind.i64.wrap ((sil : Int) + 1) = ((sil + 1 : Nat) : Int) := by
          have : (sil : Int) + 1 = ((sil + 1 : Nat) : Int) := by omega
          rw [this]; exact IntWalk.i64_in _ (by omega)
        generalize (z :: M) = L at *
        clear e0
        go_wp2_with (first
          | (go_at_call 15; with_reducible refine kM.mono ?_; rintro e w10 ⟨a10, k10, rfl, o10, g10⟩
             have h10 := H9.out.below g10
             have c2 : w10.cell? ⟨w.heap.size, 1, none⟩ = some (.int .i64 (i : Int)) := by rw [← HM.out]; exact (may_cells (bx_below (bx_below hb0 g9) g10)).2.1
             have s1 := h10.two.2
             have f1 := bx_thaw h10.box 1
             have c3 : (w10.setCell ⟨g, 1, none⟩ (.int .i64 ((sil : Int) + 1))).cell? ⟨w.heap.size, 1, none⟩ = some (.int .i64 (i : Int)) := by
               rw [← HM.out]
               exact (may_cells ((Below.heap_setCell _ _ _ _ (by dsimp only; omega)).trans (bx_below (bx_below hb0 g9) g10))).2.1
             have h12 := h10.more (.int .i64 ((sil : Int) + 1)) rfl
             have kF := free_any h12 HI.out
             clear c1 h10)
          | (go_at_call 33; with_reducible refine kF.mono ?_; rintro e w11 ⟨rfl, h11, k11⟩))
        go_ret
        refine MetR.yes (by rw [hU.out, hU2.out, hU3.out]; rfl) h11 E0.out ?_ (fun b hb => .inl (BuS.same HI.out hb (.inr rfl)))
        exact ((Ch.of_below (bstep (bstep g0 g9) g10)).setCell (p := ⟨g, 1, none⟩) (.inl (.inl rfl)) _).trans (S1 := fun b => b = gN) k11 (fun b hb => .inl (.inr (.inl hb)))
end
end Go.Proofs.Ytihafoeimpjdaaa

namespace Go.Proofs.Ytihafoeimpjdaaa
open Go.RowKit Go.Sort
set_option linter.unusedVariables false
set_option linter.unusedSimpArgs false

section
variable {B : Nat} {w w1 : World} {g gN c sil i j bt : Nat} {hs : List Hol} {x y : Hol} {m : Ma}

theorem BuS.mark (hj : hs[j]? = some y) {b : Nat} (hb : BuS g gN (hs.set j (markH y i)) b) : BuS g gN hs b := BuS.same (y := markH y i) hj hb (.inl rfl)

set_option maxRecDepth 100000 in
set_option maxHeartbeats 2000000 in
theorem take_any (h : BuM B w g gN c hs sil) (hK : LbK (lbOf hs sil)) (hi : hs[i]? = some x) (hm : m.node = (i : Int)) (hwh : m.what = 4) :
    Calls Try.prog 27 #[.pointer (some ⟨g, 0, none⟩), .agg (mayV m)] w (MetR B w g gN c hs sil m.ev) := by
  obtain ⟨w0, hw0, hb0, g0⟩ := boxMay w m
  have h0 := h.below g0
  have hn := (List.getElem?_eq_some_iff.1 hi).1
  have i1 : (i : Int) < (hs.length : Int) := by omega
  have c1 : w0.cell? ⟨w.heap.size, 1, none⟩ = some (.int .i64 (i : Int)) := by rw [← hm]; exact (may_cells hb0).2.1
  have d1 := cell_regrown c1
  have d0 := cell_regrown h0.two.1
  have kU : ∀ d os, Calls Try.prog 22 #[.pointer (some ⟨g, 0, none⟩), .int .i64 (i : Int)] (grow (redrawn w0 d) os) fun e w'' => e = .returned (.bool x.x.up) ∧ ∃ p : Regrown, w'' = grow (redrawn w0 p.d) p.os := fun d os =>
    Calls.regrown_of (up_any (h0.below (below_regrown _ _ _)) hi)
  obtain ⟨F, hF⟩ : ∃ F, F = m.frm := ⟨_, rfl⟩
  have c3 : w0.cell? ⟨w.heap.size, 2, none⟩ = some (.int .i64 F) := by rw [hF]; exact (may_cells hb0).2.2
  have d3 := cell_regrown c3
  have kH : ∀ d os, Calls Try.prog 19 #[.pointer (some ⟨g, 0, none⟩), .int .i64 F] (grow (redrawn w0 d) os) fun e w'' => e = .returned (.bool (decide (0 ≤ F ∧ F < (hs.length : Int)))) ∧ ∃ p : Regrown, w'' = grow (redrawn w0 p.d) p.os := fun d os =>
    Calls.regrown_of ((has_any _ g gN hs.length c (.int .i64 (sil : Int)) F (h0.below (below_regrown _ _ _)).box).mono fun e w' he => ⟨he.1, by rw [he.2]; exact Below.refl _ _⟩)
  have hno : (x.x.up = false ∨ F < 0 ∨ (hs.length : Int) ≤ F ∨ F = (i : Int)) → stL (lbOf hs sil) m.ev = none := fun h => stL_takeNo (s := lbOf hs sil) (e := m.ev) hm (lb_at hi) hwh (by rw [lb_len]; show x.x.up = false ∨ m.frm < 0 ∨ (hs.length : Int) ≤ m.frm ∨ m.frm = (i : Int); rw [← hF]; exact h)
  have H := hid h
  have H0 := hid h0
  have HI := hid hi
  have HM := hid hm
  have HF := hid hF
  have HW := hid hwh
  have HK := hid hK
  have HN := hid hno
  clear h h0 hi hm hwh hK c1 c3 hF hno
  cases hup : x.x.up
  · rw [hup] at kU
    have hU2 := hid hup
    clear hup kH
    go_enter Try.func27, Try.ntmps27
    go_wp2_with (rw [hw0.out])
    refine wp_region_quiet_below (by kernel_rfl) (by kernel_rfl) ?_
    repeat (go_big_quiet_step (first
      | (go_at_call 22; with_reducible exact kU _ _)))
    refine wpQuiet_nil ?_
    intro w9 hw9
    have g9 : Below w0.heap.size w0 w9 := by obtain ⟨p9, rfl⟩ := hw9; exact below_regrown _ _ _
    clear hw9 kU d0 d1 d3
    go_wp2
    go_ret
    exact MetR.no H.out (HN.out (.inl hU2.out)) (bstep g0 g9)
  · rw [hup] at kU
    have hU2 := hid hup
    clear hup
    by_cases hin : 0 ≤ F ∧ F < (hs.length : Int)
    · rw [decide_eq_true hin] at kH
      obtain ⟨j, rfl⟩ := Int.eq_ofNat_of_zero_le hin.1
      have hj0 : j < hs.length := by omega
      have j1 : (j : Int) < (hs.length : Int) := hin.2
      clear hin
      by_cases hji : j = i
      · subst hji
        have e0 : ((j : Int) == (j : Int)) = true := by simp
        go_enter Try.func27, Try.ntmps27
        go_wp2_with (rw [hw0.out])
        refine wp_region_quiet_below (by kernel_rfl) (by kernel_rfl) ?_
        repeat (go_big_quiet_step (first
          | (go_at_call 22; with_reducible exact kU _ _)
          | (go_at_call 19; with_reducible exact kH _ _)))
        refine wpQuiet_nil ?_
        intro w9 hw9
        have g9 : Below w0.heap.size w0 w9 := by obtain ⟨p9, rfl⟩ := hw9; exact below_regrown _ _ _
        clear hw9 kU kH d0 d1 d3
        go_wp2
        go_ret
        exact MetR.no H.out (HN.out (by simp)) (bstep g0 g9)
      · obtain ⟨y, hy⟩ : ∃ y, hs[j]? = some y := ⟨_, List.getElem?_eq_getElem hj0⟩
        have e0 : ((j : Int) == (i : Int)) = false := by simp; omega
        have c2 : w0.cell? ⟨gN, j * 9, none⟩ = some (.bool y.x.has) := H0.out.own.cell (j := 0) hy rfl
        have d2 := cell_regrown c2
        have hU := hid (stL_take (s := lbOf hs sil) (e := m.ev) HM.out (lb_at HI.out) HW.out HF.out.symm (lb_at hy) hU2.out hji)
        have HY := hid hy
        clear hji c2 hy
        cases hha : y.x.has
        · rw [hha] at d2
          have hU3 := hid hha
          clear hha
          go_enter Try.func27, Try.ntmps27
          go_wp2_with (rw [hw0.out])
          refine wp_region_quiet_below (by kernel_rfl) (by kernel_rfl) ?_
          repeat (go_big_quiet_step (first
            | (go_at_call 22; with_reducible exact kU _ _)
            | (go_at_call 19; with_reducible exact kH _ _)))
          refine wpQuiet_nil ?_
          intro w9 hw9
          have g9 : Below w0.heap.size w0 w9 := by obtain ⟨p9, rfl⟩ := hw9; exact below_regrown _ _ _
          clear hw9 kU kH d0 d1 d2 d3
          go_wp2
          go_ret
          exact MetR.no H.out (by rw [hU.out, hU3.out]; rfl) (bstep g0 g9)
        · rw [hha] at d2
          have hU3 := hid hha
          have hym := List.mem_of_getElem? HY.out
          have htl : y.x.took.length = hs.length := by
            have := HK.out.tk y.x (List.mem_of_getElem? (lb_at (sil := sil) HY.out))
            rw [hha, lb_len] at this
            simpa using this
          have hto := H0.out.own.tok y hym
          obtain ⟨bt, cur, hta, _⟩ : ∃ bt cur, y.ta = some ⟨bt, 0, none⟩ ∧ w0.heap[bt]? = some cur := by
            rcases hto.ex with ⟨_, h2, _⟩ | ⟨bt, cur, h1, _, h3, _⟩
            · omega
            · exact ⟨bt, _, h1, h3⟩
          obtain ⟨bi, hbi⟩ : ∃ bi, y.x.took[i]? = some bi := ⟨_, List.getElem?_eq_getElem (by omega)⟩
          clear hha
          go_enter Try.func27, Try.ntmps27
          go_wp2_with (rw [hw0.out])
          refine wp_region_quiet_below (by kernel_rfl) (by kernel_rfl) ?_
          repeat (go_big_quiet_step (first
            | (go_at_call 22; with_reducible exact kU _ _)
            | (go_at_call 19; with_reducible exact kH _ _)))
          refine wpQuiet_nil ?_
          intro w9 hw9
          have g9 : Below w0.heap.size w0 w9 := by obtain ⟨p9, rfl⟩ := hw9; exact below_regrown _ _ _
          clear hw9 kU kH d0 d1 d2 d3
          have h9 := H0.out.below g9
          have q0 : w9.drew.cell? ⟨g, 0, none⟩ = some (.slice (some ⟨gN, 0, none⟩) hs.length c) := h9.two.1
          have q1 : w9.drew.cell? ⟨w.heap.size, 1, none⟩ = some (.int .i64 (i : Int)) := by rw [← HM.out]; exact (may_cells (bx_below hb0 g9)).2.1
          have q2 : w9.drew.cell? ⟨w.heap.size, 2, none⟩ = some (.int .i64 (j : Int)) := by rw [HF.out]; exact (may_cells (bx_below hb0 g9)).2.2
          have q3 : w9.drew.cell? ⟨gN, j * 9 + 6, none⟩ = some (.slice (some ⟨bt, 0, none⟩) hs.length y.tc) := by
            rw [← hta, ← htl]; exact h9.own.cell (j := 6) HY.out rfl
          have ht9 := h9.own.tok y hym
          rw [hta] at ht9
          have q4 : w9.drew.cell? ⟨bt, i, none⟩ = some (.bool bi) := (ht9.cellAt hbi).1
          have f4 : w9.drew.frozen? ⟨bt, i, none⟩ = false := (ht9.cellAt hbi).2
          have h10 : BuM B w9.drew g gN c hs sil := h9.below (Below.refl _ _).drew
          have h11 := h10.marked (i := i) HY.out hta
          have HH := hid h11
          have HTA := hid hta
          clear h9 ht9 h10 hto htl h11 hbi hta
          go_wp2
          refine wp_region_still_tail 13 (by kernel_rfl) (by kernel_rfl) ?_
          simp only [List.take_succ_cons, List.take_zero, List.drop_succ_cons, List.drop_zero]
          repeat still_step
          refine wpStill_nil ?_
          change wpList _ _ _ _ _ w9.drew
          go_wp2
          go_ret
          refine MetR.yes (by rw [hU.out, hU3.out]; rfl) HH.out (by rw [lb_set]; unfold markH; dsimp only; rw [hU3.out]) ?_ (fun b hb => .inl (BuS.mark HY.out hb))
          exact (Ch.of_below (bstep g0 (g9.drew))).setCell (p := ⟨bt, i, none⟩) (.inl (.inr (.inr ⟨y, hym, ⟨bt, 0, none⟩, HTA.out, rfl⟩))) _
    · rw [decide_eq_false hin] at kH
      have hin2 : F < 0 ∨ (hs.length : Int) ≤ F := by omega
      have HIN := hid hin2
      clear hin hin2
      go_enter Try.func27, Try.ntmps27
      go_wp2_with (rw [hw0.out])
      refine wp_region_quiet_below (by kernel_rfl) (by kernel_rfl) ?_
      repeat (go_big_quiet_step (first
        | (go_at_call 22; with_reducible exact kU _ _)
        | (go_at_call 19; with_reducible exact kH _ _)))
      refine wpQuiet_nil ?_
      intro w9 hw9
      have g9 : Below w0.heap.size w0 w9 := by obtain ⟨p9, rfl⟩ := hw9; exact below_regrown _ _ _
      clear hw9 kU kH d0 d1 d3
      go_wp2
      go_ret
      exact MetR.no H.out (HN.out (.inr (HIN.out.imp id .inl))) (bstep g0 g9)
end
end Go.Proofs.Ytihafoeimpjdaaa

namespace Go.Proofs.Ytihafoeimpjdaaa
open Go.RowKit Go.Sort
set_option linter.unusedVariables false
set_option linter.unusedSimpArgs false

section
variable {P : Program} {md : Region.Mode} {ops : Array Oper} {Q : Exit → Act → World → Prop} {S : World → Prop} {X : List Nat} {i j m : Nat} {oi oj : Oper} {l : Array Bool} {a : Act} {w : World}
/-- Two may come up now: both are walked. -/
theorem Rest.two (hr : Region.ready md ops l = [i, j]) (hi : ops[i]? = some oi) (hj : ops[j]? = some oj)
    (h1 : ∀ K' : Act → World → Prop, (∀ a w, (S w ∨ Thru X (l.setIfInBounds i true)) ∧ Rest P md ops Q S X m (l.setIfInBounds i true) a w → K' a w) → if Region.wanted oi (yielded ops a.tmps) = true then Oper.wp P oi a w K' Q else K' (a.put oi.dst undef) w)
    (h2 : ∀ K' : Act → World → Prop, (∀ a w, (S w ∨ Thru X (l.setIfInBounds j true)) ∧ Rest P md ops Q S X m (l.setIfInBounds j true) a w → K' a w) → if Region.wanted oj (yielded ops a.tmps) = true then Oper.wp P oj a w K' Q else K' (a.put oj.dst undef) w) :
    Rest P md ops Q S X (m + 1) l a w :=
  ⟨fun h0 => (by rw [hr] at h0; cases h0), fun k hk => by
    rw [hr] at hk
    simp only [List.mem_cons, List.not_mem_nil, or_false] at hk
    rcases hk with rfl | rfl
    · exact wpOp_step hi h1
    · exact wpOp_step hj h2⟩
end

end Go.Proofs.Ytihafoeimpjdaaa

namespace Go.Proofs.Ytihafoeimpjdaaa
open Go.RowKit
set_option linter.unusedVariables false

set_option maxRecDepth 100000 in
set_option maxHeartbeats 2000000 in
theorem cloneFr_any (w : World) (id : Nat) (ext rem : Bool) (dlc : Nat) (a : Option Addr) (n c : Nat) (l : List UInt8) (h : RL bv w a n c l) (hn : n ≤ 1000000) :
    Calls Try.prog 21 #[.agg #[.int .u32 (id : Int), .bool ext, .bool rem, .int .u8 (dlc : Int), .slice a n c]] w fun e w' => ∃ a' c', e = .returned (.agg #[.int .u32 (id : Int), .bool ext, .bool rem, .int .u8 (dlc : Int), .slice a' n c']) ∧ OL bv 5 w.heap.size w' a' n c' l ∧ Below w.heap.size w w' := by
  have hb0 : ((w.alloc (.cells #[.int .u32 (id : Int), .bool ext, .bool rem, .int .u8 (dlc : Int), .slice a n c] 34)).alloc (.cells #[.int .u32 0, .bool false, .bool false, .int .u8 0, .slice none 0 0] 34)).heap[w.heap.size]? = some (.cells #[.int .u32 (id : Int), .bool ext, .bool rem, .int .u8 (dlc : Int), .slice a n c] 34 (0, 0)) := bx_alloc _ (heap_alloc_new w _)
  have hr0 : ((w.alloc (.cells #[.int .u32 (id : Int), .bool ext, .bool rem, .int .u8 (dlc : Int), .slice a n c] 34)).alloc (.cells #[.int .u32 0, .bool false, .bool false, .int .u8 0, .slice none 0 0] 34)).heap[w.heap.size + 1]? = some (.cells #[.int .u32 0, .bool false, .bool false, .int .u8 0, .slice none 0 0] 34 (0, 0)) := by
    have := heap_alloc_new (w.alloc (.cells #[.int .u32 (id : Int), .bool ext, .bool rem, .int .u8 (dlc : Int), .slice a n c] 34)) (.cells #[.int .u32 0, .bool false, .bool false, .int .u8 0, .slice none 0 0] 34); rwa [heap_size_alloc] at this
  have g0 : Below w.heap.size w ((w.alloc (.cells #[.int .u32 (id : Int), .bool ext, .bool rem, .int .u8 (dlc : Int), .slice a n c] 34)).alloc (.cells #[.int .u32 0, .bool false, .bool false, .int .u8 0, .slice none 0 0] 34)) := bnew (bnew0 w _) _
  have z0 : ((w.alloc (.cells #[.int .u32 (id : Int), .bool ext, .bool rem, .int .u8 (dlc : Int), .slice a n c] 34)).alloc (.cells #[.int .u32 0, .bool false, .bool false, .int .u8 0, .slice none 0 0] 34)).heap.size = w.heap.size + 2 := by simp
  have q4 := (bx5 hb0).2.2.2.2
  have h0 := h.below g0
  go_enter Try.func21, Try.ntmps21
  go_wp2_with (first
    | (go_at_call 31; refine (cloneY_any _ _ _ _ _ h0 hn).mono ?_; rintro e w1 ⟨a1, c1, rfl, o1, g1⟩
       have hb1 := bx_below hb0 g1
       have hr1 := bx_below hr0 g1
       have gg1 := bstep g0 g1
       have l1 := g1.size
       have f1 := bx_thaw hb1
       clear q4
       have q4 := (bx5 hb1).2.2.2.2
       have hb2 : (w1.setCell ⟨w.heap.size, 4, none⟩ (.slice a1 n c1)).heap[w.heap.size]? = some (.cells #[.int .u32 (id : Int), .bool ext, .bool rem, .int .u8 (dlc : Int), .slice a1 n c1] 34 (0, 0)) := heap_setCell_same w1 _ 4 _ _ _ hb1
       have hr2 : (w1.setCell ⟨w.heap.size, 4, none⟩ (.slice a1 n c1)).heap[w.heap.size + 1]? = some (.cells #[.int .u32 0, .bool false, .bool false, .int .u8 0, .slice none 0 0] 34 (0, 0)) := (Below.heap_setCell _ _ _ _ (by simp)).trans hr1
       have gg2 : Below w.heap.size w (w1.setCell ⟨w.heap.size, 4, none⟩ (.slice a1 n c1)) := gg1.setCell (Nat.le_refl _) _
       have o2 : OL bv 5 (w.heap.size + 2) (w1.setCell ⟨w.heap.size, 4, none⟩ (.slice a1 n c1)) a1 n c1 l := (o1.mono (by omega)).kept fun k hk => Below.heap_setCell _ _ _ _ (by have := (o1.ltB hk).2; dsimp only at this ⊢; omega))
    | (with_reducible refine wpList_loadR rowF rfl _ rfl _ rfl hb2 rfl ?_)
    | (with_reducible refine wpList_storeR rowF rfl _ _ rfl _ _ rfl rfl hr2 rfl rfl (by kernel_rfl) ?_))
  have o3 : OL bv 5 (w.heap.size + 2) ((w1.setCell ⟨w.heap.size, 4, none⟩ (.slice a1 n c1)).setRow (w.heap.size + 1) #[.int .u32 (id : Int), .bool ext, .bool rem, .int .u8 (dlc : Int), .slice a1 n c1]) a1 n c1 l := o2.kept fun k hk => setRow_other _ _ _ _ (by have := (o2.ltB hk).2; dsimp only at this ⊢; omega)
  exact bodyPost_ret (v := .agg #[.int .u32 (id : Int), .bool ext, .bool rem, .int .u8 (dlc : Int), .slice a1 n c1]) (results_row rowF rfl _ _ _ rfl (setRow_heap _ _ _ _ _ _ hr2) rfl) rfl ⟨a1, c1, rfl, o3.mono (by omega), below_setRow gg2 (by omega) _⟩
end Go.Proofs.Ytihafoeimpjdaaa

namespace Go.Proofs.Ytihafoeimpjdaaa
open Go.RowKit Go.Sort
set_option linter.unusedVariables false
set_option linter.unusedSimpArgs false

theorem draw_mkL {α : Type} {f : α → Value} {P : Program} {T E : TypeId} {z : Value} {bytes n : Nat} {ops : Array Oper} {o : Oper} {ac : Act} {w : World} {K : Act → World → Prop} {Q : Exit → Act → World → Prop} {R : Prop} (hT : ElT P T E z bytes) (z0 : α) (hz : z.cells = #[f z0])
    (hgd : o.guard = none) (lo : Operand) (ho : o.op = Op.makeSlice T lo lo) (hl : ac.eval lo = .int .i64 (n : Int)) (h63 : n ≤ 1000000000) (hby : bytes ≤ 64)
    (h : ∀ w' t, OL f E w.heap.size w' (some ⟨t, 0, none⟩) n n (List.replicate n z0) → Below w.heap.size w w' → w.heap.size ≤ t → t < w'.heap.size → K (ac.put o.dst (.slice (some ⟨t, 0, none⟩) n n)) w') :
    if Region.wanted o (yielded ops ac.tmps) = true then Oper.wp P o ac w K Q else R := by
  obtain ⟨i, hi, hz0, hz1, hz2⟩ := info_parts hT.info
  rw [if_pos (by simp [Region.wanted, hgd])]
  have hb2 : ((i.bytes * n : Nat) : Int) ≤ 281474976710656 := by
    have := Nat.mul_le_mul hby h63
    rw [hz2]; omega
  have hr := run_make (P := P) w T E i z hT.und hi hz0 .i64 .i64 n n (by omega) (Int.le_refl _) (by rw [Int.natCast_mul] at hb2; exact hb2) (by omega)
  unfold Oper.wp
  simp [execOp, ho, hl, hr, Result.andThen]
  have hcz : (madeCells z.cells (n * i.size)).toList = (List.replicate n z0).map f := by rw [hz, toList_madeCells_one]; simp [hz1]
  have ho := World.ownsRow_lit (base := w.heap.size) (e := E) (size := 1) w (madeCells z.cells (n * i.size)) n (Nat.le_refl _) (by unfold maxLen; omega) (by rw [size_madeCells, hz1])
  exact h (w.alloc (.cells (madeCells z.cells (n * i.size)) E)) w.heap.size ⟨by simp, Nat.le_refl _, by rw [← hcz]; exact ho⟩ ((Below.refl _ _).alloc (Nat.le_refl _) _) (Nat.le_refl _) (by simp)

theorem draw_set1 {P : Program} {T : TypeId} {ops : Array Oper} {o : Oper} {a : Act} {w : World} {K : Act → World → Prop} {Q : Exit → Act → World → Prop} {R : Prop} (hT : (P.info? T).map (·.size) = some 1) (hgd : o.guard = none) (x y : Operand) (ho : o.op = .store T x y) (b off : Nat) (v : Value)
    (hx : a.eval x = .pointer (some ⟨b, off, none⟩)) (hy : a.eval y = v) (h1 : v.oneCell' = true) (ht : w.there b off 1) (h : K (a.put o.dst undef) (w.setCell ⟨b, off, none⟩ v)) :
    if Region.wanted o (yielded ops a.tmps) = true then Oper.wp P o a w K Q else R := by
  rw [if_pos (by simp [Region.wanted, hgd])]
  have := run_storeCells_cells (P := P) b off [v] 0 w (fun j hj => by simpa using (ht j (by simpa using hj)).1) (fun j hj => by simpa using (ht j (by simpa using hj)).2) (fun u hu => by simp at hu; subst hu; exact h1)
  have hc : v.cells = #[v] := by cases v <;> first | rfl | cases h1
  have hr : (storeVar T ⟨b, off, none⟩ v).run P w = .ok () (w.setCell ⟨b, off, none⟩ v) := by
    cases hq : P.info? T with
    | none => simp [hq] at hT
    | some i =>
      have hs : i.size = 1 := by simpa [hq] using hT
      simp only [Nat.add_zero] at this
      simp [storeVar, sizeOf, typeInfo, hq, hc, hs, this, World.setCells]
  unfold Oper.wp execOp
  simp only [ho, hx, hy, Instr.storeAt, Instr.sureAddr, Sem.run_bind, Sem.run_pure, Result.andThen_ok, hr]
  exact h

def gvH (x : Hol) (m : Ma) (a : Option Addr) (c : Nat) (t n : Nat) : Hol := ⟨{ x.x with has := true, fr := m.fr, took := List.replicate n false }, a, c, some ⟨t, 0, none⟩, n⟩

section
variable {B : Nat} {w w1 : World} {g gN c sil i j bt : Nat} {hs : List Hol} {x y : Hol} {m : Ma}

theorem rl_ch0 {WW : World} {a : Option Addr} {n c gN : Nat} {l : List UInt8} (h : RL bv WW a n c l) (hn : 0 < n → NB a gN) : ∀ v, Ch (fun b => b = gN) WW v → RL bv v a n c l := fun v k => by
  by_cases h0 : 0 < n
  · exact h.ch k fun p hp e => hn h0 p hp e
  · exact ⟨h.len, h.cap, fun h1 => absurd h1 h0⟩
theorem may_range {k : Nat} (h : w.heap[k]? = some (.cells (mayV m) 36 (0, 0))) : w.rangeAt k 3 (frV m.fr m.da m.dc).toList := fun j v hv => by
  have h5 : j < 5 := by have := (List.getElem?_eq_some_iff.1 hv).1; simpa using this
  rw [cell_of_row w k (3 + j) _ _ _ h]
  rcases (show j = 0 ∨ j = 1 ∨ j = 2 ∨ j = 3 ∨ j = 4 by omega) with rfl | rfl | rfl | rfl | rfl <;> simpa using hv
theorem ok_len (h : m.ev.ok = true) : m.fr.data.length ≤ 1000000 := by
  have : riF m.fr.id m.fr.ext m.fr.rem m.fr.dlc m.fr.data.length = true := h
  unfold riF at this
  simp at this
  have h2 := this.2
  unfold lonF at h2
  rw [h2]
  repeat' split
  all_goals omega

section
variable {L : List Hol} {v v3 W : World} {n t : Nat} {a1 : Option Addr} {k1 : Nat}
def g1H (x : Hol) : Hol := { x with x := { x.x with has := true } }
def g2H (x : Hol) (m : Ma) (a : Option Addr) (k : Nat) : Hol := ⟨{ x.x with has := true, fr := m.fr }, a, k, x.ta, x.tc⟩
theorem gv_has (h : OK enHol 9 43 B v (some ⟨gN, 0, none⟩) n c hs) (hi : hs[i]? = some x) : OK enHol 9 43 B (v.setCell ⟨gN, i * 9, none⟩ (.bool true)) (some ⟨gN, 0, none⟩) n c (hs.set i (g1H x)) :=
  OK.setAt enHol_k h hi (j := 0) (by omega) (.bool true) (g1H x) rfl
theorem gv_there (h : OK enHol 9 43 B v (some ⟨gN, 0, none⟩) n c L) (hi : i < n) : v.there gN (i * 9 + 1) 5 := fun j hj => by
  have := h.there enHol_k (i := i) hi (1 + j) (by omega)
  rw [← Nat.add_assoc] at this; exact this
theorem gv_wr {o : Nat} {vs : List Value} (h : v3 = v.setCells gN o vs) : Wr gN v v3 := by rw [h]; exact wr_setCells gN _ _ _
theorem gv_fr (h : OK enHol 9 43 B v (some ⟨gN, 0, none⟩) n c (hs.set i (g1H x))) (hi : hs[i]? = some x) (hv : v3 = v.setCells gN (i * 9 + 1) (frV m.fr a1 k1).toList) : OK enHol 9 43 B v3 (some ⟨gN, 0, none⟩) n c (hs.set i (g2H x m a1 k1)) := by
  have hn := (List.getElem?_eq_some_iff.1 hi).1
  rw [hv]
  have := OK.seg enHol_k h (List.getElem?_set_self hn) (o := 1) (frV m.fr a1 k1).toList (by simp) (g2H x m a1 k1) (by rfl)
  rw [set_set] at this; exact this
theorem gv_fin (h : BuM B W g gN c hs sil) (hi : hs[i]? = some x) (hr : MaR w m) (hrow : OK enHol 9 43 B v (some ⟨gN, 0, none⟩) hs.length c (hs.set i (g2H x m a1 k1))) (k : Ch (fun b => b = gN) W v)
    (hd : OL bv 5 W.heap.size v a1 m.fr.data.length k1 m.fr.data) (ht : OL .bool 4 W.heap.size v (some ⟨t, 0, none⟩) hs.length hs.length (List.replicate hs.length false)) (e1 : gN ≠ t) (e2 : W.heap.size ≤ t) (ap : ∀ p : Addr, a1 = some p → p.block ≠ t) :
    BuM B (v.setCell ⟨gN, i * 9 + 6, none⟩ (.slice (some ⟨t, 0, none⟩) hs.length hs.length)) g gN c (hs.set i (gvH x m a1 k1 t hs.length)) sil
      ∧ Ch (BuS g gN hs) W (v.setCell ⟨gN, i * 9 + 6, none⟩ (.slice (some ⟨t, 0, none⟩) hs.length hs.length))
      ∧ (∀ b, BuS g gN (hs.set i (gvH x m a1 k1 t hs.length)) b → BuS g gN hs b ∨ W.heap.size ≤ b) := by
  have hn := (List.getElem?_eq_some_iff.1 hi).1
  have h0 : 0 < hs.length := by omega
  have hsB := h.own.nlt h0
  have hB : B ≤ W.heap.size := by omega
  have kk : ∀ b, b ≠ gN → (v.setCell ⟨gN, i * 9 + 6, none⟩ (.slice (some ⟨t, 0, none⟩) hs.length hs.length)).heap[b]? = v.heap[b]? := fun b hb => Below.heap_setCell _ _ _ _ hb
  have hrow2 : OK enHol 9 43 B (v.setCell ⟨gN, i * 9 + 6, none⟩ (.slice (some ⟨t, 0, none⟩) hs.length hs.length)) (some ⟨gN, 0, none⟩) hs.length c (hs.set i (gvH x m a1 k1 t hs.length)) := by
    have := OK.setAt enHol_k hrow (List.getElem?_set_self hn) (j := 6) (by omega) (.slice (some ⟨t, 0, none⟩) hs.length hs.length) (gvH x m a1 k1 t hs.length) (by unfold enHol gvH g2H; simp)
    rw [set_set] at this; exact this
  have K : ∀ b, b < W.heap.size → b ≠ gN → (v.setCell ⟨gN, i * 9 + 6, none⟩ (.slice (some ⟨t, 0, none⟩) hs.length hs.length)).heap[b]? = W.heap[b]? := fun b hb hne => (kk b hne).trans (k.block b hb hne)
  have ht2 : OL .bool 4 W.heap.size (v.setCell ⟨gN, i * 9 + 6, none⟩ (.slice (some ⟨t, 0, none⟩) hs.length hs.length)) (some ⟨t, 0, none⟩) hs.length hs.length (List.replicate hs.length false) := ht.kept fun q hq => by cases hq; exact kk _ (Ne.symm e1)
  have hd2 : OL bv 5 W.heap.size (v.setCell ⟨gN, i * 9 + 6, none⟩ (.slice (some ⟨t, 0, none⟩) hs.length hs.length)) a1 m.fr.data.length k1 m.fr.data := hd.kept fun q hq => kk _ (by have := (hd.ltB hq).2; dsimp only at this; omega)
  have da : ∀ p : Addr, a1 = some p → W.heap.size ≤ p.block := fun p hp => (hd.ltB hp).2
  have old : ∀ z ∈ hs, ∀ p : Addr, (z.ta = some p → p.block < W.heap.size) ∧ (z.da = some p → p.block < W.heap.size) := fun z hz p => ⟨fun hp => ((h.own.tok z hz).ltB hp).1, fun hp => ((h.own.dat z hz).ltB hp).1⟩
  refine ⟨⟨by rw [K g h.size h.gn, List.length_set]; exact h.box, h.own.put hi hrow2 K ?_ ?_ ?_ ?_ ?_ ?_ ?_ ?_ hr.id hr.dl, h.gB, h.gn, fun z hz => ?_, fun z hz => ?_⟩, ?_, fun b hb => ?_⟩
  · show OL _ _ _ _ (some ⟨t, 0, none⟩) (List.replicate hs.length false).length _ _
    rw [List.length_replicate]; exact ht2.mono hB
  · exact hd2.mono hB
  · intro p hp; cases hp; exact fun e => e1 (by simpa using e.symm)
  · intro p hp e; have := da p hp; omega
  · intro z hz p q hp hq; have := da p hp; have := (old z hz q).1 hq; omega
  · intro z hz p q hp hq; cases hq; have := (old z hz p).2 hp; dsimp only; omega
  · intro p q hp hq; cases hq; exact ap p hp
  · intro j z p q hj hz hp hq; cases hp; have := (old z (List.mem_of_getElem? hz) q).1 hq; dsimp only; omega
  · rcases List.mem_or_eq_of_mem_set hz with hz | rfl
    · exact h.gt z hz
    · intro p hp; cases hp; intro e; have := h.size; dsimp only at e; omega
  · rcases List.mem_or_eq_of_mem_set hz with hz | rfl
    · exact h.gd z hz
    · intro p hp e; have := da p hp; have := h.size; omega
  · exact (k.mono (S1 := BuS g gN hs) (fun b hb => .inr (.inl hb))).setCell (p := ⟨gN, i * 9 + 6, none⟩) (.inl (.inr (.inl rfl))) _
  · rcases hb with e | e | ⟨z, hz, p, hp, e⟩
    · exact .inl (.inl e)
    · exact .inl (.inr (.inl e))
    · rcases List.mem_or_eq_of_mem_set hz with hz | rfl
      · exact .inl (.inr (.inr ⟨z, hz, p, hp, e⟩))
      · cases hp; exact .inr (by rw [← e]; exact e2)
end

set_option maxRecDepth 100000 in
set_option maxHeartbeats 4000000 in
theorem give_any16 (h : BuM B w g gN c hs sil) (hK : LbK (lbOf hs sil)) (hi : hs[i]? = some x) (hm : m.node = (i : Int)) (hwh : m.what = 1) (hR : MaR w m) (hda : 0 < m.fr.data.length → NB m.da gN) :
    Calls Try.prog 24 #[.pointer (some ⟨g, 0, none⟩), .agg (mayV m)] w (MetR B w g gN c hs sil m.ev) := by
  obtain ⟨w0, hw0, hb0, g0⟩ := boxMay w m
  have h0 := h.below g0
  have hn := (List.getElem?_eq_some_iff.1 hi).1
  have i1 : (i : Int) < (hs.length : Int) := by omega
  have c1 : w0.cell? ⟨w.heap.size, 1, none⟩ = some (.int .i64 (i : Int)) := by rw [← hm]; exact (may_cells hb0).2.1
  have q0 := h0.two.1
  have H := hid h
  have H0 := hid h0
  have HI := hid hi
  have HM := hid hm
  have HK := hid hK
  have HR := hid (hR.below g0)
  have hDA := hid hda
  have hU := hid (stL_give (s := lbOf hs sil) (e := m.ev) hm (lb_at hi) hwh)
  have rM : ∀ q, ((w0.drewN q)).rangeAt w.heap.size 3 (frV m.fr m.da m.dc).toList := fun q j v hv => by
    have h5 : j < 5 := by have := (List.getElem?_eq_some_iff.1 hv).1; simpa using this
    have := cell_of_row (w0.drewN q) w.heap.size (3 + j) _ _ _ (show (w0.drewN q).heap[w.heap.size]? = _ by simpa using hb0)
    rw [this]
    rcases (show j = 0 ∨ j = 1 ∨ j = 2 ∨ j = 3 ∨ j = 4 by omega) with rfl | rfl | rfl | rfl | rfl <;> simpa using hv
  have kR : ∀ w9, Calls Try.prog 32 #[.agg (frV m.fr m.da m.dc)] w9 fun e w' => e = .returned (.bool (m.ev.ok)) ∧ Below w9.heap.size w9 w' := fun w9 => frRight_any w9 m.fr.id m.fr.ext m.fr.rem m.fr.dlc m.da _ m.dc hR.id hR.dl
  have c7 : w0.cell? ⟨gN, i * 9 + 7, none⟩ = some (.bool x.x.cr) := h0.own.cell (j := 7) hi rfl
  have c8 : w0.cell? ⟨gN, i * 9, none⟩ = some (.bool x.x.has) := h0.own.cell (j := 0) hi rfl
  clear h h0 hi hm hwh hK hR hda
  cases hcr : x.x.cr
  · have hU2 := hid hcr
    rw [hcr] at c7
    clear hcr
    cases hha : x.x.has
    · have hU3 := hid hha
      rw [hha] at c8
      clear hha
      cases hok : m.ev.ok
      · rw [hok] at kR
        have hU4 := hid hok
        clear hok
        go_enter Try.func24, Try.ntmps24
        go_wp2_with (first
          | (rw [hw0.out]))
        go_quiet (fail)
        rename_i nq
        have rM2 := rM nq
        go_wp2_with (first
          | (with_reducible refine wpList_loadMW rowF (by simp [Region.wanted, yielded, Act.put]) _ rfl _ _ rfl (frV m.fr m.da m.dc) rM2 rfl ?_)
          | (go_at_call 32; with_reducible refine (kR _).mono ?_; rintro e w2 ⟨rfl, g2⟩))
        go_ret
        exact MetR.no H.out (by rw [hU.out, hU2.out, hU3.out, hU4.out]; rfl) (bstep g0 ((below_drewN (Below.refl _ _) _).trans g2))
      · rw [hok] at kR
        have hU4 := hid hok
        clear hok
        go_enter Try.func24, Try.ntmps24
        go_wp2_with (first
          | (rw [hw0.out]))
        go_quiet (fail)
        rename_i nq
        have rM2 := rM nq
        go_wp2_with (first
          | (with_reducible refine wpList_loadMW rowF (by simp [Region.wanted, yielded, Act.put]) _ rfl _ _ rfl (frV m.fr m.da m.dc) rM2 rfl ?_)
          | (go_at_call 32; with_reducible refine (kR _).mono ?_; rintro e w2 ⟨rfl, g2⟩))
        have g02 : Below w0.heap.size w0 w2 := (below_drewN (Below.refl _ _) nq).trans g2
        have G2 : Below w0.heap.size w0 w2.drew := g02.drew
        have H2 := hid (H0.out.below G2)
        have hb2 := bx_below hb0 G2
        have GG := hid (bstep g0 G2)
        have nK : w.heap.size ≠ gN := by have := (H.out.own.nlt (by omega)).1; omega
        have N0 : gN < w2.drew.heap.size := (H2.out.own.nlt (by omega)).1
        have OR := H2.out.own.row
        have hld4 : ∀ w', Ch (fun b => b = gN) w2.drew w' → w'.rangeAt w.heap.size 3 (frV m.fr m.da m.dc).toList := fun w' k => may_range (k.bx hb2 nK)
        have hld10 : ∀ w', Ch (fun b => b = gN) w2.drew w' → w'.cell? ⟨g, 0, none⟩ = some (.slice (some ⟨gN, 0, none⟩) hs.length c) := fun w' k => by
          rw [cell_of_row w' g 0 _ _ _ (k.bx H2.out.box H2.out.gn)]; rfl
        have HD := hid (rl_ch0 ((HR.out.below G2).dat) hDA.out)
        have h8 : m.fr.data.length ≤ 1000000 := ok_len hU4.out
        have h32 : hs.length ≤ 1000000000 := by have := HK.out.n32; rw [lb_len] at this; omega
        clear rM rM2 kR g2 c1 q0 c7 c8 hb0 g02 G2
        refine Rest.begin (S := fun w' => Ch (fun b => b = gN) w2.drew w') (X := [5, 11, 12]) (by kernel_rfl) ?_
        change Rest _ _ _ _ _ _ _ _ _ w2.drew
        generalize w2.drew = WW at *
        have HS : Ch (fun b => b = gN) WW WW := Ch.refl _ _
        have Z0 : WW.heap.size ≤ WW.heap.size := Nat.le_refl _
        refine Rest.take (i := 0) (v := .pointer (some ⟨gN, i * 9, none⟩)) rfl (by kernel_rfl) (by kernel_rfl) (by kernel_rfl) (by kernel_rfl) (fun _ _ _ h => h) (.inl HS) (Or.inl ⟨by simp [Region.wanted], ?_⟩) ?_
        · intro w; go_simp
        refine Rest.take (i := 1) (v := .pointer (some ⟨gN, i * 9, none⟩)) rfl (by kernel_rfl) (by kernel_rfl) (by kernel_rfl) (by kernel_rfl) (fun _ _ _ h => h) (.inl HS) (Or.inl ⟨by simp [Region.wanted], ?_⟩) ?_
        · intro w; go_simp
        refine Rest.take (i := 2) (v := .pointer (some ⟨gN, i * 9, none⟩)) rfl (by kernel_rfl) (by kernel_rfl) (by kernel_rfl) (by kernel_rfl) (fun _ _ _ h => h) (.inl HS) (Or.inl ⟨by simp [Region.wanted], ?_⟩) ?_
        · intro w; go_simp
        refine Rest.take (i := 3) (v := .pointer (some ⟨w.heap.size, 3, none⟩)) rfl (by kernel_rfl) (by kernel_rfl) (by kernel_rfl) (by kernel_rfl) (fun _ _ _ h => h) (.inl HS) (Or.inl ⟨by simp [Region.wanted], ?_⟩) ?_
        · intro w; go_simp
        refine Rest.takeS (i := 4) (v := .agg (frV m.fr m.da m.dc)) rfl (by kernel_rfl) (by kernel_rfl) (by kernel_rfl) (by kernel_rfl) (fun _ _ _ h => h) HS (yields_loadM rowF (by simp [Region.wanted]) _ rfl w.heap.size 3 (by simp [Act.eval, Act.put]) _ rfl hld4) ?_
        refine Rest.take (i := 6) (v := .pointer (some ⟨g, 0, none⟩)) rfl (by kernel_rfl) (by kernel_rfl) (by kernel_rfl) (by kernel_rfl) (fun _ _ _ h => h) (.inl HS) (Or.inl ⟨by simp [Region.wanted], ?_⟩) ?_
        · intro w; go_simp
        refine Rest.take (i := 7) (v := .pointer (some ⟨g, 0, none⟩)) rfl (by kernel_rfl) (by kernel_rfl) (by kernel_rfl) (by kernel_rfl) (fun _ _ _ h => h) (.inl HS) (Or.inl ⟨by simp [Region.wanted], ?_⟩) ?_
        · intro w; go_simp
        refine Rest.take (i := 8) (v := .pointer (some ⟨g, 0, none⟩)) rfl (by kernel_rfl) (by kernel_rfl) (by kernel_rfl) (by kernel_rfl) (fun _ _ _ h => h) (.inl HS) (Or.inl ⟨by simp [Region.wanted], ?_⟩) ?_
        · intro w; go_simp
        refine Rest.take (i := 9) (v := .pointer (some ⟨g, 0, none⟩)) rfl (by kernel_rfl) (by kernel_rfl) (by kernel_rfl) (by kernel_rfl) (fun _ _ _ h => h) (.inl HS) (Or.inl ⟨by simp [Region.wanted], ?_⟩) ?_
        · intro w; go_simp
        refine Rest.takeS (i := 10) (v := .slice (some ⟨gN, 0, none⟩) hs.length c) rfl (by kernel_rfl) (by kernel_rfl) (by kernel_rfl) (by kernel_rfl) (fun _ _ _ h => h) HS (.inl ⟨by simp [Region.wanted], ?_⟩) ?_
        · intro w' hw; have hx0 := hld10 w' hw; go_simp
        refine Rest.takeS (i := 11) (v := .int .i64 (hs.length : Int)) rfl (by kernel_rfl) (by kernel_rfl) (by kernel_rfl) (by kernel_rfl) (fun _ _ _ h => h) HS (.inl ⟨by simp [Region.wanted], ?_⟩) ?_
        · intro w' hw; have hx0 := hw; go_simp
        refine Rest.two (i := 5) (j := 12) (by kernel_rfl) rfl rfl (fun K hK => ?_) (fun K hK => ?_)
        · refine draw_callF 21 (by kernel_rfl) (by simp [Region.wanted]) _ _ _ rfl (by simp [Act.eval]) #[.agg (frV m.fr m.da m.dc)] (by simp [Act.eval, Act.put]) _ (cloneFr_any _ _ _ _ _ _ _ _ _ (HD.out _ HS) h8) ?_
          rintro q1 v1 ⟨a1, k1, rfl, o1, gc⟩
          refine ⟨_, rfl, ?_⟩
          replace HS := HS.call gc
          replace OR := OR.below gc
          have SZ := gc.size
          have OD : OL bv 5 WW.heap.size v1 a1 m.fr.data.length k1 m.fr.data := o1.mono (by exact Z0)
          replace Z0 := Nat.le_trans Z0 SZ
          clear o1 gc SZ
          refine hK _ _ ⟨.inl HS, ?_⟩; clear hK K
          refine Rest.take (i := 13) (v := .pointer (some ⟨gN, i * 9, none⟩)) rfl (by kernel_rfl) (by kernel_rfl) (by kernel_rfl) (by kernel_rfl) (fun _ _ _ h => h) (.inl HS) (Or.inl ⟨by simp [Region.wanted], ?_⟩) ?_
          · intro w; go_simp
          refine Rest.take (i := 14) (v := .pointer (some ⟨gN, i * 9, none⟩)) rfl (by kernel_rfl) (by kernel_rfl) (by kernel_rfl) (by kernel_rfl) (fun _ _ _ h => h) (.inl HS) (Or.inl ⟨by simp [Region.wanted], ?_⟩) ?_
          · intro w; go_simp
          refine Rest.two (i := 12) (j := 15) (by kernel_rfl) rfl rfl (fun K hK => ?_) (fun K hK => ?_)
          · (with_reducible refine draw_mkL (f := Value.bool) (n := hs.length) tB false ?z2a ?z2b (.tmp 41) ?z2c ?z2d h32 ?z2e ?z2f)
            case z2a => rfl
            case z2b => rfl
            case z2c => exact rfl
            case z2d => simp [Act.eval, Act.put]
            case z2e => omega
            case z2f =>
            intro v2 t o2 gm lt1 lt2
            replace HS := HS.call gm
            replace OR := OR.below gm
            have AP : ∀ p : Addr, a1 = some p → p.block ≠ t := fun p hp => by have := (OD.ltB hp).1; omega
            replace OD := OD.below gm
            have lt3 : gN ≠ t := by omega
            have lt4 : WW.heap.size ≤ t := by omega
            have OT : OL .bool 4 WW.heap.size v2 (some ⟨t, 0, none⟩) hs.length hs.length (List.replicate hs.length false) := o2.mono (by exact Z0)
            replace Z0 := Nat.le_trans Z0 gm.size
            clear o2 gm lt1
            refine hK _ _ ⟨.inr (thru_of (by kernel_rfl)), Rest.of_any _ _ _ _ (thru_of (by kernel_rfl)) ?_⟩; clear hK K
            refine wpAny_ready (rs := [15]) (by kernel_rfl) (by simp) ?_
            refine AllReady.cons rfl (fun K hK => ?_) AllReady.nil
            have TH := OR.there enHol_k (i := i) hn 0 (by omega)
            (with_reducible refine draw_set1 (T := 4) ?z3a ?z3b (.tmp 44) (.const (.bool true)) ?z3c gN (i * 9) (.bool true) ?z3d ?z3e ?z3f ?z3g ?z3h)
            case z3a => kernel_rfl
            case z3b => rfl
            case z3c => exact rfl
            case z3d => simp [Act.eval, Act.put]
            case z3e => rfl
            case z3f => rfl
            case z3g => exact fun j hj => by cases j with | zero => exact TH | succ j => omega
            case z3h =>
            replace OR := gv_has OR HI.out
            replace HS := HS.setCell (p := ⟨gN, i * 9, none⟩) (.inl rfl) (.bool true)
            replace OD := OD.kept fun k hk => Below.heap_setCell _ ⟨gN, i * 9, none⟩ (.bool true) k (by have := (OD.ltB hk).2; dsimp only at this ⊢; omega)
            replace OT := OT.kept fun k hk => Below.heap_setCell _ ⟨gN, i * 9, none⟩ (.bool true) k (by cases hk; exact Ne.symm lt3)
            replace Z0 := Nat.le_trans Z0 (Nat.le_of_eq (sz_set _ ⟨gN, i * 9, none⟩ (.bool true)).symm)
            clear TH
            refine hK _ _ ?_; clear hK K
            refine wpAny_take (i := 16) (v := .pointer (some ⟨gN, i * 9, none⟩)) rfl (by kernel_rfl) (by kernel_rfl) (by kernel_rfl) (fun _ _ _ h => h) (Or.inl ⟨by simp [Region.wanted], ?_⟩) ?_
            · intro w; go_simp
            refine wpAny_take (i := 17) (v := .pointer (some ⟨gN, i * 9 + 1, none⟩)) rfl (by kernel_rfl) (by kernel_rfl) (by kernel_rfl) (fun _ _ _ h => h) (Or.inl ⟨by simp [Region.wanted], ?_⟩) ?_
            · intro w; go_simp
            refine wpAny_ready (rs := [18]) (by kernel_rfl) (by simp) ?_
            refine AllReady.cons rfl (fun K hK => ?_) AllReady.nil
            have TH := gv_there OR hn
            (with_reducible refine draw_setM rowF ?z4a (.tmp 46) (.tmp 35) ?z4b gN (i * 9 + 1) (frV m.fr a1 k1) ?z4c ?z4d TH ?z4e ?z4f ?z4g)
            case z4a => rfl
            case z4b => exact rfl
            case z4c => simp [Act.eval, Act.put]
            case z4d => simp [Act.eval, Act.put]
            case z4e => rfl
            case z4f => exact fr_ones _ _ _
            case z4g =>
            intro v3 hv3
            have gw := gv_wr hv3.out
            replace OR := gv_fr OR HI.out hv3.out
            replace HS := HS.trans (S1 := fun b => b = gN) ⟨gw.os, gw.tape, gw.output, gw.size, gw.block⟩ (fun b hb => .inl hb)
            replace OD := OD.kept fun k hk => gw.block k (OD.ltB hk).1 (by have := (OD.ltB hk).2; dsimp only at this ⊢; omega)
            replace OT := OT.kept fun k hk => gw.block k (OT.ltB hk).1 (by cases hk; exact Ne.symm lt3)
            replace Z0 := Nat.le_trans Z0 gw.size
            clear TH hv3 gw
            refine hK _ _ ?_; clear hK K
            refine wpAny_take (i := 19) (v := .pointer (some ⟨gN, i * 9, none⟩)) rfl (by kernel_rfl) (by kernel_rfl) (by kernel_rfl) (fun _ _ _ h => h) (Or.inl ⟨by simp [Region.wanted], ?_⟩) ?_
            · intro w; go_simp
            refine wpAny_take (i := 20) (v := .pointer (some ⟨gN, i * 9 + 6, none⟩)) rfl (by kernel_rfl) (by kernel_rfl) (by kernel_rfl) (fun _ _ _ h => h) (Or.inl ⟨by simp [Region.wanted], ?_⟩) ?_
            · intro w; go_simp
            refine wpAny_ready (rs := [21]) (by kernel_rfl) (by simp) ?_
            refine AllReady.cons rfl (fun K hK => ?_) AllReady.nil
            have TH := OR.there enHol_k (i := i) hn 6 (by omega)
            (with_reducible refine draw_set1 (T := 41) ?z5a ?z5b (.tmp 48) (.tmp 42) ?z5c gN (i * 9 + 6) (.slice (some ⟨t, 0, none⟩) hs.length hs.length) ?z5d ?z5e ?z5f ?z5g ?z5h)
            case z5a => kernel_rfl
            case z5b => rfl
            case z5c => exact rfl
            case z5d => simp [Act.eval, Act.put]
            case z5e => simp [Act.eval, Act.put]
            case z5f => rfl
            case z5g => exact fun j hj => by cases j with | zero => exact TH | succ j => omega
            case z5h =>
            have FIN := gv_fin H2.out HI.out HR.out OR HS OD OT lt3 lt4 AP
            refine hK _ _ ?_; clear hK K
            refine wpAny_done (by kernel_rfl) ?_ _
            simp [Act.put]
            go_wp2
            go_ret
            exact MetR.yes (by rw [hU.out, hU2.out, hU3.out, hU4.out]; rfl) FIN.1 (by rw [lb_set]; unfold gvH; dsimp only; rw [hU2.out, lb_len]; rfl) ((Ch.of_below GG.out).trans FIN.2.1 (fun b hb => .inl hb)) (fun b hb => (FIN.2.2 b hb).imp id (fun h => Nat.le_trans GG.out.size h))
          · have TH := OR.there enHol_k (i := i) hn 0 (by omega)
            (with_reducible refine draw_set1 (T := 4) ?z6a ?z6b (.tmp 44) (.const (.bool true)) ?z6c gN (i * 9) (.bool true) ?z6d ?z6e ?z6f ?z6g ?z6h)
            case z6a => kernel_rfl
            case z6b => rfl
            case z6c => exact rfl
            case z6d => simp [Act.eval, Act.put]
            case z6e => rfl
            case z6f => rfl
            case z6g => exact fun j hj => by cases j with | zero => exact TH | succ j => omega
            case z6h =>
            replace OR := gv_has OR HI.out
            replace HS := HS.setCell (p := ⟨gN, i * 9, none⟩) (.inl rfl) (.bool true)
            replace OD := OD.kept fun k hk => Below.heap_setCell _ ⟨gN, i * 9, none⟩ (.bool true) k (by have := (OD.ltB hk).2; dsimp only at this ⊢; omega)
            replace Z0 := Nat.le_trans Z0 (Nat.le_of_eq (sz_set _ ⟨gN, i * 9, none⟩ (.bool true)).symm)
            clear TH
            refine hK _ _ ⟨.inl HS, ?_⟩; clear hK K
            refine Rest.take (i := 16) (v := .pointer (some ⟨gN, i * 9, none⟩)) rfl (by kernel_rfl) (by kernel_rfl) (by kernel_rfl) (by kernel_rfl) (fun _ _ _ h => h) (.inl HS) (Or.inl ⟨by simp [Region.wanted], ?_⟩) ?_
            · intro w; go_simp
            refine Rest.take (i := 17) (v := .pointer (some ⟨gN, i * 9 + 1, none⟩)) rfl (by kernel_rfl) (by kernel_rfl) (by kernel_rfl) (by kernel_rfl) (fun _ _ _ h => h) (.inl HS) (Or.inl ⟨by simp [Region.wanted], ?_⟩) ?_
            · intro w; go_simp
            refine Rest.two (i := 12) (j := 18) (by kernel_rfl) rfl rfl (fun K hK => ?_) (fun K hK => ?_)
            · (with_reducible refine draw_mkL (f := Value.bool) (n := hs.length) tB false ?z7a ?z7b (.tmp 41) ?z7c ?z7d h32 ?z7e ?z7f)
              case z7a => rfl
              case z7b => rfl
              case z7c => exact rfl
              case z7d => simp [Act.eval, Act.put]
              case z7e => omega
              case z7f =>
              intro v2 t o2 gm lt1 lt2
              replace HS := HS.call gm
              replace OR := OR.below gm
              have AP : ∀ p : Addr, a1 = some p → p.block ≠ t := fun p hp => by have := (OD.ltB hp).1; omega
              replace OD := OD.below gm
              have lt3 : gN ≠ t := by omega
              have lt4 : WW.heap.size ≤ t := by omega
              have OT : OL .bool 4 WW.heap.size v2 (some ⟨t, 0, none⟩) hs.length hs.length (List.replicate hs.length false) := o2.mono (by exact Z0)
              replace Z0 := Nat.le_trans Z0 gm.size
              clear o2 gm lt1
              refine hK _ _ ⟨.inr (thru_of (by kernel_rfl)), Rest.of_any _ _ _ _ (thru_of (by kernel_rfl)) ?_⟩; clear hK K
              refine wpAny_ready (rs := [18]) (by kernel_rfl) (by simp) ?_
              refine AllReady.cons rfl (fun K hK => ?_) AllReady.nil
              have TH := gv_there OR hn
              (with_reducible refine draw_setM rowF ?z8a (.tmp 46) (.tmp 35) ?z8b gN (i * 9 + 1) (frV m.fr a1 k1) ?z8c ?z8d TH ?z8e ?z8f ?z8g)
              case z8a => rfl
              case z8b => exact rfl
              case z8c => simp [Act.eval, Act.put]
              case z8d => simp [Act.eval, Act.put]
              case z8e => rfl
              case z8f => exact fr_ones _ _ _
              case z8g =>
              intro v3 hv3
              have gw := gv_wr hv3.out
              replace OR := gv_fr OR HI.out hv3.out
              replace HS := HS.trans (S1 := fun b => b = gN) ⟨gw.os, gw.tape, gw.output, gw.size, gw.block⟩ (fun b hb => .inl hb)
              replace OD := OD.kept fun k hk => gw.block k (OD.ltB hk).1 (by have := (OD.ltB hk).2; dsimp only at this ⊢; omega)
              replace OT := OT.kept fun k hk => gw.block k (OT.ltB hk).1 (by cases hk; exact Ne.symm lt3)
              replace Z0 := Nat.le_trans Z0 gw.size
              clear TH hv3 gw
              refine hK _ _ ?_; clear hK K
              refine wpAny_take (i := 19) (v := .pointer (some ⟨gN, i * 9, none⟩)) rfl (by kernel_rfl) (by kernel_rfl) (by kernel_rfl) (fun _ _ _ h => h) (Or.inl ⟨by simp [Region.wanted], ?_⟩) ?_
              · intro w; go_simp
              refine wpAny_take (i := 20) (v := .pointer (some ⟨gN, i * 9 + 6, none⟩)) rfl (by kernel_rfl) (by kernel_rfl) (by kernel_rfl) (fun _ _ _ h => h) (Or.inl ⟨by simp [Region.wanted], ?_⟩) ?_
              · intro w; go_simp
              refine wpAny_ready (rs := [21]) (by kernel_rfl) (by simp) ?_
              refine AllReady.cons rfl (fun K hK => ?_) AllReady.nil
              have TH := OR.there enHol_k (i := i) hn 6 (by omega)
              (with_reducible refine draw_set1 (T := 41) ?z9a ?z9b (.tmp 48) (.tmp 42) ?z9c gN (i * 9 + 6) (.slice (some ⟨t, 0, none⟩) hs.length hs.length) ?z9d ?z9e ?z9f ?z9g ?z9h)
              case z9a => kernel_rfl
              case z9b => rfl
              case z9c => exact rfl
              case z9d => simp [Act.eval, Act.put]
              case z9e => simp [Act.eval, Act.put]
              case z9f => rfl
              case z9g => exact fun j hj => by cases j with | zero => exact TH | succ j => omega
              case z9h =>
              have FIN := gv_fin H2.out HI.out HR.out OR HS OD OT lt3 lt4 AP
              refine hK _ _ ?_; clear hK K
              refine wpAny_done (by kernel_rfl) ?_ _
              simp [Act.put]
              go_wp2
              go_ret
              exact MetR.yes (by rw [hU.out, hU2.out, hU3.out, hU4.out]; rfl) FIN.1 (by rw [lb_set]; unfold gvH; dsimp only; rw [hU2.out, lb_len]; rfl) ((Ch.of_below GG.out).trans FIN.2.1 (fun b hb => .inl hb)) (fun b hb => (FIN.2.2 b hb).imp id (fun h => Nat.le_trans GG.out.size h))
            · have TH := gv_there OR hn
              (with_reducible refine draw_setM rowF ?z10a (.tmp 46) (.tmp 35) ?z10b gN (i * 9 + 1) (frV m.fr a1 k1) ?z10c ?z10d TH ?z10e ?z10f ?z10g)
              case z10a => rfl
              case z10b => exact rfl
              case z10c => simp [Act.eval, Act.put]
              case z10d => simp [Act.eval, Act.put]
              case z10e => rfl
              case z10f => exact fr_ones _ _ _
              case z10g =>
              intro v3 hv3
              have gw := gv_wr hv3.out
              replace OR := gv_fr OR HI.out hv3.out
              replace HS := HS.trans (S1 := fun b => b = gN) ⟨gw.os, gw.tape, gw.output, gw.size, gw.block⟩ (fun b hb => .inl hb)
              replace OD := OD.kept fun k hk => gw.block k (OD.ltB hk).1 (by have := (OD.ltB hk).2; dsimp only at this ⊢; omega)
              replace Z0 := Nat.le_trans Z0 gw.size
              clear TH hv3 gw
              refine hK _ _ ⟨.inl HS, ?_⟩; clear hK K
              refine Rest.one (i := 12) (by kernel_rfl) rfl (fun K hK => ?_)
              (with_reducible refine draw_mkL (f := Value.bool) (n := hs.length) tB false ?z11a ?z11b (.tmp 41) ?z11c ?z11d h32 ?z11e ?z11f)
              case z11a => rfl
              case z11b => rfl
              case z11c => exact rfl
              case z11d => simp [Act.eval, Act.put]
              case z11e => omega
              case z11f =>
              intro v2 t o2 gm lt1 lt2
              replace HS := HS.call gm
              replace OR := OR.below gm
              have AP : ∀ p : Addr, a1 = some p → p.block ≠ t := fun p hp => by have := (OD.ltB hp).1; omega
              replace OD := OD.below gm
              have lt3 : gN ≠ t := by omega
              have lt4 : WW.heap.size ≤ t := by omega
              have OT : OL .bool 4 WW.heap.size v2 (some ⟨t, 0, none⟩) hs.length hs.length (List.replicate hs.length false) := o2.mono (by exact Z0)
              replace Z0 := Nat.le_trans Z0 gm.size
              clear o2 gm lt1
              refine hK _ _ ⟨.inr (thru_of (by kernel_rfl)), Rest.of_any _ _ _ _ (thru_of (by kernel_rfl)) ?_⟩; clear hK K
              refine wpAny_take (i := 19) (v := .pointer (some ⟨gN, i * 9, none⟩)) rfl (by kernel_rfl) (by kernel_rfl) (by kernel_rfl) (fun _ _ _ h => h) (Or.inl ⟨by simp [Region.wanted], ?_⟩) ?_
              · intro w; go_simp
              refine wpAny_take (i := 20) (v := .pointer (some ⟨gN, i * 9 + 6, none⟩)) rfl (by kernel_rfl) (by kernel_rfl) (by kernel_rfl) (fun _ _ _ h => h) (Or.inl ⟨by simp [Region.wanted], ?_⟩) ?_
              · intro w; go_simp
              refine wpAny_ready (rs := [21]) (by kernel_rfl) (by simp) ?_
              refine AllReady.cons rfl (fun K hK => ?_) AllReady.nil
              have TH := OR.there enHol_k (i := i) hn 6 (by omega)
              (with_reducible refine draw_set1 (T := 41) ?z12a ?z12b (.tmp 48) (.tmp 42) ?z12c gN (i * 9 + 6) (.slice (some ⟨t, 0, none⟩) hs.length hs.length) ?z12d ?z12e ?z12f ?z12g ?z12h)
              case z12a => kernel_rfl
              case z12b => rfl
              case z12c => exact rfl
              case z12d => simp [Act.eval, Act.put]
              case z12e => simp [Act.eval, Act.put]
              case z12f => rfl
              case z12g => exact fun j hj => by cases j with | zero => exact TH | succ j => omega
              case z12h =>
              have FIN := gv_fin H2.out HI.out HR.out OR HS OD OT lt3 lt4 AP
              refine hK _ _ ?_; clear hK K
              refine wpAny_done (by kernel_rfl) ?_ _
              simp [Act.put]
              go_wp2
              go_ret
              exact MetR.yes (by rw [hU.out, hU2.out, hU3.out, hU4.out]; rfl) FIN.1 (by rw [lb_set]; unfold gvH; dsimp only; rw [hU2.out, lb_len]; rfl) ((Ch.of_below GG.out).trans FIN.2.1 (fun b hb => .inl hb)) (fun b hb => (FIN.2.2 b hb).imp id (fun h => Nat.le_trans GG.out.size h))
        · (with_reducible refine draw_mkL (f := Value.bool) (n := hs.length) tB false ?z13a ?z13b (.tmp 41) ?z13c ?z13d h32 ?z13e ?z13f)
          case z13a => rfl
          case z13b => rfl
          case z13c => exact rfl
          case z13d => simp [Act.eval, Act.put]
          case z13e => omega
          case z13f =>
          intro v2 t o2 gm lt1 lt2
          replace HS := HS.call gm
          replace OR := OR.below gm
          have lt3 : gN ≠ t := by omega
          have lt4 : WW.heap.size ≤ t := by omega
          have OT : OL .bool 4 WW.heap.size v2 (some ⟨t, 0, none⟩) hs.length hs.length (List.replicate hs.length false) := o2.mono (by exact Z0)
          replace Z0 := Nat.le_trans Z0 gm.size
          clear o2 gm lt1
          refine hK _ _ ⟨.inl HS, ?_⟩; clear hK K
          refine Rest.one (i := 5) (by kernel_rfl) rfl (fun K hK => ?_)
          refine draw_callF 21 (by kernel_rfl) (by simp [Region.wanted]) _ _ _ rfl (by simp [Act.eval]) #[.agg (frV m.fr m.da m.dc)] (by simp [Act.eval, Act.put]) _ (cloneFr_any _ _ _ _ _ _ _ _ _ (HD.out _ HS) h8) ?_
          rintro q1 v1 ⟨a1, k1, rfl, o1, gc⟩
          refine ⟨_, rfl, ?_⟩
          replace HS := HS.call gc
          replace OR := OR.below gc
          have SZ := gc.size
          replace OT := OT.below gc
          have AP : ∀ p : Addr, a1 = some p → p.block ≠ t := fun p hp => by have := (o1.ltB hp).2; omega
          have OD : OL bv 5 WW.heap.size v1 a1 m.fr.data.length k1 m.fr.data := o1.mono (by exact Z0)
          replace Z0 := Nat.le_trans Z0 SZ
          clear o1 gc SZ
          refine hK _ _ ⟨.inr (thru_of (by kernel_rfl)), Rest.of_any _ _ _ _ (thru_of (by kernel_rfl)) ?_⟩; clear hK K
          refine wpAny_take (i := 13) (v := .pointer (some ⟨gN, i * 9, none⟩)) rfl (by kernel_rfl) (by kernel_rfl) (by kernel_rfl) (fun _ _ _ h => h) (Or.inl ⟨by simp [Region.wanted], ?_⟩) ?_
          · intro w; go_simp
          refine wpAny_take (i := 14) (v := .pointer (some ⟨gN, i * 9, none⟩)) rfl (by kernel_rfl) (by kernel_rfl) (by kernel_rfl) (fun _ _ _ h => h) (Or.inl ⟨by simp [Region.wanted], ?_⟩) ?_
          · intro w; go_simp
          refine wpAny_ready (rs := [15]) (by kernel_rfl) (by simp) ?_
          refine AllReady.cons rfl (fun K hK => ?_) AllReady.nil
          have TH := OR.there enHol_k (i := i) hn 0 (by omega)
          (with_reducible refine draw_set1 (T := 4) ?z15a ?z15b (.tmp 44) (.const (.bool true)) ?z15c gN (i * 9) (.bool true) ?z15d ?z15e ?z15f ?z15g ?z15h)
          case z15a => kernel_rfl
          case z15b => rfl
          case z15c => exact rfl
          case z15d => simp [Act.eval, Act.put]
          case z15e => rfl
          case z15f => rfl
          case z15g => exact fun j hj => by cases j with | zero => exact TH | succ j => omega
          case z15h =>
          replace OR := gv_has OR HI.out
          replace HS := HS.setCell (p := ⟨gN, i * 9, none⟩) (.inl rfl) (.bool true)
          replace OD := OD.kept fun k hk => Below.heap_setCell _ ⟨gN, i * 9, none⟩ (.bool true) k (by have := (OD.ltB hk).2; dsimp only at this ⊢; omega)
          replace OT := OT.kept fun k hk => Below.heap_setCell _ ⟨gN, i * 9, none⟩ (.bool true) k (by cases hk; exact Ne.symm lt3)
          replace Z0 := Nat.le_trans Z0 (Nat.le_of_eq (sz_set _ ⟨gN, i * 9, none⟩ (.bool true)).symm)
          clear TH
          refine hK _ _ ?_; clear hK K
          refine wpAny_take (i := 16) (v := .pointer (some ⟨gN, i * 9, none⟩)) rfl (by kernel_rfl) (by kernel_rfl) (by kernel_rfl) (fun _ _ _ h => h) (Or.inl ⟨by simp [Region.wanted], ?_⟩) ?_
          · intro w; go_simp
          refine wpAny_take (i := 17) (v := .pointer (some ⟨gN, i * 9 + 1, none⟩)) rfl (by kernel_rfl) (by kernel_rfl) (by kernel_rfl) (fun _ _ _ h => h) (Or.inl ⟨by simp [Region.wanted], ?_⟩) ?_
          · intro w; go_simp
          refine wpAny_ready (rs := [18]) (by kernel_rfl) (by simp) ?_
          refine AllReady.cons rfl (fun K hK => ?_) AllReady.nil
          have TH := gv_there OR hn
          (with_reducible refine draw_setM rowF ?z16a (.tmp 46) (.tmp 35) ?z16b gN (i * 9 + 1) (frV m.fr a1 k1) ?z16c ?z16d TH ?z16e ?z16f ?z16g)
          case z16a => rfl
          case z16b => exact rfl
          case z16c => simp [Act.eval, Act.put]
          case z16d => simp [Act.eval, Act.put]
          case z16e => rfl
          case z16f => exact fr_ones _ _ _
          case z16g =>
          intro v3 hv3
          have gw := gv_wr hv3.out
          replace OR := gv_fr OR HI.out hv3.out
          replace HS := HS.trans (S1 := fun b => b = gN) ⟨gw.os, gw.tape, gw.output, gw.size, gw.block⟩ (fun b hb => .inl hb)
          replace OD := OD.kept fun k hk => gw.block k (OD.ltB hk).1 (by have := (OD.ltB hk).2; dsimp only at this ⊢; omega)
          replace OT := OT.kept fun k hk => gw.block k (OT.ltB hk).1 (by cases hk; exact Ne.symm lt3)
          replace Z0 := Nat.le_trans Z0 gw.size
          clear TH hv3 gw
          refine hK _ _ ?_; clear hK K
          refine wpAny_take (i := 19) (v := .pointer (some ⟨gN, i * 9, none⟩)) rfl (by kernel_rfl) (by kernel_rfl) (by kernel_rfl) (fun _ _ _ h => h) (Or.inl ⟨by simp [Region.wanted], ?_⟩) ?_
          · intro w; go_simp
          refine wpAny_take (i := 20) (v := .pointer (some ⟨gN, i * 9 + 6, none⟩)) rfl (by kernel_rfl) (by kernel_rfl) (by kernel_rfl) (fun _ _ _ h => h) (Or.inl ⟨by simp [Region.wanted], ?_⟩) ?_
          · intro w; go_simp
          refine wpAny_ready (rs := [21]) (by kernel_rfl) (by simp) ?_
          refine AllReady.cons rfl (fun K hK => ?_) AllReady.nil
          have TH := OR.there enHol_k (i := i) hn 6 (by omega)
          (with_reducible refine draw_set1 (T := 41) ?z17a ?z17b (.tmp 48) (.tmp 42) ?z17c gN (i * 9 + 6) (.slice (some ⟨t, 0, none⟩) hs.length hs.length) ?z17d ?z17e ?z17f ?z17g ?z17h)
          case z17a => kernel_rfl
          case z17b => rfl
          case z17c => exact rfl
          case z17d => simp [Act.eval, Act.put]
          case z17e => simp [Act.eval, Act.put]
          case z17f => rfl
          case z17g => exact fun j hj => by cases j with | zero => exact TH | succ j => omega
          case z17h =>
          have FIN := gv_fin H2.out HI.out HR.out OR HS OD OT lt3 lt4 AP
          refine hK _ _ ?_; clear hK K
          refine wpAny_done (by kernel_rfl) ?_ _
          simp [Act.put]
          go_wp2
          go_ret
          exact MetR.yes (by rw [hU.out, hU2.out, hU3.out, hU4.out]; rfl) FIN.1 (by rw [lb_set]; unfold gvH; dsimp only; rw [hU2.out, lb_len]; rfl) ((Ch.of_below GG.out).trans FIN.2.1 (fun b hb => .inl hb)) (fun b hb => (FIN.2.2 b hb).imp id (fun h => Nat.le_trans GG.out.size h))
    · have hU3 := hid hha
      rw [hha] at c8
      clear hha
      go_enter Try.func24, Try.ntmps24
      go_wp2_with (first
        | (rw [hw0.out]))
      go_quiet (fail)
      go_wp2
      go_ret
      exact MetR.no H.out (by rw [hU.out, hU2.out, hU3.out]; rfl) (below_drewN g0 _)
  · have hU2 := hid hcr
    rw [hcr] at c7
    clear hcr
    go_enter Try.func24, Try.ntmps24
    go_wp2_with (first
      | (rw [hw0.out]))
    go_quiet (fail)
    go_wp2
    go_ret
    exact MetR.no H.out (by rw [hU.out, hU2.out]; rfl) (below_drewN g0 _)
end
end Go.Proofs.Ytihafoeimpjdaaa

namespace Go.Proofs.Ytihafoeimpjdaaa
open Go.RowKit
set_option linter.unusedVariables false

section
variable {α : Type} {enc : α → List Value} {k : Nat} {E T : TypeId} {z : Value} {bytes : Nat} {B : Nat} {w w' : World} {P : Program} {l m : List α} {n c : Nat} {a : Option Addr}

/-- Two rows of the call's own that grow side by side. -/
structure Two (enc : α → List Value) (k : Nat) (E : TypeId) (w0 w : World) (a1 : Option Addr) (n1 c1 : Nat) (l1 : List α) (a2 : Option Addr) (n2 c2 : Nat) (l2 : List α) : Prop where
  r1 : OK enc k E w0.heap.size w a1 n1 c1 l1
  r2 : OK enc k E w0.heap.size w a2 n2 c2 l2
  dis : ∀ p q, a1 = some p → a2 = some q → p.block ≠ q.block
  bel : Below w0.heap.size w0 w

variable {w0 w2 : World} {a1 a2 a' : Option Addr} {n1 n2 c1 c2 n' c' : Nat} {l1 l2 l' : List α}

theorem Two.start (enc : α → List Value) (k : Nat) (E : TypeId) (w0 : World) : Two enc k E w0 w0 none 0 0 [] none 0 0 [] := ⟨OK.nil _ _ _ _ _, OK.nil _ _ _ _ _, (fun p q hp hq => by cases hp), Below.refl _ _⟩
theorem Two.alloc (h : Two enc k E w0 w a1 n1 c1 l1 a2 n2 c2 l2) (o : Obj) : Two enc k E w0 (w.alloc o) a1 n1 c1 l1 a2 n2 c2 l2 := ⟨h.r1.alloc o, h.r2.alloc o, h.dis, h.bel.alloc h.bel.size o⟩
theorem Two.call (h : Two enc k E w0 w a1 n1 c1 l1 a2 n2 c2 l2) (g : Below w.heap.size w w2) : Two enc k E w0 w2 a1 n1 c1 l1 a2 n2 c2 l2 := ⟨h.r1.below g, h.r2.below g, h.dis, bstep h.bel g⟩
theorem Two.sz (h : Two enc k E w0 w a1 n1 c1 l1 a2 n2 c2 l2) : w0.heap.size ≤ w.heap.size := h.bel.size
/-- A block that is newer than a row lies apart from it. -/
theorem Two.nb (h : Two enc k E w0 w a1 n1 c1 l1 a2 n2 c2 l2) {q : Nat} (hq : w.heap.size ≤ q) : NB a1 q := fun p hp e => by
  have := (h.r1.ltB hp).1
  omega
end
end Go.Proofs.Ytihafoeimpjdaaa

namespace Go.Proofs.Ytihafoeimpjdaaa
open Go.RowKit
set_option linter.unusedVariables false

section
variable {α : Type} {enc : α → List Value} {k : Nat} {T E : TypeId} {z : Value} {bytes : Nat} {w : World} {P : Program} {l : List α} {n c : Nat} {a : Option Addr}

theorem cutTo_eq (hT : ElK P T E k z bytes) (hr : RK enc k w a n c l) (kh : IntKind) (h0 : Nat) (h2 : h0 ≤ n) :
    ∃ a', (∀ w', (Instr.sliceAt T (.slice a n c) none (some (.int kh (h0 : Int))) none).run P w' = .ok (.slice a' h0 c) w') ∧ RK enc k w a' h0 c (l.take h0) := by
  obtain ⟨a', he, hr'⟩ := hr.sliced 0 h0 k rfl (Nat.zero_le _) h2
  have hu : P.underlying T = some (.slice (P.elem T)) := by rw [hT.und, hT.el]
  refine ⟨a', fun w' => ?_, by simpa using hr'⟩
  have hrun := run_slice_h (P := P) w' T a n c hu kh h0 (by omega) (by have := hr.cap; omega)
  simp only [Int.toNat_natCast, run_sizeOf_k hT, Result.andThen] at hrun
  rw [run_sliceAt_slice w' T _ _ _ _ hu, hrun, he]; simp

theorem cutFrom_eq (hT : ElK P T E k z bytes) (hr : RK enc k w a n c l) (kl : IntKind) (l0 : Nat) (h2 : l0 ≤ n) :
    ∃ a', (∀ w', (Instr.sliceAt T (.slice a n c) (some (.int kl (l0 : Int))) none none).run P w' = .ok (.slice a' (n - l0) (c - l0)) w') ∧ RK enc k w a' (n - l0) (c - l0) (l.drop l0) := by
  obtain ⟨a', he, hr'⟩ := hr.sliced l0 n k rfl h2 (Nat.le_refl _)
  rw [← hr.len, List.take_length, hr.len] at hr'
  have hu : P.underlying T = some (.slice (P.elem T)) := by rw [hT.und, hT.el]
  refine ⟨a', fun w' => ?_, hr'⟩
  have hrun := run_slice_l (P := P) w' T a n c hu kl l0 (by omega) (by omega)
  simp only [Int.toNat_natCast, run_sizeOf_k hT, Result.andThen] at hrun
  rw [run_sliceAt_slice w' T _ _ _ _ hu, hrun, he]

theorem src_none {size : Nat} {tx e' : TypeId} (hk : P.underlying tx = some (.slice e')) (a : Option Addr) (c : Nat) : Src P size tx (.slice a 0 c) 0 [] w := by
  cases a with
  | none => exact Src.ofNil w hk c
  | some a => exact Src.ofSlice w hk a 0 c [] (by simp) (fun j u h => by simp at h) (fun u h => by cases h)

end
end Go.Proofs.Ytihafoeimpjdaaa

namespace Go.Proofs.Ytihafoeimpjdaaa
open Go.RowKit
set_option linter.unusedVariables false
set_option linter.unusedSimpArgs false

section
variable {α : Type} {enc : α → List Value} {k : Nat} {E T : TypeId} {z : Value} {bytes : Nat} {B : Nat} {w w' : World} {P : Program} {l m : List α} {n c : Nat} {a : Option Addr}

/-- Where an append's result lies. -/
theorem app_whereL (hT : ElK P T E k z bytes) (hk : EnK enc k) {ty : TypeId} {ad : Addr} {n2 c2 : Nat} (hown : OK enc k E B w a n c l) (h0 : 0 < n2) (hlm : m.length = n2) (hnews : ∀ j v, (m.flatMap enc)[j]? = some v → w.cell? (ad.add j) = some v)
    (h63 : n + n2 ≤ 1000000000) (hb64 : (n + n2) * bytes ≤ 140737488355328) {v' : Value} {w' : World}
    (hrun : (Builtin.append_ #[T, T] ty #[.slice a n c, .slice (some ad) n2 c2]).run P w = .ok v' w') : ∃ q N C, v' = .slice (some q) N C ∧ (a = some q ∨ q.block = w.heap.size) := by
  obtain ⟨i, hi, hz0, hz1, hz2⟩ := info_parts hT.info
  have hlen : (m.flatMap enc).length = n2 * i.size := by rw [hz1, flat_len hk, hlm]
  rcases hown.own.2 with ⟨h', hn0⟩ | ⟨g, cap, cur, h', hB, hg, hnc, hcm, hcs, htake⟩
  · simp only [Value.slice.injEq] at h'
    obtain ⟨rfl, rfl, rfl⟩ := h'
    rw [run_append_nil (P := P) w T ty E i z hT.und hi hz0 ad n2 c2 (m.flatMap enc) hlen hnews h0 (by omega) (by rw [hz2]; have hb := hb64; simp only [Nat.zero_add] at hb; omega)] at hrun
    injection hrun with e1 e2
    exact ⟨_, _, _, e1.symm, .inr rfl⟩
  · simp only [Value.slice.injEq, true_and] at h'
    obtain ⟨rfl, rfl⟩ := h'
    by_cases hroom : n + n2 ≤ c
    · have hle : n * k + n2 * k ≤ c * k := by rw [← Nat.add_mul]; exact Nat.mul_le_mul_right k hroom
      rw [run_append_room (P := P) w T ty E i hT.und hi g n c cur hg ad n2 c2 (m.flatMap enc) hlen hnews (flat_one hk m) hroom (by
        rw [hlen, hcs, hz1]; exact hle)] at hrun
      injection hrun with e1 e2
      exact ⟨_, _, _, e1.symm, .inl rfl⟩
    · have holds : ∀ j u, (l.flatMap enc)[j]? = some u → w.cell? ((⟨g, 0, none⟩ : Addr).add j) = some u := hown.own.cells (g := g) rfl
      rw [run_append_grow (P := P) w T ty E i z hT.und hi hz0 ⟨g, 0, none⟩ n c (l.flatMap enc) (by rw [hz1, flat_len hk, hown.len]) holds ad n2 c2 (m.flatMap enc) hlen hnews (by omega) (by omega) (growslice_fits (by omega) (by rw [hz2]; exact hb64))] at hrun
      injection hrun with e1 e2
      exact ⟨_, _, _, e1.symm, .inr rfl⟩

/-- 'append(v, x...)' of at least one element: v of the call's own; no other block is turned, and the result lies in v's or in a new one. -/
theorem wp_appgL {o : Oper} {ac : Act} {K : Act → World → Prop} {Q : Exit → Act → World → Prop} (hT : ElK P T E k z bytes) (hk : EnK enc k) (s x : Operand)
    (ho : o.op = .call { callee := .builtin .append, args := #[s, x], argTypes := #[T, T] })
    {a2 : Option Addr} {n2 c2 : Nat} (hs : ac.eval s = .slice a n c) (hown : OK enc k E B w a n c l) (hx : ac.eval x = .slice a2 n2 c2) (hr : RK enc k w a2 n2 c2 m) (h0 : 0 < n2)
    (h63 : n + n2 ≤ 1000000000) (hb64 : (n + n2) * bytes ≤ 140737488355328) (hbase : B ≤ w.heap.size)
    (h : ∀ w' a' c', OK enc k E B w' a' (n + n2) c' (l ++ m) → Below B w w' → (∀ q, q < w.heap.size → NB a q → w'.heap[q]? = w.heap[q]? ∧ NB a' q) → w.heap.size ≤ w'.heap.size → K (ac.put o.dst (.slice a' (n + n2) c')) w') : o.wp P ac w K Q := by
  obtain ⟨i, hi, hz0, hz1, hz2⟩ := info_parts hT.info
  have hbl : ∀ q, (Value.slice a n c).ownBlock = some q → B ≤ q := fun q hq => (hown.own.lt q hq).1
  obtain ⟨b, off, rfl, hb, hc⟩ := hr.cell h0
  have hnews : ∀ j v, (m.flatMap enc)[j]? = some v → w.cell? ((⟨b, off, none⟩ : Addr).add j) = some v := by
    intro j u hu
    obtain ⟨i', j', y, h1, h2, rfl⟩ := flat_back hk m j u hu
    rw [Addr.add_lit]
    exact hc i' y j' u h1 h2
  obtain ⟨v', w', hrun, h2, h3, h4⟩ := run_append_own (P := P) w B T o.type E i z k bytes hT.und hi hz0 hz1 hz2 hT.zc hT.pos (.slice a n c) n (l.flatMap enc) hown.own ⟨b, off, none⟩ n2 c2 (m.flatMap enc) (by rw [flat_len hk, hr.len]) hnews
    (flat_one hk m) (by unfold maxLen; omega) (by omega) hbase
  obtain ⟨q, N, C, rfl, hq⟩ := app_whereL hT hk hown h0 hr.len hnews h63 hb64 hrun
  obtain ⟨a', c', e', hol⟩ := ok_of_ownsRow (enc := enc) (l := l ++ m) h2 (by simp) (by rw [List.length_append, hown.len, hr.len])
  simp only [Value.slice.injEq] at e'
  obtain ⟨rfl, rfl, rfl⟩ := e'
  unfold Oper.wp execOp
  simp only [ho, resolve, invoke, builtin, Sem.run_bind, Sem.run_pure, Result.andThen_ok, List.map_toArray, List.map_cons, List.map_nil, hs, hx, hrun]
  refine h w' _ _ hol ((Below.refl B w).grown h3 hbase hbl) (fun k hk hn => ⟨h3.block k hk ?_, ?_⟩) h3.size
  · intro e
    cases a with
    | none => simp [Value.ownBlock] at e
    | some p => simp [Value.ownBlock] at e; exact hn p rfl e.symm
  · intro p hp
    cases hp
    rcases hq with rfl | hq
    · exact hn _ rfl
    · omega
end

theorem step_appgL {P : Program} {T E : TypeId} {k : Nat} {z : Value} {bytes : Nat} {α : Type} {enc : α → List Value} {B : Nat} {w : World} {a : Option Addr} {n c : Nat} {l m : List α} {ops : Array Oper} {o : Oper} {ac : Act} {K : Act → World → Prop} {Q : Exit → Act → World → Prop} {R : Prop}
    (hT : ElK P T E k z bytes) (hk : EnK enc k) (hgd : o.guard = none) (s x : Operand)
    (ho : o.op = .call { callee := .builtin .append, args := #[s, x], argTypes := #[T, T] })
    {a2 : Option Addr} {n2 c2 : Nat} (hs : ac.eval s = .slice a n c) (hown : OK enc k E B w a n c l) (hx : ac.eval x = .slice a2 n2 c2) (hr : RK enc k w a2 n2 c2 m) (h0 : 0 < n2)
    (h63 : n + n2 ≤ 1000000000) (hb64 : (n + n2) * bytes ≤ 140737488355328) (hbase : B ≤ w.heap.size)
    (h : ∀ w' a' c', OK enc k E B w' a' (n + n2) c' (l ++ m) → Below B w w' → (∀ q, q < w.heap.size → NB a q → w'.heap[q]? = w.heap[q]? ∧ NB a' q) → w.heap.size ≤ w'.heap.size → K (ac.put o.dst (.slice a' (n + n2) c')) w') :
    if Region.wanted o (yielded ops ac.tmps) = true then Oper.wp P o ac w K Q else R := by
  rw [if_pos (by simp [Region.wanted, hgd])]
  exact wp_appgL hT hk s x ho hs hown hx hr h0 h63 hb64 hbase h

section
variable {α : Type} {enc : α → List Value} {k : Nat} {T E : TypeId} {z : Value} {bytes : Nat} {w : World} {P : Program} {l : List α} {n c : Nat} {a : Option Addr}

/-- A list appended, that may be empty; what becomes of other blocks. -/
theorem step_appgLk {m : List α} {B : Nat} {ops : Array Oper} {o : Oper} {ac : Act} {K : Act → World → Prop} {Q : Exit → Act → World → Prop} {R : Prop}
    (hT : ElK P T E k z bytes) (hk : EnK enc k) (hgd : o.guard = none) (s x : Operand)
    (ho : o.op = .call { callee := .builtin .append, args := #[s, x], argTypes := #[T, T] })
    {a2 : Option Addr} {n2 c2 : Nat} (hs : ac.eval s = .slice a n c) (hown : OK enc k E B w a n c l) (hx : ac.eval x = .slice a2 n2 c2) (hr : RK enc k w a2 n2 c2 m)
    (h63 : n + n2 ≤ 1000000000) (hb64 : (n + n2) * bytes ≤ 140737488355328) (hbase : B ≤ w.heap.size)
    (h : ∀ w' a' c', OK enc k E B w' a' (n + n2) c' (l ++ m) → Below B w w' → (∀ q, q < w.heap.size → NB a q → w'.heap[q]? = w.heap[q]? ∧ NB a' q) → w.heap.size ≤ w'.heap.size → K (ac.put o.dst (.slice a' (n + n2) c')) w') :
    if Region.wanted o (yielded ops ac.tmps) = true then Oper.wp P o ac w K Q else R := by
  by_cases h0 : 0 < n2
  · exact step_appgL hT hk hgd s x ho hs hown hx hr h0 h63 hb64 hbase h
  · obtain rfl : n2 = 0 := by omega
    obtain rfl : m = [] := List.length_eq_zero_iff.1 hr.len
    rw [if_pos (by simp [Region.wanted, hgd])]
    obtain ⟨i, hi, hz0, hz1, hz2⟩ := info_parts hT.info
    have hrun := run_append_nothing (P := P) w T T o.type E i hT.und hi a n c hown.cap (.slice a2 0 c2) (src_none hT.und a2 c2)
    unfold Oper.wp execOp
    simp only [ho, resolve, invoke, builtin, Sem.run_bind, Sem.run_pure, Result.andThen_ok, List.map_toArray, List.map_cons, List.map_nil, hs, hx, hrun]
    exact h w a c (by rw [List.append_nil]; exact hown) (Below.refl _ _) (fun q _ hn => ⟨rfl, hn⟩) (Nat.le_refl _)
/-- The same, in order. -/
theorem wpList_appgL0 {m : List α} {B : Nat} {ops : Array Oper} {rest : List Oper} {o : Oper} {ac : Act} {Q : Exit → Act → World → Prop}
    (hT : ElK P T E k z bytes) (hk : EnK enc k) (hgd : o.guard = none) (s x : Operand)
    (ho : o.op = .call { callee := .builtin .append, args := #[s, x], argTypes := #[T, T] })
    {a2 : Option Addr} {n2 c2 : Nat} (hs : ac.eval s = .slice a n c) (hown : OK enc k E B w a n c l) (hx : ac.eval x = .slice a2 n2 c2) (hr : RK enc k w a2 n2 c2 m)
    (h63 : n + n2 ≤ 1000000000) (hb64 : (n + n2) * bytes ≤ 140737488355328) (hbase : B ≤ w.heap.size)
    (h : ∀ w' a' c', OK enc k E B w' a' (n + n2) c' (l ++ m) → Below B w w' → (∀ q, q < w.heap.size → NB a q → w'.heap[q]? = w.heap[q]? ∧ NB a' q) → w.heap.size ≤ w'.heap.size → wpList P ops Q rest (ac.put o.dst (.slice a' (n + n2) c')) w') :
    wpList P ops Q (o :: rest) ac w :=
  wpList_step fun _ hK => step_appgLk hT hk hgd s x ho hs hown hx hr h63 hb64 hbase fun w' a' c' o1 g1 k1 z1 => hK _ _ (h w' a' c' o1 g1 k1 z1)
end
end Go.Proofs.Ytihafoeimpjdaaa

namespace Go.Proofs.Ytihafoeimpjdaaa
open Go.RowKit Go.Sort
set_option linter.unusedVariables false
set_option linter.unusedSimpArgs false

section
variable {B : Nat} {w w1 wr v : World} {g gN c sil i j k1 k2 : Nat} {hs ds : List Hol} {x y : Hol} {m : Ma} {a : Option Addr}

theorem cloneH_any (w : World) (a : Option Addr) (n c : Nat) (hs : List Hol) (h : RK enHol 9 w a n c hs) (hn : 0 < n) (h32 : n ≤ 1000) :
    Calls Try.prog 20 #[.slice a n c] w fun e w' => ∃ gN c', e = .returned (.slice (some ⟨gN, 0, none⟩) n c') ∧ OK enHol 9 43 w.heap.size w' (some ⟨gN, 0, none⟩) n c' hs ∧ Below w.heap.size w w' := by
  have q22 : ∀ (w : World) (a : Option Addr) (n c n' c' : Nat), (binOp .eql 23 (.slice a n c) (.slice none n' c')).run Try.prog w = .ok (.bool a.isNone) w := fun w a n c n' c' => Lib.run_eql_slice_nil w _ _ a n c n' c' elHol.und
  obtain ⟨b, off, rfl, _, _⟩ := h.cell hn
  have ho := ok_lit enHol_k 43 w.heap.size w ([] : List Hol) #[] 0 rfl rfl (by omega) (Nat.le_refl _)
  have hE := bnew0 w (.cells #[] 43)
  have hb := h.below hE
  go_enter Try.func20, Try.ntmps20
  go_wp2_with (at_builtin; refine wpList_appgL0 (enc := enHol) elHol enHol_k rfl _ _ rfl rfl ho rfl hb (by omega) (by omega) (by simp) ?_; intro w3 a3 c3 ho3 hb3 kk3 zz3; rw [Nat.zero_add, List.nil_append] at ho3; have hb3 := hE.trans hb3)
  go_ret
  obtain ⟨gN, rfl, _, _⟩ := ho3.addr hn
  exact ⟨gN, c3, rfl, ho3, hb3⟩

abbrev lcV (gN n c sil : Nat) : Array Value := #[.slice (some ⟨gN, 0, none⟩) n c, .int .i64 (sil : Int)]
abbrev lcZ : Array Value := #[.slice none 0 0, .int .i64 0]

/-- Some holders are in memory of their own. -/
structure ApS (B : Nat) (w wr : World) (k1 k2 gN c sil : Nat) (hs ds : List Hol) : Prop where
  row : OK enHol 9 43 B wr (some ⟨gN, 0, none⟩) hs.length c (ds ++ hs.drop ds.length)
  pl : ds.map Hol.x = (hs.take ds.length).map Hol.x
  tok : ∀ h ∈ ds, OL .bool 4 B wr h.ta h.x.took.length h.tc h.x.took
  dat : ∀ h ∈ ds, OL bv 5 B wr h.da h.x.fr.data.length h.dc h.x.fr.data
  tn : ∀ h ∈ ds, NB h.ta gN
  dn : ∀ h ∈ ds, NB h.da gN
  dt : ∀ h ∈ ds, ∀ k ∈ ds, ∀ p q : Addr, h.da = some p → k.ta = some q → p.block ≠ q.block
  tt : ∀ (i j : Nat) (h k : Hol) (p q : Addr), i ≠ j → ds[i]? = some h → ds[j]? = some k → h.ta = some p → k.ta = some q → p.block ≠ q.block
  id : ∀ h ∈ ds, h.x.fr.id < 4294967296
  dl : ∀ h ∈ ds, h.x.fr.dlc < 256
  box : wr.heap[k1]? = some (.cells (lcV gN hs.length c sil) 25 (0, 0))
  box2 : wr.heap[k2]? = some (.cells lcZ 25 (0, 0))
  bel : Below w.heap.size w wr

theorem ApS.full (h : ApS B w wr k1 k2 gN c sil hs ds) (hl : ds.length = hs.length) : BuO B wr gN c ds ∧ ds.map Hol.x = hs.map Hol.x := by
  have e : ds ++ hs.drop ds.length = ds := by rw [hl, List.drop_length, List.append_nil]
  have hr := h.row
  rw [e, ← hl] at hr
  refine ⟨⟨hr, h.tok, h.dat, h.tn, h.dn, h.dt, h.tt, h.id, h.dl⟩, ?_⟩
  rw [h.pl, hl, List.take_length]

theorem ApS.at (h : ApS B w wr k1 k2 gN c sil hs ds) (hi : hs[ds.length]? = some x) : (ds ++ hs.drop ds.length)[ds.length]? = some x := by
  rw [List.getElem?_append_right (Nat.le_refl _), Nat.sub_self, List.getElem?_drop, Nat.add_zero]; exact hi

theorem snoc_set (hi : hs[ds.length]? = some x) (y : Hol) : (ds ++ hs.drop ds.length).set ds.length y = (ds ++ [y]) ++ hs.drop (ds ++ [y]).length := by
  obtain ⟨hn, hx⟩ := List.getElem?_eq_some_iff.1 hi
  rw [List.set_append_right _ _ (Nat.le_refl _), Nat.sub_self, List.drop_eq_getElem_cons hn, List.set_cons_zero, List.length_append, List.append_assoc]
  rfl

/-- One more is. -/
theorem ApS.snoc (h : ApS B w wr k1 k2 gN c sil hs ds) (hi : hs[ds.length]? = some x) (hB : B ≤ wr.heap.size) (h1 : k1 < B) (h2 : k2 < B) (hw : w.heap.size ≤ B) (k : Ch (fun b => b = gN) wr v) (hy : y.x = x.x)
    (hrow : OK enHol 9 43 B v (some ⟨gN, 0, none⟩) hs.length c ((ds ++ hs.drop ds.length).set ds.length y)) (hd : OL bv 5 wr.heap.size v y.da y.x.fr.data.length y.dc y.x.fr.data)
    (ht : OL .bool 4 wr.heap.size v y.ta y.x.took.length y.tc y.x.took) (ap : ∀ p q : Addr, y.da = some p → y.ta = some q → p.block ≠ q.block) (hid : x.x.fr.id < 4294967296) (hdl : x.x.fr.dlc < 256) :
    ApS B w v k1 k2 gN c sil hs (ds ++ [y]) := by
  have hn := (List.getElem?_eq_some_iff.1 hi).1
  obtain ⟨gN', e, hgB, hgl⟩ := h.row.addr (by omega)
  cases e
  have kk : ∀ b, b < wr.heap.size → b ≠ gN → v.heap[b]? = wr.heap[b]? := k.block
  have od : ∀ z ∈ ds, ∀ p : Addr, (z.ta = some p → p.block < wr.heap.size) ∧ (z.da = some p → p.block < wr.heap.size) := fun z hz p => ⟨fun hp => ((h.tok z hz).ltB hp).1, fun hp => ((h.dat z hz).ltB hp).1⟩
  have nt : ∀ p : Addr, y.ta = some p → wr.heap.size ≤ p.block := fun p hp => (ht.ltB hp).2
  have nd : ∀ p : Addr, y.da = some p → wr.heap.size ≤ p.block := fun p hp => (hd.ltB hp).2
  have hm : ∀ z ∈ ds ++ [y], z ∈ ds ∨ z = y := fun z hz => by
    rcases List.mem_append.1 hz with h | h
    · exact .inl h
    · exact .inr (List.mem_singleton.1 h)
  have hg : ∀ (l : Nat) (z : Hol), (ds ++ [y])[l]? = some z → (l < ds.length ∧ ds[l]? = some z) ∨ (l = ds.length ∧ z = y) := fun l z hz => by
    by_cases hl : l < ds.length
    · rw [List.getElem?_append_left hl] at hz; exact .inl ⟨hl, hz⟩
    · have : l < (ds ++ [y]).length := (List.getElem?_eq_some_iff.1 hz).1
      rw [List.length_append, List.length_singleton] at this
      obtain rfl : l = ds.length := by omega
      rw [List.getElem?_append_right (Nat.le_refl _), Nat.sub_self] at hz
      exact .inr ⟨rfl, by simpa using hz.symm⟩
  refine ⟨by rw [← snoc_set hi]; exact hrow, ?_, fun z hz => ?_, fun z hz => ?_, fun z hz => ?_, fun z hz => ?_, fun z hz u hu p q hp hq => ?_, fun l l' z u p q hll hz hu hp hq => ?_, fun z hz => ?_, fun z hz => ?_, (kk k1 (by omega) (by omega)).trans h.box, (kk k2 (by omega) (by omega)).trans h.box2, h.bel.trans ⟨k.os, k.tape, k.output, k.size, fun b hb => kk b (by have := h.bel.size; omega) (by omega)⟩⟩
  · rw [List.map_append, h.pl, List.length_append, List.length_singleton, List.take_succ_eq_append_getElem hn, List.map_append, List.map_singleton, List.map_singleton, hy]
    rw [(List.getElem?_eq_some_iff.1 hi).2]
  · rcases hm z hz with z1 | z1
    · exact (h.tok z z1).kept fun q hq => kk q (od z z1 _ |>.1 hq) (fun e => h.tn z z1 _ hq (by simpa using e))
    · rw [z1]; exact ht.mono hB
  · rcases hm z hz with z1 | z1
    · exact (h.dat z z1).kept fun q hq => kk q (od z z1 _ |>.2 hq) (fun e => h.dn z z1 _ hq (by simpa using e))
    · rw [z1]; exact hd.mono hB
  · rcases hm z hz with z1 | z1
    · exact h.tn z z1
    · rw [z1]; intro p hp e; have := nt p hp; omega
  · rcases hm z hz with z1 | z1
    · exact h.dn z z1
    · rw [z1]; intro p hp e; have := nd p hp; omega
  · rcases hm z hz with z1 | z1
    · rcases hm u hu with u1 | u1
      · exact h.dt z z1 u u1 p q hp hq
      · have := (od z z1 p).2 hp; have := nt q (u1 ▸ hq); omega
    · rcases hm u hu with u1 | u1
      · have := (od u u1 q).1 hq; have := nd p (z1 ▸ hp); omega
      · exact ap p q (z1 ▸ hp) (u1 ▸ hq)
  · rcases hg l z hz with ⟨e1, z1⟩ | ⟨e1, z1⟩
    · rcases hg l' u hu with ⟨e2, u1⟩ | ⟨e2, u1⟩
      · exact h.tt l l' z u p q hll z1 u1 hp hq
      · have := (od z (List.mem_of_getElem? z1) p).1 hp; have := nt q (u1 ▸ hq); omega
    · rcases hg l' u hu with ⟨e2, u1⟩ | ⟨e2, u1⟩
      · have := (od u (List.mem_of_getElem? u1) q).1 hq; have := nt p (z1 ▸ hp); omega
      · exact absurd (e1.trans e2.symm) hll
  · rcases hm z hz with z1 | z1
    · exact h.id z z1
    · rw [z1, hy]; exact hid
  · rcases hm z hz with z1 | z1
    · exact h.dl z z1
    · rw [z1, hy]; exact hdl
end
end Go.Proofs.Ytihafoeimpjdaaa

namespace Go.Proofs.Ytihafoeimpjdaaa
open Go.RowKit Go.Sort
set_option linter.unusedVariables false
set_option linter.unusedSimpArgs false

section
variable {B : Nat} {w w1 wr v : World} {g gN c sil i j k1 k2 : Nat} {hs ds : List Hol} {x y : Hol} {m : Ma} {a : Option Addr}

theorem two_lc {k : Nat} {v0 v1 : Value} (h : w.heap[k]? = some (.cells #[v0, v1] 25 (0, 0))) : w.cell? ⟨k, 0, none⟩ = some v0 ∧ w.cell? ⟨k, 1, none⟩ = some v1 :=
  ⟨by rw [cell_of_row w k 0 _ _ _ h]; rfl, by rw [cell_of_row w k 1 _ _ _ h]; rfl⟩
/-- Two boxes of a bus. -/
theorem box_lc2 (w : World) (cs : Array Value) : ∃ k1 k2 w0, Hid ((w.alloc (.cells cs 25)).alloc (.cells lcZ 25) = w0) ∧ Hid (w.heap.size = k1) ∧ Hid (w.heap.size + 1 = k2) ∧ w0.heap[k1]? = some (.cells cs 25 (0, 0)) ∧ w0.heap[k2]? = some (.cells lcZ 25 (0, 0)) ∧ Below w.heap.size w w0 ∧ w.heap.size ≤ k1 ∧ k1 < k2 ∧ w0.heap.size = k2 + 1 :=
  ⟨_, _, _, rfl, rfl, rfl, bx_alloc _ (heap_alloc_new w _), by have := heap_alloc_new (w.alloc (.cells cs 25)) (.cells lcZ 25); rwa [heap_size_alloc] at this, bnew (bnew0 w _) _, Nat.le_refl _, by omega, by simp⟩

theorem ApS.start (hg : Below w.heap.size w w1) (hb1 : w1.heap[k1]? = some (.cells #[.slice a hs.length c, .int .i64 (sil : Int)] 25 (0, 0))) (hb2 : w1.heap[k2]? = some (.cells lcZ 25 (0, 0))) (h1 : w.heap.size ≤ k1) (h2 : k1 < k2) (h3 : k2 < B) {c' : Nat}
    (o : OK enHol 9 43 B w1 (some ⟨gN, 0, none⟩) hs.length c' hs) (hn : 0 < hs.length) : ApS B w (w1.setCell ⟨k1, 0, none⟩ (.slice (some ⟨gN, 0, none⟩) hs.length c')) k1 k2 gN c' sil hs [] := by
  obtain ⟨gN', e, hgB, hgl⟩ := o.addr hn
  cases e
  refine ⟨by simpa using o.kept fun q hq => Below.heap_setCell _ _ _ _ (by cases hq; dsimp only; omega), by simp, by simp, by simp, by simp, by simp, by simp, by simp, by simp, by simp, heap_setCell_same w1 k1 0 _ _ _ hb1, (Below.heap_setCell _ _ _ _ (by dsimp only; omega)).trans hb2, hg.setCell h1 _⟩

set_option maxRecDepth 100000 in
set_option maxHeartbeats 4000000 in
theorem apart16_any (h : BuR w a c hs) (hK : LbK (lbOf hs sil)) :
    Calls Try.prog 14 #[.agg #[.slice a hs.length c, .int .i64 (sil : Int)]] w fun e w' => ∃ gN c' ds, e = .returned (.agg (lcV gN ds.length c' sil)) ∧ BuO w.heap.size w' gN c' ds ∧ ds.map Hol.x = hs.map Hol.x ∧ Below w.heap.size w w' := by
  obtain ⟨k1, k2, w0, hw0, hk1, hk2, hb1, hb2, g0, z1, z2, z3⟩ := box_lc2 w #[.slice a hs.length c, .int .i64 (sil : Int)]
  have h2 : 2 ≤ hs.length := by have := hK.n2; rwa [lb_len] at this
  have h32 : hs.length ≤ 32 := by have := hK.n32; rwa [lb_len] at this
  have h0 := h.below g0
  have q0 := (two_lc hb1).1
  have kC := cloneH_any w0 a hs.length c hs h0.row (by omega) (by omega)
  have H := hid h
  have HK := hid hK
  clear h hK h0
  go_enter Try.func14, Try.ntmps14
  go_wp2_with (first
    | (rw [hw0.out])
    | (rw [hk2.out])
    | (rw [hk1.out])
    | (go_at_call 20; with_reducible refine kC.mono ?_; rintro e w1 ⟨gN, c', rfl, o1, g1⟩
       have hb1' := bx_below hb1 g1
       have q0' := (two_lc hb1').1
       have f0' := bx_thaw hb1' 0))
  have hS0 := ApS.start (sil := sil) (bstep g0 g1) hb1' (bx_below hb2 g1) z1 z2 (show k2 < k2 + 1 by omega) (z3 ▸ o1) (by omega)
  clear o1 g1 q0' f0' hb1' kC q0 hb1 hb2
  go_loopg [13] hs.length (fun gn vi wr => ∃ (i : Nat) (ds : List Hol), Hid (ds.length = i) ∧ i ≤ hs.length ∧ gn = hs.length - i ∧ vi = .int .i64 (i : Int) ∧ ApS (k2 + 1) w wr k1 k2 gN c' sil hs ds)
  case atStart => exact ⟨0, [], rfl, by omega, by omega, rfl, hS0⟩
  case round =>
    obtain ⟨i, ds, hl, hin, rfl, rfl, hS⟩ := hrel
    by_cases hlt : i < hs.length
    · have i1 : (i : Int) < (hs.length : Int) := by omega
      obtain ⟨x, hx⟩ : ∃ x, hs[i]? = some x := ⟨_, List.getElem?_eq_getElem hlt⟩
      have hx' : hs[ds.length]? = some x := by rw [hl.out]; exact hx
      have hxm := List.mem_of_getElem? hx
      have hxl : (ds ++ hs.drop ds.length)[i]? = some x := by have := hS.at hx'; rwa [hl.out] at this ⊢
      have q0 := (two_lc hS.box).1
      have HR := H.out.below hS.bel
      have hrg := hS.row.range enHol_k hxl
      have c6 : wr.cell? ⟨gN, i * 9 + 6, none⟩ = some (.slice x.ta x.x.took.length x.tc) := hrg 6 _ rfl
      have rF : wr.rangeAt gN (i * 9 + 1) (frV x.x.fr x.da x.dc).toList := fun j v hv => by
        have h5 : j < 5 := by have := (List.getElem?_eq_some_iff.1 hv).1; simpa using this
        rw [Nat.add_assoc]
        refine hrg (1 + j) v ?_
        rcases (show j = 0 ∨ j = 1 ∨ j = 2 ∨ j = 3 ∨ j = 4 by omega) with rfl | rfl | rfl | rfl | rfl <;> exact hv
      have hl1000 : x.x.fr.data.length ≤ 1000000 := by
        have := HK.out.da x.x (List.mem_of_getElem? (lb_at (sil := sil) hx)); omega
      have kF := cloneFr_any wr x.x.fr.id x.x.fr.ext x.x.fr.rem x.x.fr.dlc _ _ _ _ (HR.dat x hxm) hl1000
      have HS := hid hS
      have HX := hid hx'
      have HXL := hid hxl
      have szB : k2 + 1 ≤ wr.heap.size := by have := bx_lt hS.box2; omega
      have gNl : k2 + 1 ≤ gN ∧ gN < wr.heap.size := by obtain ⟨_, e, h1, h2⟩ := hS.row.addr (by omega); cases e; exact ⟨h1, h2⟩
      clear hS hx hx' hxl hrg
      go_upto_region 8 with (first
        | (with_reducible refine wpList_loadM rowF rfl _ rfl _ _ rfl (frV x.x.fr x.da x.dc) rF rfl ?_)
        | (go_at_call 21; with_reducible refine kF.mono ?_; rintro e w2 ⟨a1, c1, rfl, o2, g2⟩
           have row2 := HS.out.row.below g2
           have t1 : w2.there gN (i * 9 + 1) 5 := gv_there row2 hlt)
        | (with_reducible refine wpList_setM rowF rfl _ _ rfl _ _ _ rfl rfl t1 rfl (by kernel_rfl) ?_
           intro w3 hw3
           have gw := gv_wr hw3.out
           obtain ⟨x1, hx1⟩ : ∃ x1 : Hol, x1 = ⟨x.x, a1, c1, x.ta, x.tc⟩ := ⟨_, rfl⟩
           have row3 : OK enHol 9 43 (k2 + 1) w3 (some ⟨gN, 0, none⟩) hs.length c' ((ds ++ hs.drop ds.length).set i x1) := by
             rw [hw3.out]
             exact OK.seg enHol_k row2 HXL.out (o := 1) (frV x.x.fr a1 c1).toList (by simp) x1 (by rw [hx1]; rfl)
           have hx1l : ((ds ++ hs.drop ds.length).set i x1)[i]? = some x1 := List.getElem?_set_self ((List.getElem?_eq_some_iff.1 HXL.out).1)
           have c6' : w3.cell? ⟨gN, i * 9 + 6, none⟩ = some (.slice x.ta x.x.took.length x.tc) := (row3.range enHol_k hx1l) 6 _ (by rw [hx1]; rfl)
           have f6' : w3.frozen? ⟨gN, i * 9 + 6, none⟩ = false := (row3.there enHol_k (i := i) hlt 6 (by omega)).2
           clear c6 rF t1))
      obtain ⟨x2, hx2⟩ : ∃ x2 : Hol, x2 = ⟨{ x.x with took := [] }, a1, c1, none, 0⟩ := ⟨_, rfl⟩
      have row4 : OK enHol 9 43 (k2 + 1) (w3.setCell ⟨gN, i * 9 + 6, none⟩ (.slice none 0 0)) (some ⟨gN, 0, none⟩) hs.length c' ((ds ++ hs.drop ds.length).set i x2) := by
        have := OK.setAt enHol_k row3 hx1l (j := 6) (by omega) (.slice none 0 0) x2 (by rw [hx2, hx1]; rfl)
        rw [set_set] at this; exact this
      have ch4 : Ch (fun b => b = gN) wr (w3.setCell ⟨gN, i * 9 + 6, none⟩ (.slice none 0 0)) :=
        (((Ch.refl (fun b => b = gN) wr).call g2).trans (S1 := fun b => b = gN) ⟨gw.os, gw.tape, gw.output, gw.size, gw.block⟩ (fun b hb => .inl hb)).setCell (p := ⟨gN, i * 9 + 6, none⟩) (.inl rfl) _
      have o4 : OL bv 5 wr.heap.size (w3.setCell ⟨gN, i * 9 + 6, none⟩ (.slice none 0 0)) a1 x.x.fr.data.length c1 x.x.fr.data := by
        have o3 := o2.kept (w' := w3) fun k hk => gw.block k (o2.ltB hk).1 (by have := (o2.ltB hk).2; dsimp only at this; omega)
        exact o3.kept fun k hk => Below.heap_setCell _ _ _ _ (by have := (o2.ltB hk).2; dsimp only at this ⊢; omega)
      have sz4 : wr.heap.size ≤ (w3.setCell ⟨gN, i * 9 + 6, none⟩ (.slice none 0 0)).heap.size := ch4.size
      have hx2l : ((ds ++ hs.drop ds.length).set i x2)[i]? = some x2 := List.getElem?_set_self ((List.getElem?_eq_some_iff.1 HXL.out).1)
      clear o2 g2 row2 hw3 gw row3 hx1l c6' f6' hx1
      generalize w3.setCell ⟨gN, i * 9 + 6, none⟩ (.slice none 0 0) = w4 at *
      have hb4 := ch4.bx HS.out.box (show ¬ k1 = gN by omega)
      have q4 := (two_lc hb4).1
      have c04 : w4.cell? ⟨gN, i * 9, none⟩ = some (.bool x.x.has) := (row4.range enHol_k hx2l) 0 _ (by rw [hx2]; rfl)
      have htk := HK.out.tk x.x (List.mem_of_getElem? (lb_at (sil := sil) (show hs[i]? = some x by rw [← hl.out]; exact HX.out)))
      rw [lb_len] at htk
      cases hha : x.x.has
      · rw [hha] at c04 htk
        have htk0 : x.x.took = [] := List.eq_nil_of_length_eq_zero (by simpa using htk)
        have e2 : x2.x = x.x := by rw [hx2]; dsimp only; rw [← htk0]
        have hN : ApS (k2 + 1) w w4 k1 k2 gN c' sil hs (ds ++ [x2]) := by
          refine HS.out.snoc HX.out szB (by omega) (by omega) (by omega) ch4 e2 (by rw [hl.out]; rw [hl.out] at row4; exact row4) ?_ ?_ ?_ (HR.id x hxm) (HR.dl x hxm)
          · rw [hx2]; exact o4
          · rw [hx2]; exact OL.nil _ _ _ _
          · intro p q hp hq; rw [hx2] at hq; cases hq
        have HN := hid hN
        clear hN row4 ch4 o4 sz4 hx2l hx2 hb4 htk htk0 e2 hha
        go_wp2
        go_roundg (hs.length - (i + 1))
        case measure => omega
        case rel => exact ⟨i + 1, ds ++ [x2], hid (by rw [List.length_append, hl.out]; rfl), by omega, rfl, by first | rfl | simp, HN.out⟩
      · rw [hha] at c04 htk
        have htk1 : x.x.took.length = hs.length := by simpa using htk
        have htR := HR.tok x hxm
        rw [htk1] at htR
        have c64 : w4.cell? ⟨gN, i * 9 + 6, none⟩ = some (.slice none 0 0) := (row4.range enHol_k hx2l) 6 _ (by rw [hx2]; rfl)
        have R4 := hid row4
        have C4 := hid ch4
        have O4 := hid o4
        have X2 := hid hx2
        have X2L := hid hx2l
        clear row4 ch4 o4 hx2 hx2l hha
        rw [htk1]
        go_upto_region 10 with (first
          | (with_reducible refine wpList_mk (f := Value.bool) (n := hs.length) tB false rfl rfl _ _ rfl _ _ .i64 .i64 rfl rfl rfl rfl (by omega) (by omega) ?_
             intro w5 o5 g5 z5
             have r5 := R4.out.below g5
             have c65 : w5.cell? ⟨gN, i * 9 + 6, none⟩ = some (.slice none 0 0) := (r5.range enHol_k X2L.out) 6 _ (by rw [X2.out]; rfl)
             have f65 : w5.frozen? ⟨gN, i * 9 + 6, none⟩ = false := (r5.there enHol_k (i := i) hlt 6 (by omega)).2
             clear c64))
        obtain ⟨t, ht⟩ : ∃ t, t = w4.heap.size := ⟨_, rfl⟩
        rw [← ht] at o5 g5 z5
        rw [← ht]
        have tN : gN < t := by omega
        have tW : wr.heap.size ≤ t := by omega
        obtain ⟨x3, hx3⟩ : ∃ x3 : Hol, x3 = ⟨x.x, a1, c1, some ⟨t, 0, none⟩, hs.length⟩ := ⟨_, rfl⟩
        have row6 : OK enHol 9 43 (k2 + 1) (w5.setCell ⟨gN, i * 9 + 6, none⟩ (.slice (some ⟨t, 0, none⟩) hs.length hs.length)) (some ⟨gN, 0, none⟩) hs.length c' ((ds ++ hs.drop ds.length).set i x3) := by
          have := OK.setAt enHol_k r5 X2L.out (j := 6) (by omega) (.slice (some ⟨t, 0, none⟩) hs.length hs.length) x3 (by rw [hx3, X2.out]; unfold enHol; simp [htk1])
          rw [set_set] at this; exact this
        have o6 : OL .bool 4 t (w5.setCell ⟨gN, i * 9 + 6, none⟩ (.slice (some ⟨t, 0, none⟩) hs.length hs.length)) (some ⟨t, 0, none⟩) hs.length hs.length (List.replicate hs.length false) := o5.kept fun q hq => Below.heap_setCell _ _ _ _ (by cases hq; dsimp only; omega)
        have hg5 : Below w4.heap.size w4 w5 := ht ▸ g5
        have ch6 : Ch (fun b => b = gN) wr (w5.setCell ⟨gN, i * 9 + 6, none⟩ (.slice (some ⟨t, 0, none⟩) hs.length hs.length)) := (C4.out.call hg5).setCell (p := ⟨gN, i * 9 + 6, none⟩) (.inl rfl) _
        have d6 : OL bv 5 wr.heap.size (w5.setCell ⟨gN, i * 9 + 6, none⟩ (.slice (some ⟨t, 0, none⟩) hs.length hs.length)) a1 x.x.fr.data.length c1 x.x.fr.data :=
          (O4.out.below hg5).kept fun k hk => Below.heap_setCell _ _ _ _ (by have := (O4.out.ltB hk).2; dsimp only at this ⊢; omega)
        have dT : ∀ p : Addr, a1 = some p → p.block < t := fun p hp => by have := (O4.out.ltB hp).1; omega
        have c66 : (w5.setCell ⟨gN, i * 9 + 6, none⟩ (.slice (some ⟨t, 0, none⟩) hs.length hs.length)).cell? ⟨gN, i * 9 + 6, none⟩ = some (.slice (some ⟨t, 0, none⟩) hs.length hs.length) := by
          have := row6.range enHol_k (i := i) (x := x3) (List.getElem?_set_self ((List.getElem?_eq_some_iff.1 HXL.out).1)) 6 _ (by rw [hx3]; rfl)
          rw [htk1] at this; exact this
        have R6 : RL .bool (w5.setCell ⟨gN, i * 9 + 6, none⟩ (.slice (some ⟨t, 0, none⟩) hs.length hs.length)) x.ta hs.length x.tc x.x.took := by
          have h9 : RL .bool w x.ta x.x.took.length x.tc x.x.took := H.out.tok x hxm
          have h10 : Below w.heap.size w (w5.setCell ⟨gN, i * 9 + 6, none⟩ (.slice (some ⟨t, 0, none⟩) hs.length hs.length)) := ch6.below HS.out.bel (Nat.le_refl _) (fun b hb => by have := HS.out.bel.size; omega)
          have := h9.below h10
          rw [htk1] at this; exact this
        clear c65 f65 o5 g5 z5 r5 hg5 c04 q4 hb4
        generalize w5.setCell ⟨gN, i * 9 + 6, none⟩ (.slice (some ⟨t, 0, none⟩) hs.length hs.length) = w6 at *
        clear ht
        go_wp2_with (first
          | (with_reducible refine wpList_cp (f := Value.bool) (n := hs.length) tB rfl _ _ rfl rfl rfl o6 R6 (fun _ => rfl) ?_
             intro w7 o7 g7))
        have ch7 : Ch (fun b => b = gN) wr w7 := ch6.trans (S1 := fun b => t ≤ b) ⟨g7.os, g7.tape, g7.output, g7.size, fun b hb hn => g7.block b (by omega)⟩ (fun b hb => .inr (by omega))
        have hN : ApS (k2 + 1) w w7 k1 k2 gN c' sil hs (ds ++ [x3]) := by
          refine HS.out.snoc HX.out szB (by omega) (by omega) (by omega) ch7 (by rw [hx3]) ?_ ?_ ?_ ?_ (HR.id x hxm) (HR.dl x hxm)
          · rw [hl.out]
            have := row6.kept (w' := w7) fun q hq => g7.block q (by cases hq; exact tN)
            rw [hl.out] at this; exact this
          · rw [hx3]; exact d6.kept fun k hk => g7.block k (dT _ hk)
          · rw [hx3]; show OL _ _ _ _ (some ⟨t, 0, none⟩) x.x.took.length _ _; rw [htk1]; exact o7.mono tW
          · intro p q hp hq; rw [hx3] at hp hq; cases hq; have := dT p hp; dsimp only; omega
        have HN := hid hN
        clear hN
        go_roundg (hs.length - (i + 1))
        case measure => omega
        case rel => exact ⟨i + 1, ds ++ [x3], hid (by rw [List.length_append, hl.out]; rfl), by omega, rfl, by first | rfl | simp, HN.out⟩
    · obtain rfl : i = hs.length := by omega
      obtain ⟨hO, hP⟩ := hS.full hl.out
      have hb1 := hS.box
      have hb2 := hS.box2
      have hl' := hl.out
      go_wp2_with (first
        | (with_reducible refine wpList_loadR rowLc rfl _ rfl _ rfl hb1 rfl ?_)
        | (with_reducible refine wpList_storeR rowLc rfl _ _ rfl _ (lcV gN hs.length c' sil) rfl rfl hb2 rfl rfl (by kernel_rfl) ?_))
      refine bodyPost_ret (v := .agg (lcV gN hs.length c' sil)) (results_row rowLc rfl _ _ _ rfl (setRow_heap _ _ _ _ _ _ hb2) rfl) rfl ⟨gN, c', ds, by rw [hl'], (hO.kept fun b hb hbl => ?_).mono (by omega), hP, below_setRow hS.bel (by omega) _⟩
      exact setRow_other _ _ _ _ (by omega)
end
end Go.Proofs.Ytihafoeimpjdaaa

namespace Go.Sort
end Go.Sort
namespace Go.Proofs.Ytihafoeimpjdaaa
open Go.RowKit Go.Maps Go.Sort
set_option linter.unusedVariables false

theorem wf64 (x : Int) (h1 : -9223372036854775808 ≤ x) (h2 : x ≤ 9223372036854775807) : (Lit.int .i64 x).wf = true := by
  simp [Lit.wf, IntKind.min, IntKind.max, IntKind.signed, IntKind.bits]; omega

theorem lawI : Keyed Try.prog 3 := int_keyed Try.underlying3
theorem zeroI (w : World) : (zeroValue 3).run Try.prog w = .ok (.int .i64 0) w := by kernel_rfl

/-- A map from numbers to numbers, of the call's own, in block b. -/
abbrev MI (w : World) (b n : Nat) (D : DataW Unit) : Prop := w.ownsMap Try.prog 3 (plainElem Try.prog 3) b n D
section
variable {w w1 : World} {b n : Nat} {D : DataW Unit} {S : Nat → Prop}
theorem MI.at (h : MI w b n D) (k : w1.heap[b]? = w.heap[b]?) : MI w1 b n D := by
  obtain ⟨es, clock, hb, F, hs, hD⟩ := h
  exact ⟨es, clock, k.trans hb, F, hs, hD⟩
theorem MI.ch (h : MI w b n D) (k : Ch S w w1) (hn : ¬ S b) : MI w1 b n D := h.at (k.block b h.lt hn)
theorem MI.below (h : MI w b n D) (k : Below w.heap.size w w1) : MI w1 b n D := h.at (k.block b h.lt)

end
/-- A look-up, as an equation. -/
theorem mi_look {w : World} {b n : Nat} {D : DataW Unit} (h : MI w b n D) {t c : Int} (hat : D.atKey (.int .i64 t) (.lit (.int .i64 0)) = .lit (.int .i64 c)) (hwf : (Lit.int .i64 t).wf = true) :
    (Instr.lookup 30 (.map (some b)) (.int .i64 t) false).run Try.prog w = .ok (.int .i64 c) w := by
  obtain ⟨c', hrun, hat', _⟩ := World.ownsMap.lookup_int h lawI Try.underlying30 Try.underlying3 (zeroI _) (keyOf_int_mk Try.underlying3 hwf)
  rw [hat] at hat'
  obtain rfl : c = c' := by simpa using hat'
  exact hrun
/-- A map whose keys are just those of a list. -/
structure Met (D : DataW Unit) (ts : List Int) : Prop where
  tidy : Tidy D
  has : ∀ t : Int, Maps.has D (.int .i64 t) = decide (t ∈ ts)
  size : Maps.size D = ts.length
theorem Met.new : Met (.map []) [] := ⟨tidy_empty, fun t => rfl, rfl⟩
theorem Met.no {D : DataW Unit} {ts : List Int} (h : Met D ts) {t : Int} (ht : t ∉ ts) : D.atKey (.int .i64 t) (.lit (.int .i64 0)) = .lit (.int .i64 0) := by
  have := h.has t
  rw [decide_eq_false ht] at this
  exact atKey_of_not_has this _
theorem Met.put {D : DataW Unit} {ts : List Int} (h : Met D ts) {t : Int} (ht : t ∉ ts) (d : DataW Unit) : Met (D.put (.int .i64 t) d) (ts ++ [t]) := by
  have hk : WideAt.IsKeyLit (.int .i64 t) := by simp [WideAt.IsKeyLit]
  refine ⟨h.tidy.put hk d, fun u => ?_, ?_⟩
  · by_cases e : u = t
    · subst e
      rw [has_put_same h.tidy.isMap hk]; simp
    · rw [has_put_other (fun e' => e (by simpa using e')), h.has u, decide_eq_decide]; simp [e]
  · rw [size_put h.tidy, h.has t, decide_eq_false ht]
    simp [h.size]
end Go.Proofs.Ytihafoeimpjdaaa

namespace Go.Proofs.Ytihafoeimpjdaaa
open Go.RowKit Go.Sort Go.Maps
set_option linter.unusedVariables false
set_option linter.unusedSimpArgs false

/-- A method of the bus in box g, as a value. -/
abbrev fnV (g : Nat) (F : FuncId) : Value := .func (.func F) #[.pointer (some ⟨g, 0, none⟩)] #[]
/-- .. as it is told of: by its function's number (0: none). -/
noncomputable def fnR (g : Nat) (v : Value) : Option (DataW Unit × List MemPlace) :=
  @dite _ (∃ F, v = fnV g F) (Classical.propDecidable _) (fun h => some (.lit (.int .i64 ((Classical.choose h : Nat) : Int)), [])) (fun _ => @ite _ (v = .nilFunc) (Classical.propDecidable _) (some (.lit (.int .i64 0), [])) none)
theorem fnV_inj {g F F' : Nat} (h : fnV g F = fnV g F') : F = F' := by
  have := (Value.func.inj h).1
  exact Fn.func.inj this
theorem fnR_nil (g : Nat) : fnR g .nilFunc = some (.lit (.int .i64 0), []) := by unfold fnR; rw [dif_neg (fun ⟨F, h⟩ => by cases h), if_pos rfl]
theorem fnR_fn (g : Nat) (F : FuncId) : fnR g (fnV g F) = some (.lit (.int .i64 (F : Int)), []) := by
  have h : ∃ F', fnV g F = fnV g F' := ⟨F, rfl⟩
  unfold fnR
  rw [dif_pos h]
  have := fnV_inj (Classical.choose_spec h)
  rw [← this]
theorem fnR_inv {g : Nat} {v : Value} {F : Nat} {ps : List MemPlace} (h : fnR g v = some (.lit (.int .i64 (F : Int)), ps)) (hF : F ≠ 0) : v = fnV g F := by
  unfold fnR at h
  split at h
  · rename_i hv
    have h1 := Classical.choose_spec hv
    simp at h
    obtain ⟨h2, _⟩ := h
    have h3 : Classical.choose hv = F := by exact_mod_cast h2
    rw [h3] at h1; exact h1
  · split at h
    · simp at h; omega
    · cases h

theorem wpList_insert_own {H : Type} {P : Program} (w : World) {ops : Array Oper} {rest : List Oper} {o : Oper} {a : Act} {Q : Exit → Act → World → Prop}
    (hg : o.guard = none) (m x v : Operand) (t : TypeId) (hop : o.op = Op.insert t m x v)
    (k e : TypeId) (K : Keyed P k) (ht : P.underlying t = some (.map k e)) (R : Value → Option (DataW H × List MemPlace)) (b n : Nat) (D : DataW H)
    (hm : a.eval m = .map (some b)) (key val : Value) (hx : a.eval x = key) (hv : a.eval v = val) (hown : w.ownsMap P k R b n D) (hn : n < maxLen) (kl : Lit) (hkey : keyOf P k key = some kl)
    (d : DataW H) (ps : List MemPlace) (hval : R val = some (d, ps))
    (hK : ∀ w', w'.ownsMap P k R b (n + 1) (D.put kl d) → w.grownBy w' (some b) → wpList P ops Q rest (a.put o.dst undef) w') :
    wpList P ops Q (o :: rest) a w := by
  refine wpList_plain hg fun K' hK' => ?_
  obtain ⟨w', hrun, r1, r2⟩ := hown.update K ht hn hkey hval
  unfold Oper.wp
  simp [execOp, hop, hm, hx, hv, hrun, Result.andThen]
  exact hK' _ _ (hK w' r1 r2)

theorem lawU8 : Keyed Try.prog 5 := int_keyed Try.underlying5
theorem keyU8 (k : Nat) (h : k < 256) : keyOf Try.prog 5 (.int .u8 (k : Int)) = some (.int .u8 (k : Int)) := keyOf_int_mk Try.underlying5 (by simp [Lit.wf, IntKind.min, IntKind.max, IntKind.signed, IntKind.bits]; omega)
theorem zeroFn (w : World) : (zeroValue 59).run Try.prog w = .ok .nilFunc w := by kernel_rfl

/-- Which method is asked. -/
def evF (k : Nat) : Nat := if k = 1 then 24 else if k = 2 then 25 else if k = 3 then 26 else if k = 4 then 27 else if k = 5 then 28 else if k = 6 then 29 else if k = 7 then 30 else 0
/-- The map of all kinds of events. -/
structure EvD (D : DataW Unit) : Prop where
  at_ : ∀ k : Nat, D.atKey (.int .u8 (k : Int)) (.lit (.int .i64 0)) = .lit (.int .i64 (evF k : Int))
  has : ∀ k : Nat, Maps.has D (.int .u8 (k : Int)) = decide (1 ≤ k ∧ k ≤ 7)
def evPut : DataW Unit := (((((((((((((((DataW.map [] : DataW Unit)).put (.int .u8 1) (.lit (.int .i64 (24 : Int))))).put (.int .u8 2) (.lit (.int .i64 (25 : Int))))).put (.int .u8 3) (.lit (.int .i64 (26 : Int))))).put (.int .u8 4) (.lit (.int .i64 (27 : Int))))).put (.int .u8 5) (.lit (.int .i64 (28 : Int))))).put (.int .u8 6) (.lit (.int .i64 (29 : Int))))).put (.int .u8 7) (.lit (.int .i64 (30 : Int))))
theorem ev_put : EvD evPut := by
  have t0 : Tidy (DataW.map [] : DataW Unit) := tidy_empty
  have hk : ∀ k : Int, WideAt.IsKeyLit (.int .u8 k) := fun k => by simp [WideAt.IsKeyLit]
  have t1 := t0.put (hk 1) (.lit (.int .i64 (24 : Int)))
  have t2 := t1.put (hk 2) (.lit (.int .i64 (25 : Int)))
  have t3 := t2.put (hk 3) (.lit (.int .i64 (26 : Int)))
  have t4 := t3.put (hk 4) (.lit (.int .i64 (27 : Int)))
  have t5 := t4.put (hk 5) (.lit (.int .i64 (28 : Int)))
  have t6 := t5.put (hk 6) (.lit (.int .i64 (29 : Int)))
  have t7 := t6.put (hk 7) (.lit (.int .i64 (30 : Int)))
  refine ⟨fun k => ?_, fun k => ?_⟩
  · unfold evPut evF
    by_cases h7 : k = 7
    · subst h7; exact atKey_put_same t6.isMap (hk _) _ _
    rw [atKey_put_other (show (Lit.int .u8 (k : Int)) ≠ .int .u8 7 from fun e => h7 (by have := (Lit.int.inj e).2; omega))]
    by_cases h6 : k = 6
    · subst h6; exact atKey_put_same t5.isMap (hk _) _ _
    rw [atKey_put_other (show (Lit.int .u8 (k : Int)) ≠ .int .u8 6 from fun e => h6 (by have := (Lit.int.inj e).2; omega))]
    by_cases h5 : k = 5
    · subst h5; exact atKey_put_same t4.isMap (hk _) _ _
    rw [atKey_put_other (show (Lit.int .u8 (k : Int)) ≠ .int .u8 5 from fun e => h5 (by have := (Lit.int.inj e).2; omega))]
    by_cases h4 : k = 4
    · subst h4; exact atKey_put_same t3.isMap (hk _) _ _
    rw [atKey_put_other (show (Lit.int .u8 (k : Int)) ≠ .int .u8 4 from fun e => h4 (by have := (Lit.int.inj e).2; omega))]
    by_cases h3 : k = 3
    · subst h3; exact atKey_put_same t2.isMap (hk _) _ _
    rw [atKey_put_other (show (Lit.int .u8 (k : Int)) ≠ .int .u8 3 from fun e => h3 (by have := (Lit.int.inj e).2; omega))]
    by_cases h2 : k = 2
    · subst h2; exact atKey_put_same t1.isMap (hk _) _ _
    rw [atKey_put_other (show (Lit.int .u8 (k : Int)) ≠ .int .u8 2 from fun e => h2 (by have := (Lit.int.inj e).2; omega))]
    by_cases h1 : k = 1
    · subst h1; exact atKey_put_same t0.isMap (hk _) _ _
    rw [atKey_put_other (show (Lit.int .u8 (k : Int)) ≠ .int .u8 1 from fun e => h1 (by have := (Lit.int.inj e).2; omega))]
    simp only [h1, h2, h3, h4, h5, h6, h7, if_false]; rfl
  · unfold evPut
    by_cases h7 : k = 7
    · subst h7; exact has_put_same t6.isMap (hk _) _
    rw [has_put_other (show (Lit.int .u8 (k : Int)) ≠ .int .u8 7 from fun e => h7 (by have := (Lit.int.inj e).2; omega))]
    by_cases h6 : k = 6
    · subst h6; exact has_put_same t5.isMap (hk _) _
    rw [has_put_other (show (Lit.int .u8 (k : Int)) ≠ .int .u8 6 from fun e => h6 (by have := (Lit.int.inj e).2; omega))]
    by_cases h5 : k = 5
    · subst h5; exact has_put_same t4.isMap (hk _) _
    rw [has_put_other (show (Lit.int .u8 (k : Int)) ≠ .int .u8 5 from fun e => h5 (by have := (Lit.int.inj e).2; omega))]
    by_cases h4 : k = 4
    · subst h4; exact has_put_same t3.isMap (hk _) _
    rw [has_put_other (show (Lit.int .u8 (k : Int)) ≠ .int .u8 4 from fun e => h4 (by have := (Lit.int.inj e).2; omega))]
    by_cases h3 : k = 3
    · subst h3; exact has_put_same t2.isMap (hk _) _
    rw [has_put_other (show (Lit.int .u8 (k : Int)) ≠ .int .u8 3 from fun e => h3 (by have := (Lit.int.inj e).2; omega))]
    by_cases h2 : k = 2
    · subst h2; exact has_put_same t1.isMap (hk _) _
    rw [has_put_other (show (Lit.int .u8 (k : Int)) ≠ .int .u8 2 from fun e => h2 (by have := (Lit.int.inj e).2; omega))]
    by_cases h1 : k = 1
    · subst h1; exact has_put_same t0.isMap (hk _) _
    rw [has_put_other (show (Lit.int .u8 (k : Int)) ≠ .int .u8 1 from fun e => h1 (by have := (Lit.int.inj e).2; omega))]
    have : ¬ (1 ≤ k ∧ k ≤ 7) := by omega
    rw [decide_eq_false this]; rfl

abbrev MF (g : Nat) (w : World) (b n : Nat) (D : DataW Unit) : Prop := w.ownsMap Try.prog 5 (fnR g) b n D

set_option maxRecDepth 100000 in
set_option maxHeartbeats 2000000 in
theorem events_any (w : World) (g : Nat) :
    Calls Try.prog 18 #[.pointer (some ⟨g, 0, none⟩)] w fun e w' => ∃ b, e = .returned (.map (some b)) ∧ MF g w' b 7 evPut ∧ w.heap.size ≤ b ∧ Below w.heap.size w w' := by
  have hmm := @run_makeMap Try.prog
  have hmf : ∀ (fn : Fn) (first cap : Array Value) (w : World), (Instr.makeFunc fn first cap).run Try.prog w = .ok (.func fn first cap) w := fun _ _ _ _ => rfl
  have kl1 : keyOf Try.prog 5 (.int .u8 1) = some (.int .u8 1) := keyU8 1 (by omega)
  have kl2 : keyOf Try.prog 5 (.int .u8 2) = some (.int .u8 2) := keyU8 2 (by omega)
  have kl3 : keyOf Try.prog 5 (.int .u8 3) = some (.int .u8 3) := keyU8 3 (by omega)
  have kl4 : keyOf Try.prog 5 (.int .u8 4) = some (.int .u8 4) := keyU8 4 (by omega)
  have kl5 : keyOf Try.prog 5 (.int .u8 5) = some (.int .u8 5) := keyU8 5 (by omega)
  have kl6 : keyOf Try.prog 5 (.int .u8 6) = some (.int .u8 6) := keyU8 6 (by omega)
  have kl7 : keyOf Try.prog 5 (.int .u8 7) = some (.int .u8 7) := keyU8 7 (by omega)
  have hml : ∀ n : Nat, n < 8 → n < maxLen := fun n h => by unfold maxLen; omega
  have h0 : MF g (w.alloc (.map #[] 0)) w.heap.size 0 (.map []) := World.ownsMap_made w Try.prog 5 (fnR g)
  have g0 : Below w.heap.size w (w.alloc (.map #[] 0)) := bnew0 w _
  go_enter Try.func18, Try.ntmps18
  go_wp2_with (first
    | (with_reducible refine wpList_insert_own _ rfl _ _ _ 57 rfl 5 59 lawU8 Try.underlying57 (fnR g) w.heap.size 0 _ rfl (.int .u8 1) (fnV g 24) rfl rfl h0 (hml 0 (by omega)) (.int .u8 1) kl1 (.lit (.int .i64 (24 : Int))) [] (fnR_fn g _) ?_
       intro w1 h1 t1
       have g1 : Below w.heap.size w w1 := g0.trans ⟨t1.os, t1.tape, t1.output, t1.size, fun b hb => t1.block b (by have := g0.size; simp at this ⊢; omega) (by simp; omega)⟩)
    | (with_reducible refine wpList_insert_own _ rfl _ _ _ 57 rfl 5 59 lawU8 Try.underlying57 (fnR g) w.heap.size 1 _ rfl (.int .u8 2) (fnV g 25) rfl rfl h1 (hml 1 (by omega)) (.int .u8 2) kl2 (.lit (.int .i64 (25 : Int))) [] (fnR_fn g _) ?_
       intro w2 h2 t2
       have g2 : Below w.heap.size w w2 := g1.trans ⟨t2.os, t2.tape, t2.output, t2.size, fun b hb => t2.block b (by have := g1.size; simp at this ⊢; omega) (by simp; omega)⟩)
    | (with_reducible refine wpList_insert_own _ rfl _ _ _ 57 rfl 5 59 lawU8 Try.underlying57 (fnR g) w.heap.size 2 _ rfl (.int .u8 3) (fnV g 26) rfl rfl h2 (hml 2 (by omega)) (.int .u8 3) kl3 (.lit (.int .i64 (26 : Int))) [] (fnR_fn g _) ?_
       intro w3 h3 t3
       have g3 : Below w.heap.size w w3 := g2.trans ⟨t3.os, t3.tape, t3.output, t3.size, fun b hb => t3.block b (by have := g2.size; simp at this ⊢; omega) (by simp; omega)⟩)
    | (with_reducible refine wpList_insert_own _ rfl _ _ _ 57 rfl 5 59 lawU8 Try.underlying57 (fnR g) w.heap.size 3 _ rfl (.int .u8 4) (fnV g 27) rfl rfl h3 (hml 3 (by omega)) (.int .u8 4) kl4 (.lit (.int .i64 (27 : Int))) [] (fnR_fn g _) ?_
       intro w4 h4 t4
       have g4 : Below w.heap.size w w4 := g3.trans ⟨t4.os, t4.tape, t4.output, t4.size, fun b hb => t4.block b (by have := g3.size; simp at this ⊢; omega) (by simp; omega)⟩)
    | (with_reducible refine wpList_insert_own _ rfl _ _ _ 57 rfl 5 59 lawU8 Try.underlying57 (fnR g) w.heap.size 4 _ rfl (.int .u8 5) (fnV g 28) rfl rfl h4 (hml 4 (by omega)) (.int .u8 5) kl5 (.lit (.int .i64 (28 : Int))) [] (fnR_fn g _) ?_
       intro w5 h5 t5
       have g5 : Below w.heap.size w w5 := g4.trans ⟨t5.os, t5.tape, t5.output, t5.size, fun b hb => t5.block b (by have := g4.size; simp at this ⊢; omega) (by simp; omega)⟩)
    | (with_reducible refine wpList_insert_own _ rfl _ _ _ 57 rfl 5 59 lawU8 Try.underlying57 (fnR g) w.heap.size 5 _ rfl (.int .u8 6) (fnV g 29) rfl rfl h5 (hml 5 (by omega)) (.int .u8 6) kl6 (.lit (.int .i64 (29 : Int))) [] (fnR_fn g _) ?_
       intro w6 h6 t6
       have g6 : Below w.heap.size w w6 := g5.trans ⟨t6.os, t6.tape, t6.output, t6.size, fun b hb => t6.block b (by have := g5.size; simp at this ⊢; omega) (by simp; omega)⟩)
    | (with_reducible refine wpList_insert_own _ rfl _ _ _ 57 rfl 5 59 lawU8 Try.underlying57 (fnR g) w.heap.size 6 _ rfl (.int .u8 7) (fnV g 30) rfl rfl h6 (hml 6 (by omega)) (.int .u8 7) kl7 (.lit (.int .i64 (30 : Int))) [] (fnR_fn g _) ?_
       intro w7 h7 t7
       have g7 : Below w.heap.size w w7 := g6.trans ⟨t7.os, t7.tape, t7.output, t7.size, fun b hb => t7.block b (by have := g6.size; simp at this ⊢; omega) (by simp; omega)⟩))
  go_ret
  exact ⟨w.heap.size, rfl, h7, Nat.le_refl _, g7⟩
end Go.Proofs.Ytihafoeimpjdaaa

namespace Go.Proofs.Ytihafoeimpjdaaa
open Go.RowKit Go.Sort Go.Maps
set_option linter.unusedVariables false
set_option linter.unusedSimpArgs false

theorem LbK.put {s : Lb} (h : LbK s) {i : Nat} {y : Ln} (ht : y.took.length = if y.has then s.ns.length else 0) (hd : y.fr.data.length ≤ 1000) : LbK (setL s i y) := by
  have hl : (setL s i y).ns.length = s.ns.length := by simp [setL]
  refine ⟨fun x hx => ?_, by rw [hl]; exact h.n2, by rw [hl]; exact h.n32, fun x hx => ?_⟩
  · rw [hl]
    rcases List.mem_or_eq_of_mem_set hx with hx | rfl
    · exact h.tk x hx
    · exact ht
  · rcases List.mem_or_eq_of_mem_set hx with hx | rfl
    · exact h.da x hx
    · exact hd
theorem LbK.sil {s : Lb} (h : LbK s) (n : Nat) : LbK { s with sil := n } := ⟨h.tk, h.n2, h.n32, h.da⟩
theorem LbK.step {s t : Lb} {e : Ev} (h : LbK s) (he : e.ok = true → e.fr.data.length ≤ 1000) (hs : stL s e = some t) : LbK t ∧ t.sil ≤ s.sil + 1 := by
  obtain ⟨h0, x, hx, hc⟩ := stL_cases hs
  have hxm := List.mem_of_getElem? hx
  have hk := h.tk x hxm
  have hd := h.da x hxm
  cases hc with
  | give h1 h2 h3 h4 e => subst e; exact ⟨h.put (by simp) (he h4), by simp [setL]⟩
  | drop h1 h2 h3 e => subst e; exact ⟨h.put (by simp) (by simp [zeroFr]), by simp [setL]⟩
  | crash h1 e => subst e; exact ⟨h.put hk hd, by simp [setL]⟩
  | take y h1 h2 h3 h4 h5 h6 e =>
    subst e
    have hym := List.mem_of_getElem? h3
    exact ⟨h.put (by simpa using h.tk y hym) (h.da y hym), by simp [setL]⟩
  | sent h1 h2 h3 e => subst e; exact ⟨(h.put (by simp) (by simp [zeroFr])).sil _, by dsimp only; split <;> omega⟩
  | goes h1 h2 e => subst e; exact ⟨h.put hk hd, by simp [setL]⟩
  | back h1 h2 h3 e => subst e; exact ⟨h.put hk hd, by simp [setL]⟩
theorem stL_out {s : Lb} {e : Ev} (h : e.node < 0 ∨ (s.ns.length : Int) ≤ e.node) : stL s e = none := by
  unfold stL
  rcases h with h | h
  · rw [if_pos h]
  · rw [if_neg (by omega), List.getElem?_eq_none (by omega)]
theorem stL_kind {s : Lb} {e : Ev} (h : ¬ (1 ≤ e.what ∧ e.what ≤ 7)) : stL s e = none := by
  unfold stL
  split
  · rfl
  · split
    · rfl
    · rw [if_neg (by omega), if_neg (by omega), if_neg (by omega), if_neg (by omega), if_neg (by omega), if_neg (by omega), if_neg (by omega)]
theorem newL_K {n : Nat} (h2 : 2 ≤ n) (h32 : n ≤ 32) : LbK (newL n) := by
  have e : ∀ x ∈ (newL n).ns, x = n0L := fun x hx => (List.mem_replicate.1 hx).2
  refine ⟨fun x hx => ?_, by simpa [newL] using h2, by simpa [newL] using h32, fun x hx => ?_⟩
  · rw [e x hx]; rfl
  · rw [e x hx]; simp [n0L, zeroFr]

/-- What a run has come to. -/
def RuA (s0 : Lb) (l : List Ev) (k : Nat) (t : Lb) : Prop := ruL s0 (l.take k) = (t, k, true)
theorem RuA.start (s0 : Lb) (l : List Ev) : RuA s0 l 0 s0 := rfl
theorem RuA.step {s0 t t' : Lb} {l : List Ev} {k : Nat} {e : Ev} (h : RuA s0 l k t) (he : l[k]? = some e) (hs : stL t e = some t') : RuA s0 l (k + 1) t' := by
  unfold RuA at h ⊢
  obtain ⟨hk, he⟩ := List.getElem?_eq_some_iff.1 he
  rw [List.take_succ_eq_append_getElem hk, ruL_append, h, if_pos rfl, he, ruL_some _ hs]
  rfl
theorem RuA.fail {s0 t : Lb} {l : List Ev} {k : Nat} {e : Ev} (h : RuA s0 l k t) (he : l[k]? = some e) (hs : stL t e = none) : ruL s0 l = (t, k, false) := by
  unfold RuA at h
  obtain ⟨hk, he⟩ := List.getElem?_eq_some_iff.1 he
  have e1 : l = l.take k ++ (e :: l.drop (k + 1)) := by
    conv => lhs; rw [← List.take_append_drop k l, List.drop_eq_getElem_cons hk, he]
  rw [e1, ruL_append, h, if_pos rfl, ruL_none _ hs]
  rfl
theorem RuA.all {s0 t : Lb} {l : List Ev} (h : RuA s0 l l.length t) : ruL s0 l = (t, l.length, true) := by
  unfold RuA at h
  rwa [List.take_length] at h

theorem ev_len {m : Ma} (h : m.ev.ok = true) : m.ev.fr.data.length ≤ 1000 := by
  have : riF m.fr.id m.fr.ext m.fr.rem m.fr.dlc m.fr.data.length = true := h
  unfold riF at this
  simp at this
  have h2 := this.2
  unfold lonF at h2
  show m.fr.data.length ≤ 1000
  rw [h2]
  repeat' split
  all_goals omega

section
variable {B : Nat} {w w1 : World} {g gN c sil i : Nat} {hs : List Hol} {x : Hol} {m : Ma}

/-- Whichever method is asked. -/
theorem method_any (h : BuM B w g gN c hs sil) (hK : LbK (lbOf hs sil)) (hsl : sil ≤ 1000000000) (hi : hs[i]? = some x) (hm : m.node = (i : Int)) (hR : MaR w m) (hda : 0 < m.fr.data.length → NB m.da gN) (hw : 1 ≤ m.what ∧ m.what ≤ 7) :
    Calls Try.prog (evF m.what) #[.pointer (some ⟨g, 0, none⟩), .agg (mayV m)] w (MetR B w g gN c hs sil m.ev) := by
  rcases (show m.what = 1 ∨ m.what = 2 ∨ m.what = 3 ∨ m.what = 4 ∨ m.what = 5 ∨ m.what = 6 ∨ m.what = 7 by omega) with e | e | e | e | e | e | e
  · rw [show evF m.what = 24 by rw [e]; rfl]; exact give_any16 h hK hi hm e hR hda
  · rw [show evF m.what = 25 by rw [e]; rfl]; exact drop_any h hi hm e
  · rw [show evF m.what = 26 by rw [e]; rfl]; exact crash_any h hi hm e
  · rw [show evF m.what = 27 by rw [e]; rfl]; exact take_any h hK hi hm e
  · rw [show evF m.what = 28 by rw [e]; rfl]; exact sent_any h hK hsl hi hm e
  · rw [show evF m.what = 29 by rw [e]; rfl]; exact off_any h hi hm e
  · rw [show evF m.what = 30 by rw [e]; rfl]; exact on_any h hi hm e
theorem method_plain {k : Nat} (hw : 1 ≤ k ∧ k ≤ 7) : plainFn (evF k) = true := by
  rcases (show k = 1 ∨ k = 2 ∨ k = 3 ∨ k = 4 ∨ k = 5 ∨ k = 6 ∨ k = 7 by omega) with e | e | e | e | e | e | e <;> (rw [e]; kernel_rfl)
theorem evF_ne {k : Nat} (hw : 1 ≤ k ∧ k ≤ 7) : evF k ≠ 0 := by
  rcases (show k = 1 ∨ k = 2 ∨ k = 3 ∨ k = 4 ∨ k = 5 ∨ k = 6 ∨ k = 7 by omega) with e | e | e | e | e | e | e <;> (rw [e]; decide)

theorem ev_look {b : Nat} (h : MF g w b 7 evPut) {k : Nat} (hk : k < 256) : ∃ v, (Instr.lookup 57 (.map (some b)) (.int .u8 (k : Int)) true).run Try.prog w = .ok (.tuple #[v, .bool (decide (1 ≤ k ∧ k ≤ 7))]) w ∧ (1 ≤ k ∧ k ≤ 7 → v = fnV g (evF k)) := by
  obtain ⟨v, ps, hrun, hv⟩ := h.look_ok lawU8 Try.underlying57 (zeroFn w) (zd := .lit (.int .i64 0)) (fnR_nil g) (keyU8 k hk)
  rw [ev_put.has k] at hrun
  rw [ev_put.at_ k] at hv
  exact ⟨v, hrun, fun hw => fnR_inv hv (evF_ne hw)⟩
theorem MF.ch {b n : Nat} {D : DataW Unit} {S : Nat → Prop} (h : MF g w b n D) (k : Ch S w w1) (hn : ¬ S b) : MF g w1 b n D := by
  have hlt := h.lt
  obtain ⟨es, clock, hb, F, hs, hD⟩ := h
  exact ⟨es, clock, (k.block b hlt hn).trans hb, F, hs, hD⟩
end

section
variable {ops : Array Oper} {rest : List Oper} {o : Oper} {a : Act} {w : World} {K : Act → World → Prop} {Q : Exit → Act → World → Prop}
/-- A method that stands in a slot is called. -/
theorem wpList_callM {F : FuncId} (hpl : plainFn F = true) (hw : Region.wanted o (yielded ops a.tmps) = true) (x y : Operand) (ts : Array TypeId) (ho : o.op = Op.call { callee := .value x, args := #[y], argTypes := ts }) (p v : Value) (hx : a.eval x = .func (.func F) #[p] #[]) (hy : a.eval y = v)
    (R : Ending → World → Prop) (hc : Calls Try.prog F #[p, v] w R) (h : ∀ e w', R e w' → ∃ v, e = .returned v ∧ wpList Try.prog ops Q rest (a.put o.dst v) w') :
    wpList Try.prog ops Q (o :: rest) a w :=
  wpList_step fun K hK => by
    rw [if_pos hw]
    unfold Oper.wp
    have e : (execOp a.eval o).run Try.prog w = .ok (.enter F #[p, v]) w := by
      have := call_plain hpl #[p, v] w
      simp [execOp, ho, resolve, Deferred.ofValue, hx, hy, invoke, this]
    rw [e]
    refine hc.mono fun e w' hR => ?_
    obtain ⟨v, rfl, hk⟩ := h e w' hR
    exact hK _ _ hk
end
end Go.Proofs.Ytihafoeimpjdaaa
