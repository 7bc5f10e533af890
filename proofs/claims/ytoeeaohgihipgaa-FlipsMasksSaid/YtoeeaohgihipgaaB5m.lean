/-
  Contracts: the library's clone and its sort, over slices of flips.
-/
import Derived.Test.YtoeeaohgihipgaaB5l
import Derived.Test.YtoeeaohgihipgaaLay5
namespace Go.Proofs.Ytoeeaohgihipgaa
open Go.RowKit Go.Sort
set_option linter.unusedVariables false

theorem clone_any (w : World) (a : Option Addr) (n c : Nat) (l : List Fl) (h : RK fe 2 w a n c l) (hn : n ≤ 1000000) :
    Calls Try.prog 35 #[.slice a n c] w fun e w' => ∃ a' c', e = .returned (.slice a' n c') ∧ OK fe 2 38 w.heap.size w' a' n c' l ∧ Below w.heap.size w w' := by
  have q22 : ∀ (w : World) (a : Option Addr) (n c n' c' : Nat), (binOp .eql 22 (.slice a n c) (.slice none n' c')).run Try.prog w = .ok (.bool a.isNone) w := fun w a n c n' c' => Lib.run_eql_slice_nil w _ _ a n c n' c' tF.und
  cases a with
  | none =>
    obtain rfl : n = 0 := by
      by_cases h0 : n = 0
      · exact h0
      · obtain ⟨b, off, e, _⟩ := h.cell (by omega); cases e
    obtain rfl : l = [] := List.eq_nil_of_length_eq_zero h.len
    go_enter Try.func35, Try.ntmps35
    go_wp2
    go_ret
    exact ⟨none, 0, rfl, OK.nil _ _ _ _ _, Below.refl _ _⟩
  | some ad =>
    have h1 := h.below (bnew0 w (.cells #[] 38))
    have ho := ok_lit eF 38 w.heap.size w [] #[] 0 rfl rfl (by omega) (Nat.le_refl _)
    go_enter Try.func35, Try.ntmps35
    go_wp2_with (at_builtin; refine wpList_appK (enc := fe) tF eF rfl _ _ rfl rfl ho rfl h1 (by omega) (by omega) (by simp) ?_; intro w10 a10 c10 hol10 hb10)
    go_ret
    rw [Nat.zero_add, List.nil_append] at hol10
    exact ⟨a10, c10, rfl, hol10, (bnew0 w _).trans hb10⟩

theorem ltOf_cmpF : ltOf cmpF = ltF := by
  funext x y
  exact cmpF_lt x y

theorem swoF : SWO (ltOf cmpF) where
  irrefl x := by rw [ltOf_cmpF]; exact ltF_irrefl x
  trans x y z h1 h2 := by rw [ltOf_cmpF] at *; exact ltF_trans h1 h2
  ntrans x y z h1 h2 := by rw [ltOf_cmpF] at *; exact ltF_ntrans h1 h2

theorem holdsF {w : World} {g n c B : Nat} {l : List Fl} (h : OK fe 2 38 B w (some ⟨g, 0, none⟩) n c l) : HoldsK fe 2 w g 0 l.toArray := by
  intro j hj
  rw [size_flatK] at hj
  simp only [List.size_toArray] at hj
  rw [get_flatK _ _ _ _ (by simpa using hj), Nat.zero_add]
  have hi : j / 2 < l.length := by omega
  constructor
  · rw [h.own.cellAt j (by rw [← h.len]; exact hj)]
    have hx : l[j / 2]? = some l[j / 2] := List.getElem?_eq_getElem hi
    have e : j = j / 2 * 2 + j % 2 := by omega
    have hg : l.toArray[j / 2]! = l[j / 2] := by simp [hi]
    rw [hg]
    have hm : j % 2 < 2 := Nat.mod_lt _ (by decide)
    have hv : (fe l[j / 2])[j % 2]? = some (fe l[j / 2])[j % 2]! := by
      have : j % 2 < (fe l[j / 2]).length := by rw [eF.len]; exact hm
      rw [List.getElem?_eq_getElem this]
      simp [this]
    have := flat_at eF l (j / 2) (j % 2) _ _ hx hv
    rwa [← e] at this
  · rcases h.ex with ⟨h0, _⟩ | ⟨g', cur, hg, hBg, hh, _⟩
    · cases h0
    · cases hg
      exact frozen_of_row w _ j cur _ hh

theorem sort_any (w : World) (a : Option Addr) (n c B : Nat) (l : List Fl) (h : OK fe 2 38 B w a n c l) (hn : n ≤ 1000000) :
    Calls Try.prog 36 #[.slice a n c, .func (.func 31) #[] #[]] w fun e w' => e = .returned (.tuple #[]) ∧ RK fe 2 w' a n c (srt l) ∧ (∀ k, k < w.heap.size → (∀ g, a = some ⟨g, 0, none⟩ → k ≠ g) → w'.heap[k]? = w.heap[k]?) ∧ Below B w w' := by
  by_cases h0 : n = 0
  · subst h0
    obtain rfl : l = [] := List.eq_nil_of_length_eq_zero h.len
    have hs := Go.Proofs.AnyF.slices_SortFunc_none Try.sortF a c (.func (.func 31) #[] #[]) w
    change Calls Try.prog 36 _ _ _ at hs
    refine hs.mono ?_
    rintro e w' ⟨rfl, rfl⟩
    have e0 : srt ([] : List Fl) = [] := by simp [srt]
    rw [e0]
    exact ⟨rfl, RK.nil _ _ _ _ _, fun k _ _ => rfl, Below.refl _ _⟩
  · rcases h.ex with ⟨_, h0', _⟩ | ⟨g, cur, rfl, hBg, hh, _⟩
    · omega
    have hlt : g < w.heap.size := (Array.getElem?_eq_some_iff.1 hh).1
    have hH := holdsF h
    have eg : ∀ args w, (callFunc 31 args).run Try.prog w = .ok (.enter 31 args) w := enters_of Try.func31 (by kernel_rfl) rfl
    have hs := Go.Proofs.AnyQ.slices_SortFunc_total Try.sortF 2 Try.isAgg38 Try.sizeOf38 fe (fun _ => rfl) eF.one cmpF swoF 31 #[] g 0 c l.toArray w eg (fun m os dk _ x y => closure_any x y _) hH hlt (by simp [h.len]; omega) (fun x y h1 h2 => by rw [ltOf_cmpF] at h1 h2; exact ltF_tri h1 h2)
    change Calls Try.prog 36 _ _ _ at hs
    rw [ltOf_cmpF] at hs
    simp only [List.size_toArray, h.len] at hs
    refine hs.mono ?_
    rintro e w' ⟨rfl, q, os, rfl⟩
    have hsz : ((srt l).toArray).size = l.toArray.size := by simp [srt_length]
    have hH2 : HoldsK fe 2 (sortWorldK fe 2 w g 0 q (srt l).toArray os) g 0 (srt l).toArray := by
      refine holdsK_grow fe 2 _ os g 0 _ ?_ (holdsK_putRowK fe 2 (Sort.ahead w q) g 0 l.toArray _ hH hsz)
      simp [putRowK, Sort.ahead]; exact hlt
    have hblk : ∀ k, k < w.heap.size → k ≠ g → (sortWorldK fe 2 w g 0 q (srt l).toArray os).heap[k]? = w.heap[k]? := fun k hk hne => by
      unfold sortWorldK grow putRowK putRow mapBlock Sort.ahead
      simp only
      rw [Array.getElem?_append_left (by simpa using hk), Array.getElem?_modify, if_neg (fun e => hne e.symm)]
    refine ⟨rfl, ⟨by rw [srt_length]; exact h.len, h.cap, fun hp => ⟨g, 0, rfl, ?_, fun i x j v hx hv => ?_⟩⟩, fun k hk hne => hblk k hk (hne g rfl), ⟨rfl, rfl, rfl, ?_, fun k hk => hblk k (Nat.lt_of_lt_of_le hk (Nat.le_trans hBg (Nat.le_of_lt hlt))) (by omega)⟩⟩
    · unfold sortWorldK grow putRowK putRow mapBlock Sort.ahead; simp; omega
    · have hi : i < (srt l).length := (List.getElem?_eq_some_iff.1 hx).1
      have hj : j < 2 := by have := (List.getElem?_eq_some_iff.1 hv).1; rwa [eF.len] at this
      have hc := (hH2.cell (i := i) (c := j) (by simpa using hi) hj).1
      have hg : (srt l).toArray[i]! = x := by rw [List.getElem?_eq_getElem hi] at hx; simp at hx; simp [hi, hx]
      rw [hg] at hc
      have hv' : (fe x)[j]! = v := by simp [List.getElem!_eq_getElem?_getD, hv]
      rw [hv'] at hc
      show World.cell? (sortWorldK fe 2 w g 0 q (srt l).toArray os) _ = _
      simpa [Nat.zero_add] using hc
    · unfold sortWorldK grow putRowK putRow mapBlock Sort.ahead; simp
end Go.Proofs.Ytoeeaohgihipgaa
