/-
  Contracts: what is done with a bit, by phases; Step.
-/
import Derived.Test.YtgpmhmdofefdcaaGreatB8o
import Derived.Test.YtgpmhmdofefdcaaGreatB1f
import Derived.Test.YtgpmhmdofefdcaaGreatB8g
import Derived.Test.YtgpmhmdofefdcaaGreatB8i
namespace Go.Proofs.YtgpmhmdofefdcaaGreat
open Go.RowKit Go.Sort
set_option linter.unusedVariables false

/-- What is done with a bit, by phases. -/
def doC : Array Value := #[.func (.func 56) #[] #[], .func (.func 57) #[] #[], .func (.func 58) #[] #[], .func (.func 59) #[] #[],
  .func (.func 58) #[] #[], .func (.func 60) #[] #[], .func (.func 61) #[] #[], .func (.func 62) #[] #[], .func (.func 63) #[] #[], .func (.func 64) #[] #[]]

theorem rowD : RowT Tryz.prog 94 10 := rowT_of (by kernel_rfl) (by kernel_rfl)

theorem doings_any (w : World) : Calls Tryz.prog 44 #[] w fun e w' => e = .returned (.agg doC) ∧ Below w.heap.size w w' := by
  go_enter Tryz.func44, Tryz.ntmps44
  go_wp2
  exact bodyPost_ret (v := .agg doC) (results_row rowD rfl _ _ _ rfl (heap_alloc_new w (.cells doC 94)) rfl) rfl ⟨rfl, bnew0 w _⟩

/-- What Step asks of a controller. -/
structure StepOK (c : Ct) : Prop where
  ph : c.ph < 10
  n : c.n ≤ 1000000000
  mo : c.ph ≠ 9 → moC c.cf ≤ 1
  gv : c.has = true → Good c.give
  dl : c.give.data.length ≤ 1000000
  wl : c.wire.length ≤ 1000000
  tl : c.tk.l.length ≤ 1000000
  tk : c.ph = 1 → TkOK c.tk
  sn : c.ph = 1 → c.sends = true → SndOK c
  dn : c.ph = 6 → c.n < 8

theorem lead8 (c : Ct) (x : Bool) (hok : StepOK c) : ∃ F, doC[c.ph]? = some (.func (.func F) #[] #[]) ∧ plainFn F = true ∧ ∀ (B : Nat) (w : World) (g : Nat) (s : Sl), StB B w g c s →
    Calls Tryz.prog F #[.pointer (some ⟨g, 0, none⟩), .bool x] w (Told B w g s (stC c x)) := by
  have hph := hok.ph
  have hcase : c.ph = 0 ∨ c.ph = 1 ∨ c.ph = 2 ∨ c.ph = 3 ∨ c.ph = 4 ∨ c.ph = 5 ∨ c.ph = 6 ∨ c.ph = 7 ∨ c.ph = 8 ∨ c.ph = 9 := by omega
  rcases hcase with e | e | e | e | e | e | e | e | e | e
  · exact ⟨_, by rw [e]; rfl, by kernel_rfl, fun B w g s h => idle_st B w g c s x _ (by unfold stC; rw [if_pos e]) h (hok.mo (by omega)) hok.gv⟩
  · exact ⟨_, by rw [e]; rfl, by kernel_rfl, fun B w g s h => inFrame_st B w g c s x _ (by unfold stC; rw [if_neg (by omega), if_pos e]) h (hok.sn e) (hok.tk e) (hok.mo (by omega))⟩
  · exact ⟨_, by rw [e]; rfl, by kernel_rfl, fun B w g s h => inFlag_st B w g c s x _ (by unfold stC; rw [if_neg (by omega), if_neg (by omega), if_pos (by omega)]) h (hok.mo (by omega)) hok.n⟩
  · exact ⟨_, by rw [e]; rfl, by kernel_rfl, fun B w g s h => weak_st B w g c s x _ (by unfold stC; rw [if_neg (by omega), if_neg (by omega), if_neg (by omega), if_pos e]) h (hok.mo (by omega)) hok.n⟩
  · exact ⟨_, by rw [e]; rfl, by kernel_rfl, fun B w g s h => inFlag_st B w g c s x _ (by unfold stC; rw [if_neg (by omega), if_neg (by omega), if_pos (by omega)]) h (hok.mo (by omega)) hok.n⟩
  · exact ⟨_, by rw [e]; rfl, by kernel_rfl, fun B w g s h => wait_st B w g c s x _ (by unfold stC; rw [if_neg (by omega), if_neg (by omega), if_neg (by omega), if_neg (by omega), if_pos e]) h (hok.mo (by omega)) hok.n⟩
  · exact ⟨_, by rw [e]; rfl, by kernel_rfl, fun B w g s h => delimit_st B w g c s x _ (by unfold stC; rw [if_neg (by omega), if_neg (by omega), if_neg (by omega), if_neg (by omega), if_neg (by omega), if_pos e]) h (hok.mo (by omega)) (hok.dn e)⟩
  · exact ⟨_, by rw [e]; rfl, by kernel_rfl, fun B w g s h => between_st B w g c s x _ (by unfold stC; rw [if_neg (by omega), if_neg (by omega), if_neg (by omega), if_neg (by omega), if_neg (by omega), if_neg (by omega), if_pos e]) h hok.n hok.gv⟩
  · exact ⟨_, by rw [e]; rfl, by kernel_rfl, fun B w g s h => hold_st B w g c s x _ (by unfold stC; rw [if_neg (by omega), if_neg (by omega), if_neg (by omega), if_neg (by omega), if_neg (by omega), if_neg (by omega), if_neg (by omega), if_pos e]) h hok.n⟩
  · exact ⟨_, by rw [e]; rfl, by kernel_rfl, fun B w g s h => away_st B w g c s x _ (by unfold stC; rw [if_neg (by omega), if_neg (by omega), if_neg (by omega), if_neg (by omega), if_neg (by omega), if_neg (by omega), if_neg (by omega), if_neg (by omega)]) h⟩
end Go.Proofs.YtgpmhmdofefdcaaGreat
