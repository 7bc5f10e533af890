/-
  Plain mathematics of CtlTwins, put together: whichever of the two drives recessive where they part.
-/
import Derived.Test.YtaagfaidjihjcaaM8m
namespace Go.Proofs.Ytaagfaidjihjcaa
set_option linter.unusedVariables false

theorem tn_end {A B : Fr} {PB d e : Nat} (hde : d < e ∧ e ≤ d + 5) {a b : Ct} (h : TN A B PB d e (e + 18) a b) : (a.ph = 0 ∧ a.has = true ∧ a.cf = cfT 8) ∧ (b.ph = 0 ∧ b.has = true ∧ b.cf = cfT 8) := by
  rcases h with ⟨h1, _⟩ | ⟨_, h1, _⟩ | ⟨_, h1, _⟩ | ⟨_, h1, _⟩ | ⟨_, h1, _⟩ | ⟨_, h1, _⟩ | ⟨_, rfl, rfl⟩
  · omega
  · omega
  · omega
  · omega
  · omega
  · omega
  · exact ⟨⟨rfl, rfl, rfl⟩, rfl, rfl, rfl⟩

theorem twins_all {F G : Fr} (hF : Good F) (hG : Good G) (hne : F ≠ G) (h1 : F.id = G.id) (h2 : F.ext = G.ext) (h3 : F.rem = G.rem) :
    ∃ (sw : Bool) (d e : Nat) (T : Nat → Ct → Ct → Prop), (1 ≤ d ∧ d < (putL (boL F)).length ∧ d < (putL (boL G)).length ∧ d < e ∧ e ≤ d + 5) ∧
      (∀ k, k < d → (wiL F)[k]? = (wiL G)[k]?) ∧ ((wiL F)[d]? = some (!sw) ∧ (wiL G)[d]? = some sw) ∧ T 0 (giC F) (giC G) ∧
      (∀ (i : Nat) (ca cb : Ct), i ≤ e + 17 → T i ca cb → (StepOK ca ∧ StepOK cb) ∧ T (i + 1) (stC ca (dvC ca && dvC cb)).1 (stC cb (dvC ca && dvC cb)).1 ∧
        (if sw then (stC cb (dvC ca && dvC cb)).2 else (stC ca (dvC ca && dvC cb)).2) = (if i = d then (4, zeroFr) else noH) ∧
        (if sw then (stC ca (dvC ca && dvC cb)).2 else (stC cb (dvC ca && dvC cb)).2) = (if i = e then (4, zeroFr) else noH)) ∧
      (∀ (i : Nat) (ca cb : Ct), 1 ≤ i → i ≤ e + 17 → T i ca cb → ca.ph ≠ 0 ∧ cb.ph ≠ 0) ∧
      (∀ (ca cb : Ct), T (e + 18) ca cb → (ca.ph = 0 ∧ ca.has = true ∧ ca.cf = cfT 8) ∧ (cb.ph = 0 ∧ cb.has = true ∧ cb.cf = cfT 8)) := by
  obtain ⟨p, r1, r2, x, e1, e2, hp⟩ := twins_split hF hG hne h1 h2 h3
  obtain ⟨a1, a2, a3⟩ := wi_split e1
  obtain ⟨b1, b2, b3⟩ := wi_split e2
  have hpre : ∀ k, k < (putL p).length → (wiL F)[k]? = (wiL G)[k]? := fun k hk => by
    have := congrArg (fun l => l[k]?) (a2.trans b2.symm)
    simpa [List.getElem?_take, hk] using this
  cases x with
  | true =>
    obtain ⟨e, hT⟩ := Twin.mk' hF hG h2 e1 e2 hp
    obtain ⟨c1, c2, c3, c4, c5, _⟩ := hT.bd
    exact ⟨false, (putL p).length, e, TN F G (putL (boL G)).length (putL p).length e, ⟨by omega, c4, c5, c2, c3⟩, hpre, ⟨a3, b3⟩, .inl ⟨rfl, rfl, rfl⟩,
      fun i ca cb hi hh => ⟨tn_ok hT hi hh, tn_step hT hi hh⟩, fun i ca cb hi1 hi hh => tn_ph hT hi1 hi hh, fun ca cb hh => tn_end ⟨c2, c3⟩ hh⟩
  | false =>
    obtain ⟨e, hT⟩ := Twin.mk' hG hF h2.symm e2 e1 (by rw [← h2]; exact hp)
    obtain ⟨c1, c2, c3, c4, c5, _⟩ := hT.bd
    refine ⟨true, (putL p).length, e, fun i ca cb => TN G F (putL (boL F)).length (putL p).length e i cb ca, ⟨by omega, c5, c4, c2, c3⟩, hpre, ⟨a3, b3⟩, .inl ⟨rfl, rfl, rfl⟩,
      fun i ca cb hi hh => ⟨(tn_ok hT hi hh).symm, ?_⟩, fun i ca cb hi1 hi hh => (tn_ph hT hi1 hi hh).symm, fun ca cb hh => (tn_end ⟨c2, c3⟩ hh).symm⟩
    have := tn_step hT hi hh
    rw [Bool.and_comm (dvC ca)]
    exact this

/-- Either the two are the same, or they part. -/
def TwE (F G : Fr) (W V : List Bool) (P Q dd N1 : Nat) : Prop := (F = G ∧ dd = N1) ∨ (F ≠ G ∧ (dd < P ∧ dd < Q) ∧ ∃ (sw : Bool) (e : Nat) (T : Nat → Ct → Ct → Prop), (dd < e ∧ e ≤ dd + 5) ∧ (W[dd]? = some (!sw) ∧ V[dd]? = some sw) ∧ T 0 (giC F) (giC G) ∧
      (∀ (i : Nat) (ca cb : Ct), i ≤ e + 17 → T i ca cb → (StepOK ca ∧ StepOK cb) ∧ T (i + 1) (stC ca (dvC ca && dvC cb)).1 (stC cb (dvC ca && dvC cb)).1 ∧
        (if sw then (stC cb (dvC ca && dvC cb)).2 else (stC ca (dvC ca && dvC cb)).2) = (if i = dd then (4, zeroFr) else noH) ∧
        (if sw then (stC ca (dvC ca && dvC cb)).2 else (stC cb (dvC ca && dvC cb)).2) = (if i = e then (4, zeroFr) else noH)) ∧
      (∀ (i : Nat) (ca cb : Ct), 1 ≤ i → i ≤ e + 17 → T i ca cb → ca.ph ≠ 0 ∧ cb.ph ≠ 0) ∧
      (∀ (ca cb : Ct), T (e + 18) ca cb → (ca.ph = 0 ∧ ca.has = true ∧ ca.cf = cfT 8) ∧ (cb.ph = 0 ∧ cb.has = true ∧ cb.cf = cfT 8)))

theorem twins_or {F G : Fr} (hF : Good F) (hG : Good G) (h1 : F.id = G.id) (h2 : F.ext = G.ext) (h3 : F.rem = G.rem) :
    ∃ dd, (1 ≤ dd ∧ dd ≤ (putL (boL F)).length + 10 ∧ dd ≤ (putL (boL G)).length + 10) ∧ (∀ k, k < dd → (wiL F)[k]? = (wiL G)[k]?) ∧ TwE F G (wiL F) (wiL G) (putL (boL F)).length (putL (boL G)).length dd ((putL (boL F)).length + 10) := by
  by_cases hne : F = G
  · subst hne
    exact ⟨_, ⟨by omega, Nat.le_refl _, Nat.le_refl _⟩, fun _ _ => rfl, .inl ⟨rfl, rfl⟩⟩
  · obtain ⟨sw, d, e, T, ⟨c1, c2, c3, c4, c5⟩, k1, k2, k3, k4, k5, k6⟩ := twins_all hF hG hne h1 h2 h3
    exact ⟨d, ⟨c1, by omega, by omega⟩, k1, .inr ⟨hne, ⟨c2, c3⟩, sw, e, T, ⟨c4, c5⟩, k2, k3, k4, k5, k6⟩⟩
end Go.Proofs.Ytaagfaidjihjcaa
