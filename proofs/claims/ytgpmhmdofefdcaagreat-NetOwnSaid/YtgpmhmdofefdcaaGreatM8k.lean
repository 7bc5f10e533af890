/-
  Plain mathematics of layer 8: a sender that nobody hears, time and again.
-/
import Derived.Test.YtgpmhmdofefdcaaGreatB8z
namespace Go.Proofs.YtgpmhmdofefdcaaGreat
set_option linter.unusedVariables false
set_option linter.unusedSectionVars false

/-- Idle, with a frame. -/
def idF (F : Fr) (t : Int) (e b : Bool) : Ct := ⟨0, 0, cfT t, true, F, false, b, [], 0, s0, false, 0, e, false⟩
/-- A sender, behind so many bits, whose last flag was of whichever kind. -/
def sndE (F : Fr) (cf : Cf) (s : Tk) (k : Nat) (e : Bool) : Ct := ⟨1, 0, cf, true, F, true, true, wiL F, k, s, false, 0, e, false⟩

theorem idF_begin (F : Fr) (t : Int) (e b : Bool) : stC (idF F t e b) false = (sndE F (cfT t) (nxT s0 false).1 1 e, noH) ∧ dvC (idF F t e b) = false := ⟨rfl, rfl⟩

theorem aloneE {F : Fr} (hg : Good F) {k : Nat} {s : Tk} (h1 : 1 ≤ k) (hk : k < (putL (boL F)).length + 1) (h : Rd (ackL F) (putL (boL F)).length k s) (cf : Cf) (e : Bool) :
    stC (sndE F cf s k e) ((wiL F)[k]?.getD false) = (sndE F cf (nxT s ((wiL F)[k]?.getD false)).1 (k + 1) e, noH) ∧ Rd (ackL F) (putL (boL F)).length (k + 1) (nxT s ((wiL F)[k]?.getD false)).1 := by
  refine ⟨?_, (alone_step hg h1 hk h cf).2⟩
  have hwl := wiL_length F
  show sndC (sndE F cf s k e) _ = _
  unfold sndC
  refine (if_neg (show ¬ k + 9 = (wiL F).length by rw [hwl]; omega)).trans ?_
  refine (if_pos (show (wiL F)[k]?.getD false = (wiL F)[k]?.getD false from rfl)).trans ?_
  exact (if_pos (show k + 1 < (wiL F).length by rw [hwl]; omega)).trans rfl

theorem unE_active {F : Fr} {s : Tk} {t : Int} {e : Bool} (h0 : 0 ≤ t) (h1 : t ≤ 127) : stC (sndE F (cfT t) s ((putL (boL F)).length + 1) e) true = (phC (sndAt F (cfT (t + 8)) s ((putL (boL F)).length + 1)) 2 0 true, (7, zeroFr)) := by
  have hwl := wiL_length F
  have hm := mo_T h0 (show t ≤ 255 by omega)
  have hm8 := mo_T (t := t + 8) (by omega) (by omega)
  have he := ev_T h0 (show t ≤ 247 by omega)
  rw [if_neg (by omega)] at hm
  show sndC _ true = _
  unfold sndC
  refine (if_pos (show (putL (boL F)).length + 1 + 9 = (wiL F).length by rw [hwl])).trans ?_
  refine (if_neg (by simp)).trans ?_
  have hm' : ¬ moC (cfT t) = 1 := by rw [hm]; omega
  refine (if_neg hm').trans ?_
  show flagC _ 7 5 false = _
  unfold flagC
  have hc : (cntC (sndE F (cfT t) s ((putL (boL F)).length + 1) e) 5) = sndE F (cfT (t + 8)) s ((putL (boL F)).length + 1) e := by
    show ({ sndE F (cfT t) s ((putL (boL F)).length + 1) e with cf := evC (cfT t) 5 } : Ct) = _
    rw [he]; rfl
  rw [hc]
  have h2 : ¬ moC (sndE F (cfT (t + 8)) s ((putL (boL F)).length + 1) e).cf = 2 := by
    show ¬ moC (cfT (t + 8)) = 2
    rw [hm8]; split <;> omega
  have h3 : ¬ moC (sndE F (cfT t) s ((putL (boL F)).length + 1) e).cf = 1 := hm'
  rw [if_neg h2, if_neg h3]
  rfl

theorem unE_passive {F : Fr} {s : Tk} {t : Int} {e : Bool} (h0 : 127 < t) (h1 : t ≤ 255) : stC (sndE F (cfT t) s ((putL (boL F)).length + 1) e) true = (wkSt (sndAt F (cfT t) s ((putL (boL F)).length + 1)) true 0, (7, zeroFr)) := by
  have hwl := wiL_length F
  have hm := mo_T (show 0 ≤ t by omega) h1
  rw [if_pos (by omega)] at hm
  show sndC _ true = _
  unfold sndC
  refine (if_pos (show (putL (boL F)).length + 1 + 9 = (wiL F).length by rw [hwl])).trans ?_
  refine (if_neg (by simp)).trans ?_
  refine (if_pos (show moC (cfT t) = 1 from hm)).trans ?_
  unfold flagC
  have hc : (cntC (sndE F (cfT t) s ((putL (boL F)).length + 1) e) 0) = sndE F (cfT t) s ((putL (boL F)).length + 1) e := rfl
  rw [hc]
  have h2 : ¬ moC (sndE F (cfT t) s ((putL (boL F)).length + 1) e).cf = 2 := by
    show ¬ moC (cfT t) = 2
    rw [hm]; omega
  have h3 : moC (sndE F (cfT t) s ((putL (boL F)).length + 1) e).cf = 1 := hm
  rw [if_neg h2, if_pos h3]
  rfl

theorem ok_gen {c : Ct} (hw : c.wire = []) (ht : c.tk = s0) (h1 : c.ph ≠ 1) (h10 : c.ph < 10) (hn : c.n ≤ 7) (hm : c.ph ≠ 9 → moC c.cf ≤ 1) (hgv : c.has = true → Good c.give) (hgl : c.give.data.length ≤ 1000000) : StepOK c :=
  ⟨h10, by omega, hm, hgv, hgl, by rw [hw]; simp, by rw [ht]; simp [s0], fun e => absurd e h1, fun e => absurd e h1, fun _ => by omega⟩

theorem ok_wk {C : Ct} (hm : moC C.cf ≤ 1) (hg : C.has = true → Good C.give) (hd : C.give.data.length ≤ 1000000) (o : Bool) {j : Nat} (hj : j ≤ 24) : StepOK (wkSt C o j) := by
  unfold wkSt
  repeat' split
  all_goals exact ok_gen rfl rfl (by simp [phC]) (by simp [phC]) (by simp [phC] <;> omega) (fun _ => hm) hg hd

theorem ok_sndE {F : Fr} (hg : Good F) {cf : Cf} (hm : moC cf ≤ 1) {k : Nat} {s : Tk} {e : Bool} (h1 : 1 ≤ k) (hk : k < (putL (boL F)).length + 10) (h : Rd (ackL F) (putL (boL F)).length k s) : StepOK (sndE F cf s k e) := by
  have k0 := ok_snd hg hm h1 hk h (rd_len hg h1 hk h)
  exact ⟨k0.ph, k0.n, k0.mo, k0.gv, k0.dl, k0.wl, k0.tl, k0.tk, fun a b => ⟨(k0.sn a b).pos, (k0.sn a b).len, (k0.sn a b).ack, (k0.sn a b).one⟩, k0.dn⟩

/-- The counter behind so many tries. -/
def tkU (k : Nat) : Int := 8 * ((min k 16 : Nat) : Int)
/-- The bits behind the acknowledgement. -/
def reU (k : Nat) : Nat := if 15 ≤ k then 25 else 17
theorem tkU_bd (k : Nat) : 0 ≤ tkU k ∧ tkU k ≤ 128 := by unfold tkU; omega
theorem mo_tkU (k : Nat) : moC (cfT (tkU k)) ≤ 1 := by
  have := tkU_bd k
  rw [mo_T (by omega) (by omega)]; split <;> omega

/-- A sender that nobody hears, in its k-th try, behind so many bits. -/
def UI (F : Fr) (P k i : Nat) (c : Ct) : Prop :=
  (i = 0 ∧ ∃ e b, c = idF F (tkU k) e b) ∨ (1 ≤ i ∧ i ≤ P + 1 ∧ ∃ s e, c = sndE F (cfT (tkU k)) s i e ∧ Rd (ackL F) P i s) ∨
  (P + 2 ≤ i ∧ ∃ C : Ct, C.cf = cfT (tkU (k + 1)) ∧ C.has = true ∧ C.give = F ∧ C.sender = true ∧
    c = if i = P + 2 + reU k then phC C 0 0 true else if k < 16 ∧ i < P + 2 + 17 then flSt C 2 true (i - (P + 2)) else wkSt C true (i - (P + 2)))

section
variable {F : Fr} (hg : Good F) {k i : Nat} {c : Ct}
include hg

theorem ui_ok (hi : i < (putL (boL F)).length + 2 + reU k) (h : UI F (putL (boL F)).length k i c) : StepOK c := by
  have hd := good_len hg
  rcases h with ⟨_, e, b, rfl⟩ | ⟨h1, h2, s, e, rfl, hr⟩ | ⟨h1, C, e1, e2, e3, e4, rfl⟩
  · exact ok_gen rfl rfl (by simp [idF]) (by simp [idF]) (by simp [idF]) (fun _ => mo_tkU k) (fun _ => hg) (by show F.data.length ≤ _; omega)
  · exact ok_sndE hg (mo_tkU k) h1 (by omega) hr
  · have hm : moC C.cf ≤ 1 := by rw [e1]; exact mo_tkU _
    have hr : reU k ≤ 25 := by unfold reU; split <;> omega
    rw [if_neg (by omega)]
    split
    · exact ok_fl hm (fun _ => by rw [e3]; exact hg) (by rw [e3]; omega) (.inl rfl) true (by omega)
    · exact ok_wk hm (fun _ => by rw [e3]; exact hg) (by rw [e3]; omega) true (by omega)

theorem ui_drive (hi : i < (putL (boL F)).length + 2 + reU k) (h : UI F (putL (boL F)).length k i c) :
    dvC c = if i < (putL (boL F)).length + 2 then (wiL F)[i]?.getD false else !decide (k < 16 ∧ i < (putL (boL F)).length + 8) := by
  have _ := hg
  rcases h with ⟨rfl, e, b, rfl⟩ | ⟨h1, h2, s, e, rfl, hr⟩ | ⟨h1, C, e1, e2, e3, e4, rfl⟩
  · rw [if_pos (by omega), wi_first]; rfl
  · rw [if_pos (by omega)]; rfl
  · have hr : reU k ≤ 25 := by unfold reU; split <;> omega
    rw [if_neg (show ¬ i = (putL (boL F)).length + 2 + reU k by omega), if_neg (show ¬ i < (putL (boL F)).length + 2 by omega)]
    by_cases hf : k < 16 ∧ i < (putL (boL F)).length + 2 + 17
    · rw [if_pos hf]
      by_cases e : i - ((putL (boL F)).length + 2) < 16
      · rw [(fl_step C (.inl rfl) true e).2, Bool.eq_iff_iff]; simp; omega
      · rw [show i - ((putL (boL F)).length + 2) = 16 by omega, (fl_last C 2 true).2, Bool.eq_iff_iff]; simp; omega
    · rw [if_neg hf]
      have hdv : dvC (wkSt C true (i - ((putL (boL F)).length + 2))) = true := by
        by_cases e : i - ((putL (boL F)).length + 2) < 16
        · exact (wk_step C true e).2
        · by_cases e16 : i - ((putL (boL F)).length + 2) = 16
          · rw [e16]; rfl
          · by_cases e24 : i - ((putL (boL F)).length + 2) = 24
            · rw [e24]; rfl
            · exact (wk_held C true (by omega) (by omega)).2
      rw [hdv, Bool.eq_iff_iff]; simp
      unfold reU at hi
      split at hi <;> omega

theorem ui_step (hi : i < (putL (boL F)).length + 2 + reU k) (h : UI F (putL (boL F)).length k i c) :
    UI F (putL (boL F)).length k (i + 1) (stC c (dvC c)).1 ∧ (stC c (dvC c)).2.1 = if i = (putL (boL F)).length + 1 then 7 else 0 := by
  have hP := P_pos F
  rw [ui_drive hg hi h]
  rcases h with ⟨rfl, e, b, rfl⟩ | ⟨h1, h2, s, e, rfl, hr⟩ | ⟨h1, C, e1, e2, e3, e4, rfl⟩
  · rw [if_pos (show 0 < (putL (boL F)).length + 2 by omega), wi_first, if_neg (show ¬ 0 = (putL (boL F)).length + 1 by omega)]
    show UI F _ k 1 (stC (idF F (tkU k) e b) false).1 ∧ _
    rw [show (some false).getD false = false from rfl, (idF_begin F (tkU k) e b).1]
    exact ⟨.inr (.inl ⟨by omega, by omega, _, _, rfl, rd_one hg⟩), rfl⟩
  · rw [if_pos (show i < (putL (boL F)).length + 2 by omega)]
    by_cases ha : i = (putL (boL F)).length + 1
    · subst ha
      rw [wi_at (by omega), if_pos rfl, show (some true).getD false = true from rfl]
      have ht := tkU_bd k
      by_cases hk : k < 16
      · have e8 : tkU (k + 1) = tkU k + 8 := by unfold tkU; omega
        rw [unE_active (by omega) (by unfold tkU; omega)]
        refine ⟨.inr (.inr ⟨by omega, sndAt F (cfT (tkU k + 8)) s ((putL (boL F)).length + 1), by rw [e8]; rfl, rfl, rfl, rfl, ?_⟩), rfl⟩
        have hr : 17 ≤ reU k := by unfold reU; split <;> omega
        rw [if_neg (show ¬ (putL (boL F)).length + 1 + 1 = (putL (boL F)).length + 2 + reU k by omega), if_pos ⟨hk, by omega⟩, show (putL (boL F)).length + 1 + 1 - ((putL (boL F)).length + 2) = 0 by omega]
        rfl
      · have e8 : tkU (k + 1) = tkU k := by unfold tkU; omega
        rw [unE_passive (by unfold tkU; omega) (by omega)]
        refine ⟨.inr (.inr ⟨by omega, sndAt F (cfT (tkU k)) s ((putL (boL F)).length + 1), by rw [e8]; rfl, rfl, rfl, rfl, ?_⟩), rfl⟩
        have hr : 17 ≤ reU k := by unfold reU; split <;> omega
        rw [if_neg (show ¬ (putL (boL F)).length + 1 + 1 = (putL (boL F)).length + 2 + reU k by omega), if_neg (fun h => hk h.1), show (putL (boL F)).length + 1 + 1 - ((putL (boL F)).length + 2) = 0 by omega]
    · rw [if_neg ha]
      obtain ⟨d1, d2⟩ := aloneE hg h1 (by omega) hr (cfT (tkU k)) e
      rw [d1]
      exact ⟨.inr (.inl ⟨by omega, by omega, _, _, rfl, d2⟩), rfl⟩
  · rw [if_neg (show ¬ i < (putL (boL F)).length + 2 by omega), if_neg (show ¬ i = (putL (boL F)).length + 1 by omega), if_neg (show ¬ i = (putL (boL F)).length + 2 + reU k by omega)]
    have hmo := mo_T (tkU_bd (k + 1)).1 (show tkU (k + 1) ≤ 255 by have := (tkU_bd (k + 1)).2; omega)
    have hsub : i + 1 - ((putL (boL F)).length + 2) = i - ((putL (boL F)).length + 2) + 1 := by omega
    by_cases hf : k < 16 ∧ i < (putL (boL F)).length + 2 + 17
    · rw [if_pos hf]
      by_cases e : i - ((putL (boL F)).length + 2) < 16
      · rw [show (!decide (k < 16 ∧ i < (putL (boL F)).length + 8)) = decide (6 ≤ i - ((putL (boL F)).length + 2)) by rw [Bool.eq_iff_iff]; simp; omega, (fl_step C (.inl rfl) true e).1]
        refine ⟨.inr (.inr ⟨by omega, C, e1, e2, e3, e4, ?_⟩), rfl⟩
        have hr : 17 ≤ reU k := by unfold reU; split <;> omega
        rw [if_neg (show ¬ i + 1 = (putL (boL F)).length + 2 + reU k by omega), if_pos ⟨hf.1, by omega⟩, hsub]
      · rw [show (!decide (k < 16 ∧ i < (putL (boL F)).length + 8)) = true by simp; omega, show i - ((putL (boL F)).length + 2) = 16 by omega, (fl_last C 2 true).1]
        refine ⟨.inr (.inr ⟨by omega, C, e1, e2, e3, e4, ?_⟩), rfl⟩
        have hho : holdC C = decide (15 ≤ k) := by
          unfold holdC; rw [e1, e4, hmo]
          unfold tkU
          by_cases hk : 15 ≤ k
          · rw [if_pos (by omega), decide_eq_true hk]; rfl
          · rw [if_neg (by omega), decide_eq_false hk]; rfl
        rw [hho]
        by_cases hk : 15 ≤ k
        · have hr : reU k = 25 := by unfold reU; rw [if_pos hk]
          rw [if_neg (show ¬ i + 1 = (putL (boL F)).length + 2 + reU k by omega), if_neg (show ¬ (k < 16 ∧ i + 1 < (putL (boL F)).length + 2 + 17) by omega), hsub, show i - ((putL (boL F)).length + 2) = 16 by omega, decide_eq_true hk]
          rfl
        · have hr : reU k = 17 := by unfold reU; rw [if_neg hk]
          rw [if_pos (show i + 1 = (putL (boL F)).length + 2 + reU k by omega), decide_eq_false hk]
          rfl
    · rw [if_neg hf]
      have hk15 : 15 ≤ k := by
        refine Classical.byContradiction fun hk => hf ⟨by omega, ?_⟩
        have hr : reU k = 17 := by unfold reU; rw [if_neg hk]
        omega
      have hr : reU k = 25 := by unfold reU; rw [if_pos hk15]
      have hho : holdC C = true := by
        unfold holdC; rw [e1, e4, hmo, if_pos (by unfold tkU; omega)]; rfl
      rw [show (!decide (k < 16 ∧ i < (putL (boL F)).length + 8)) = true by simp; omega]
      have hnext : ∀ j, i - ((putL (boL F)).length + 2) = j → j < 24 → (stC (wkSt C true j) true) = (wkSt C true (j + 1), noH) := fun j hj h24 => by
        by_cases e : j < 16
        · exact (wk_step C true e).1
        · by_cases e16 : j = 16
          · subst e16; exact (wk_hold C true hho).1
          · exact (wk_held C true (by omega) h24).1
      by_cases h24 : i - ((putL (boL F)).length + 2) < 24
      · rw [hnext _ rfl h24]
        refine ⟨.inr (.inr ⟨by omega, C, e1, e2, e3, e4, ?_⟩), rfl⟩
        rw [if_neg (show ¬ i + 1 = (putL (boL F)).length + 2 + reU k by omega), if_neg (show ¬ (k < 16 ∧ i + 1 < (putL (boL F)).length + 2 + 17) by omega), hsub]
      · rw [show i - ((putL (boL F)).length + 2) = 24 by omega, (wk_end C true).1]
        refine ⟨.inr (.inr ⟨by omega, C, e1, e2, e3, e4, ?_⟩), rfl⟩
        rw [if_pos (show i + 1 = (putL (boL F)).length + 2 + reU k by omega)]

theorem ui_end (h : UI F (putL (boL F)).length k ((putL (boL F)).length + 2 + reU k) c) : ∃ e b, c = idF F (tkU (k + 1)) e b := by
  have _ := hg
  have hr : 17 ≤ reU k := by unfold reU; split <;> omega
  rcases h with ⟨h, _⟩ | ⟨_, h, _⟩ | ⟨h1, C, e1, e2, e3, e4, rfl⟩
  · omega
  · omega
  · rw [if_pos rfl]
    refine ⟨true, true, ?_⟩
    unfold phC idF
    rw [e1, e2, e3, e4]
end
end Go.Proofs.YtgpmhmdofefdcaaGreat
