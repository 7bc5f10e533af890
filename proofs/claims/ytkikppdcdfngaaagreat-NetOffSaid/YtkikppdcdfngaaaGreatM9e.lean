/-
  Plain mathematics of layer 9: a controller as it may be, behind so many bits, is one that Step may be asked of.
  Plain mathematics of layer 9: frames given and taken back.
-/
import Derived.Test.YtkikppdcdfngaaaGreatM8h
import Derived.Test.YtkikppdcdfngaaaGreatB1
namespace Go.Proofs.YtkikppdcdfngaaaGreat
set_option linter.unusedVariables false
set_option linter.unusedSectionVars false

/-- What stands in a controller beside what OnC says, behind m bits. -/
structure SmC (m : Nat) (c : Ct) : Prop where
  n : c.n ≤ m
  six : c.ph = 6 → c.n < 8
  gz : c.has = false → c.give = zeroFr
  wl : c.wire.length ≤ 200
  tz : c.ph ≠ 1 → c.tk.l = []
  tl : c.tk.l.length ≤ 1000

theorem mo_le (c : Cf) : moC c ≤ 2 := by
  unfold moC
  split
  · exact Nat.le_refl _
  · split <;> omega

theorem sm_start : SmC 0 c0 := ⟨Nat.le_refl _, fun e => (by cases e), fun _ => rfl, by simp [c0], fun _ => rfl, by simp [c0, s0]⟩

theorem SmC.mono {m m' : Nat} {c : Ct} (h : SmC m c) (hm : m ≤ m') : SmC m' c := ⟨by have := h.n; omega, h.six, h.gz, h.wl, h.tz, h.tl⟩

/-- A phase that begins. -/
theorem sm_new {m : Nat} {c : Ct} (hg : c.has = false → c.give = zeroFr) {ph n : Nat} (hn : n ≤ 1) (hm : 1 ≤ m) (h1 : ph ≠ 1) (e o rl b : Bool) : SmC m { newC c ph with n := n, err := e, owed := o, rl := rl, sender := b } :=
  ⟨by show n ≤ m; omega, fun _ => by show n < 8; omega, hg, by show ([] : List Bool).length ≤ 200; simp, fun _ => rfl, by show ([] : List Bool).length ≤ 1000; simp⟩

section
variable {m : Nat} {c : Ct} (h : OnC c) (k : SmC m c)
include h k

theorem sm_flag {c1 : Ct} (e1 : c1.has = c.has) (e2 : c1.give = c.give) (w q : Nat) (o : Bool) : SmC (m + 1) (flagC c1 w q o).1 := by
  have g1 : (cntC c1 q).has = false → (cntC c1 q).give = zeroFr := by
    have a1 : (cntC c1 q).has = c.has := by unfold cntC; split <;> exact e1
    have a2 : (cntC c1 q).give = c.give := by unfold cntC; split <;> exact e2
    rw [a1, a2]; exact k.gz
  unfold flagC
  split
  · exact sm_new (c := cntC c1 q) g1 (ph := 9) (n := 0) (by omega) (by omega) (by omega) (cntC c1 q).err false false false
  · split
    · exact sm_new (c := cntC c1 q) g1 (ph := 3) (n := 0) (by omega) (by omega) (by omega) true o false (cntC c1 q).sender
    · exact sm_new (c := cntC c1 q) g1 (ph := 2) (n := 0) (by omega) (by omega) (by omega) true o false (cntC c1 q).sender

theorem sm_fresh {c1 : Ct} (e1 : c1.has = c.has) (e2 : c1.give = c.give) {ph n : Nat} (h1 : ph ≠ 1) (hn : n ≤ 1) (e b : Bool) : SmC (m + 1) { newC c1 ph with n := n, err := e, sender := b } :=
  sm_new (c := c1) (by rw [e1, e2]; exact k.gz) hn (by omega) h1 e false false b

theorem sm_off {c1 : Ct} (e1 : c1.has = c.has) (e2 : c1.give = c.give) : SmC (m + 1) (offC c1).1 := sm_fresh h k e1 e2 (ph := 9) (n := 0) (by omega) (by omega) c1.err false
theorem sm_plain {c1 : Ct} (e1 : c1.has = c.has) (e2 : c1.give = c.give) {ph : Nat} (h1 : ph ≠ 1) : SmC (m + 1) (newC c1 ph) := sm_fresh h k e1 e2 (ph := ph) (n := 0) h1 (by omega) c1.err c1.sender

theorem sm_beg (s : Bool) (hs : s = true → c.has = true) : SmC (m + 1) (begC c s) := by
  refine ⟨by show 0 ≤ _; omega, fun e => (by cases e), k.gz, ?_, fun e => absurd rfl e, by show (nxT s0 false).1.l.length ≤ 1000; decide⟩
  show (if s = true then wiL c.give else []).length ≤ 200
  cases s with
  | false => simp
  | true =>
    rw [if_pos rfl, wiL_length]
    have := P_top (h.gv (hs rfl))
    omega

/-- Whatever bit comes. -/
theorem sm_step (x : Bool) : SmC (m + 1) (stC c x).1 := by
  have hon := (on_step h x).on
  have htl : (stC c x).1.ph = 1 → (stC c x).1.tk.l.length ≤ 1000 := fun e => by
    obtain ⟨l, hl⟩ := hon.rd e
    have := hl.short; omega
  have keep : ∀ (c1 : Ct), c1.ph = c.ph → c1.n ≤ c.n + 1 → (c.ph = 6 → c1.n < 8) → c1.has = c.has → c1.give = c.give → c1.wire = c.wire → c1.tk = c.tk → SmC (m + 1) c1 := fun c1 a1 a2 a3 a4 a5 a6 a7 =>
    ⟨by have := k.n; omega, fun e => a3 (by rw [← a1]; exact e), by rw [a4, a5]; exact k.gz, by rw [a6]; exact k.wl, by rw [a1, a7]; exact k.tz, by rw [a7]; exact k.tl⟩
  revert htl
  unfold stC
  split
  · intro _
    unfold idleC
    split
    · split
      · exact sm_flag h k (c1 := { c with sender := true }) rfl rfl 4 5 false
      · exact k.mono (by omega)
    · exact sm_beg h k c.has (fun e => e)
  rename_i n0
  split
  · rename_i n1
    split
    · rename_i hs
      obtain ⟨_, hhas, hw, _⟩ := h.snd hs
      unfold sndC
      split
      · split
        · intro htl
          exact ⟨by have := k.n; show c.n ≤ _; omega, fun e => by have : c.ph = 6 := e; omega, k.gz, k.wl, fun e => absurd n1 e, htl n1⟩
        · intro _
          split
          · exact sm_flag h k rfl rfl 7 0 true
          · exact sm_flag h k rfl rfl 7 _ false
      · split
        · split
          · intro htl
            exact ⟨by have := k.n; show c.n ≤ _; omega, fun e => by have : c.ph = 6 := e; omega, k.gz, k.wl, fun e => absurd n1 e, htl n1⟩
          · intro _
            exact sm_new (c := { c with cf := evC c.cf 8, has := false, give := zeroFr }) (fun _ => rfl) (ph := 7) (n := 0) (by omega) (by omega) (by omega) c.err false false c.sender
        · by_cases c3 : x = true ∨ c.tk.l.length < 1 ∨ (if c.give.ext then 32 else 12) < c.tk.l.length
          · rw [if_pos c3]
            intro _; exact sm_flag h k rfl rfl 4 _ false
          · rw [if_neg c3]
            split
            · intro _; exact sm_flag h k rfl rfl 5 0 false
            · intro htl
              exact ⟨by have := k.n; show c.n ≤ _; omega, fun e => by have : c.ph = 6 := e; omega, k.gz, by show ([] : List Bool).length ≤ 200; simp, fun e => absurd n1 e, htl n1⟩
    · unfold rcvC
      split
      · split
        · intro _; exact sm_flag h k (c1 := { c with tk := (nxT c.tk x).1 }) rfl rfl 4 _ false
        · intro htl
          exact ⟨by have := k.n; show c.n ≤ _; omega, fun e => by have : c.ph = 6 := e; omega, k.gz, k.wl, fun e => absurd n1 e, htl n1⟩
      split
      · intro _; exact sm_flag h k (c1 := { c with tk := (nxT c.tk x).1 }) rfl rfl 5 _ false
      split
      · intro _; exact sm_flag h k (c1 := { c with tk := (nxT c.tk x).1 }) rfl rfl 6 _ false
      split
      · intro _; exact sm_flag h k (c1 := { c with tk := (nxT c.tk x).1 }) rfl rfl 8 _ false
      split
      · intro htl
        exact ⟨by have := k.n; show c.n ≤ _; omega, fun e => by have : c.ph = 6 := e; omega, k.gz, k.wl, fun e => absurd n1 e, htl n1⟩
      split
      · intro _; exact sm_fresh h k rfl rfl (ph := 4) (n := 0) (by omega) (by omega) false c.sender
      · intro _; exact sm_plain h k rfl rfl (by omega)
  rename_i n1
  intro _
  split
  · rename_i n2
    unfold sixC
    generalize (if c.sender = true then 6 else 3) = q
    split
    · exact sm_off h k rfl rfl
    · cases x with
      | true =>
        dsimp only
        rw [if_pos rfl]
        split
        · exact sm_plain h k (c1 := { c with cf := evC c.cf q }) rfl rfl (by omega)
        · exact keep _ rfl (by show c.n + 1 ≤ _; omega) (fun e => by omega) rfl rfl rfl rfl
      | false =>
        dsimp only
        rw [if_neg Bool.false_ne_true]
        split
        · exact sm_plain h k rfl rfl (by omega)
        · exact keep _ rfl (by show c.n + 1 ≤ _; omega) (fun e => by omega) rfl rfl rfl rfl
  split
  · rename_i n3
    unfold weakC
    split
    · exact sm_off h k rfl rfl
    · dsimp only
      obtain ⟨d, hd⟩ : ∃ d : Ct, d = (if (c.owed && !x) = true then { c with owed := false, cf := evC c.cf 5 } else c) := ⟨_, rfl⟩
      rw [← hd]
      have a : d.ph = c.ph ∧ d.has = c.has ∧ d.give = c.give ∧ d.wire = c.wire ∧ d.tk = c.tk := by rw [hd]; split <;> exact ⟨rfl, rfl, rfl, rfl, rfl⟩
      obtain ⟨a1, a2, a3, a4, a5⟩ := a
      have hb : (if 0 < c.n ∧ c.rl = x then c.n + 1 else 1) ≤ c.n + 1 := by split <;> omega
      generalize (if 0 < c.n ∧ c.rl = x then c.n + 1 else 1) = mm at *
      split
      · exact sm_plain h k a2 a3 (by omega)
      · exact keep _ a1 hb (fun e => by omega) a2 a3 a4 a5
  split
  · rename_i n5
    unfold waitC
    split
    · exact sm_fresh h k rfl rfl (ph := 6) (n := 1) (by omega) (by omega) c.err c.sender
    · have a : ∀ q, (cntC c q).ph = c.ph ∧ (cntC c q).has = c.has ∧ (cntC c q).give = c.give ∧ (cntC c q).wire = c.wire ∧ (cntC c q).tk = c.tk := fun q => by unfold cntC; split <;> exact ⟨rfl, rfl, rfl, rfl, rfl⟩
      obtain ⟨a1, a2, a3, a4, a5⟩ := a (waitE c)
      split
      · exact sm_off h k a2 a3
      · exact keep _ a1 (by show c.n + 1 ≤ _; omega) (fun e => by omega) a2 a3 a4 a5
  split
  · rename_i n6
    have h8 := k.six n6
    unfold delimC
    split
    · split
      · exact sm_plain h k rfl rfl (by omega)
      · exact keep _ rfl (by show c.n + 1 ≤ _; omega) (fun e => by show c.n + 1 < 8; omega) rfl rfl rfl rfl
    · split
      · exact sm_flag h k rfl rfl 6 _ false
      · exact sm_fresh h k rfl rfl (ph := 4) (n := 0) (by omega) (by omega) false c.sender
  split
  · rename_i n7
    unfold interC
    split
    · split
      · split
        · exact sm_plain h k rfl rfl (by omega)
        · exact sm_plain h k rfl rfl (by omega)
      · exact keep _ rfl (by show c.n + 1 ≤ _; omega) (fun e => by omega) rfl rfl rfl rfl
    · split
      · exact sm_fresh h k rfl rfl (ph := 4) (n := 0) (by omega) (by omega) false c.sender
      · exact sm_beg h k _ (fun e => by simp at e; exact e.1)
  split
  · rename_i n8
    unfold hold8C
    split
    · split
      · exact sm_plain h k rfl rfl (by omega)
      · exact keep _ rfl (by show c.n + 1 ≤ _; omega) (fun e => by omega) rfl rfl rfl rfl
    · exact sm_beg h k false (fun e => by cases e)
  · unfold offsC
    split
    · exact keep _ rfl (by show c.n ≤ _; omega) (fun e => k.six e) rfl rfl rfl rfl
    · exact sm_plain h k (c1 := { c with cf := biC c.cf x }) rfl rfl (by omega)

theorem sm_ok (hm : m ≤ 1000000000) : StepOK c := by
  refine ⟨by have := h.le; omega, by have := k.n; omega, fun h9 => ?_, h.gv, ?_, by have := k.wl; omega, by have := k.tl; omega, fun h1 => ?_, fun h1 hs => ?_, k.six⟩
  · have ho := on_off h h9
    have h2 : ¬ moC c.cf = 2 := fun e => by
      have := (mo_of_right h.ri).1 e
      rw [ho] at this; cases this
    have := mo_le c.cf
    omega
  · cases hh : c.has with
    | false => rw [k.gz hh]; simp [zeroFr]
    | true => have := good_len (h.gv hh); omega
  · obtain ⟨l, hl⟩ := h.rd h1
    have h118 := hl.short
    rcases hl with hI | hB
    · exact ⟨hI.ri, by omega, by have := hI.p; omega, fun e => by have := hI.p; omega⟩
    · exact ⟨hB.ri, by omega, by have := hB.p; have := hB.hi; omega, fun e => ⟨hB.ok (by omega), hB.m⟩⟩
  · obtain ⟨_, hhas, hw, p1, p2, hr⟩ := h.snd hs
    have hg := h.gv hhas
    have z := (ok_snd hg (cf := zeC) (by decide) p1 p2 hr (rd_len hg p1 p2 hr)).sn rfl rfl
    exact ⟨by rw [hw]; exact z.pos, by rw [hw]; exact z.len, by rw [hw]; exact z.ack, z.one⟩
end
end Go.Proofs.YtkikppdcdfngaaaGreat

namespace Go.Proofs.YtkikppdcdfngaaaGreat
set_option linter.unusedVariables false

theorem sm_give {m : Nat} {c : Ct} (k : SmC m c) (F : Fr) : SmC m { c with has := true, give := F } := ⟨k.n, k.six, fun e => (by cases e), k.wl, k.tz, k.tl⟩
theorem sm_drop {m : Nat} {c : Ct} (k : SmC m c) : SmC m { c with has := false, give := zeroFr } := ⟨k.n, k.six, fun _ => rfl, k.wl, k.tz, k.tl⟩
end Go.Proofs.YtkikppdcdfngaaaGreat
