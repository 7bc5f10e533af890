/-
  Plain facts of mails: what each method leaves of what is said of a mail at any time; which numbers wait.
-/
import Derived.Test.YtffbkcjkmhjfnaaB10j
import Derived.Test.YtffbkcjkmhjfnaaB10n
namespace Go.Proofs.Ytffbkcjkmhjfnaa
open Go.RowKit Go.Sort
set_option linter.unusedVariables false

theorem rm_mem {N : Nat} : ∀ {ws : List Wt}, ws.Pairwise (fun p q => p.2 < q.2) → ∀ p, p ∈ rmW N ws ↔ p ∈ ws ∧ p.2 ≠ N := by
  intro ws
  induction ws with
  | nil => intro _ p; simp [rmW]
  | cons x l ih =>
    intro h p
    rw [List.pairwise_cons] at h
    by_cases hx : x.2 = N
    · have e : rmW N (x :: l) = l := by simp [rmW, hx]
      rw [e]
      constructor
      · intro hp; have := h.1 p hp; exact ⟨by simp [hp], by omega⟩
      · rintro ⟨hp, hn⟩
        rcases List.mem_cons.1 hp with rfl | hp
        · exact absurd hx hn
        · exact hp
    · have e : rmW N (x :: l) = x :: rmW N l := by unfold rmW; rw [List.eraseP_cons_of_neg (by simpa using hx)]
      rw [e]
      simp only [List.mem_cons, ih h.2]
      constructor
      · rintro (rfl | ⟨h1, h2⟩)
        · exact ⟨.inl rfl, hx⟩
        · exact ⟨.inr h1, h2⟩
      · rintro ⟨h1 | h1, h2⟩
        · exact .inl h1
        · exact .inr ⟨h1, h2⟩
theorem rm_up {N : Nat} {ws : List Wt} (h : ws.Pairwise (fun p q => p.2 < q.2)) : (rmW N ws).Pairwise (fun p q => p.2 < q.2) := h.sublist List.eraseP_sublist

theorem MlI.rm {m : Ml} (h : MlI m) {N : Nat} (hN : N ≠ m.wire) : MlI (rmM N m) := by
  refine ⟨?_, h.aw, fun p hp => h.no p (rm_sub p hp), rm_up h.up⟩
  rcases h.wr with e | ⟨p, hp, he⟩
  · exact .inl e
  · exact .inr ⟨p, (rm_mem h.up p).2 ⟨hp, fun e => hN (by rw [← e]; exact he)⟩, he⟩
theorem MlI.fr {m : Ml} (h : MlI m) : MlI (frM m) := ⟨.inl rfl, fun e => (by cases e), h.no, h.up⟩
theorem MlI.frm {m : Ml} (h : MlI m) (N : Nat) : MlI (frM (rmM N m)) := ⟨.inl rfl, fun e => (by cases e), fun p hp => h.no p (rm_sub p hp), rm_up h.up⟩
theorem MlI.lo {m : Ml} (h : MlI m) : MlI (loM m) := by unfold loM; split; exact h.frm _; exact h.fr
theorem MlI.se {m : Ml} (h : MlI m) : MlI (seM m) := by unfold seM; split; exact h; exact h.frm _
theorem MlI.on {m : Ml} (h : MlI m) {p : Wt} (hp : p ∈ m.ws) : MlI { m with wire := p.2 } := ⟨.inr ⟨p, hp, rfl⟩, fun _ => by have := (h.no p hp).1; show p.2 ≠ 0; omega, h.no, h.up⟩
theorem MlI.give {m : Ml} (h : MlI m) (hw : m.wire ≠ 0) : MlI { m with ab := true } := ⟨h.wr, fun _ => hw, h.no, h.up⟩
theorem MlI.pu {m : Ml} (h : MlI m) (F : Fr) (da : Option Addr) (dc : Nat) : MlI (puM F da dc m) := by
  refine ⟨?_, h.aw, fun p hp => ?_, ?_⟩
  · rcases h.wr with e | ⟨p, hp, he⟩
    · exact .inl e
    · exact .inr ⟨p, List.mem_append_left _ hp, he⟩
  · rcases List.mem_append.1 hp with hp | hp
    · have := h.no p hp; exact ⟨this.1, by show p.2 ≤ m.puts + 1; omega⟩
    · simp at hp; subst hp; exact ⟨by show 1 ≤ m.puts + 1; omega, Nat.le_refl _⟩
  · show (m.ws ++ [((F, (da, dc)), m.puts + 1)]).Pairwise _
    rw [List.pairwise_append]
    refine ⟨h.up, List.pairwise_singleton _ _, fun p hp q hq => ?_⟩
    simp at hq
    subst hq
    have := (h.no p hp).2
    show p.2 < m.puts + 1
    omega

/-- Does a number wait? -/
def hasN (n : Nat) (ws : List Wt) : Prop := ∃ p ∈ ws, p.2 = n
theorem hasN_W {n : Nat} {ws : List Wt} : hasW (n : Int) ws = true ↔ hasN n ws := by
  rw [hasW_iff]
  exact ⟨fun ⟨p, h1, h2⟩ => ⟨p, h1, by omega⟩, fun ⟨p, h1, h2⟩ => ⟨p, h1, by omega⟩⟩
theorem hasN_rm {N n : Nat} {ws : List Wt} (h : ws.Pairwise (fun p q => p.2 < q.2)) : hasN n (rmW N ws) ↔ hasN n ws ∧ n ≠ N := by
  constructor
  · rintro ⟨p, hp, rfl⟩; have := (rm_mem h p).1 hp; exact ⟨⟨p, this.1, rfl⟩, this.2⟩
  · rintro ⟨⟨p, hp, rfl⟩, h2⟩; exact ⟨p, (rm_mem h p).2 ⟨hp, h2⟩, rfl⟩
theorem beM_some {m : Ml} (h : MlI m) (h0 : m.ws ≠ []) : ∃ p, beM m = some p := by
  unfold beM
  cases hw : m.ws with
  | nil => exact absurd hw h0
  | cons x l =>
    simp only
    split
    · exact ⟨_, rfl⟩
    · rename_i hne
      obtain ⟨p, hp, he⟩ := h.wr.resolve_left hne
      rw [hw] at hp
      cases hf : (x :: l).find? (fun q => decide (q.2 = m.wire)) with
      | some q => exact ⟨q, rfl⟩
      | none => exact absurd he (by simpa using List.find?_eq_none.1 hf p hp)

/-- A mail into which frames were put, and nothing else was done. -/
structure PutsM (m : Ml) (room : Nat) : Prop where
  i : MlI m
  wi : m.wire = 0
  ab : m.ab = false
  rm : m.room = room
  le : m.ws.length = m.puts
  all : ∀ n, 1 ≤ n → n ≤ m.puts → hasN n m.ws
theorem PutsM.new (room : Nat) : PutsM (neM room) room := ⟨neM_I room, rfl, rfl, rfl, rfl, fun n h1 h2 => by have : n ≤ 0 := h2; omega⟩
theorem PutsM.put {m : Ml} {room : Nat} (h : PutsM m room) (F : Fr) (da : Option Addr) (dc : Nat) : PutsM (puM F da dc m) room :=
  ⟨h.i.pu F da dc, h.wi, h.ab, h.rm, by simp [puM, h.le], fun n h1 h2 => by
    have h2' : n ≤ m.puts + 1 := h2
    by_cases e : n = m.puts + 1
    · exact ⟨((F, (da, dc)), m.puts + 1), List.mem_append_right _ (by simp), e.symm⟩
    · obtain ⟨p, hp, he⟩ := h.all n h1 (by omega)
      exact ⟨p, List.mem_append_left _ hp, he⟩⟩

/-- A mail of which one was put on the wire, and some were given up since. -/
structure GonP (m : Ml) (P W : Nat) (ts : List Int) : Prop where
  i : MlI m
  pu : m.puts = P
  wi : m.wire = W
  le : W ≤ P
  ab : m.ab = decide (W ≠ 0 ∧ (W : Int) ∈ ts)
  on : W = 0 → P = 0
  has : ∀ n, 1 ≤ n → n ≤ P → (hasN n m.ws ↔ ((n : Int) ∉ ts ∨ n = W))

theorem GonP.no {m : Ml} {P W : Nat} {ts : List Int} (h : GonP m P W ts) {n : Nat} (hn : P < n) : hasW (n : Int) m.ws = false := by
  cases e : hasW (n : Int) m.ws with
  | false => rfl
  | true =>
    obtain ⟨p, hp, he⟩ := hasN_W.1 e
    have := (h.i.no p hp).2
    rw [h.pu] at this
    omega
theorem GonP.start0 {m : Ml} {room : Nat} (h : PutsM m room) (h0 : m.ws = []) : GonP m 0 0 [] := by
  have hp : m.puts = 0 := by rw [← h.le, h0]; rfl
  exact ⟨h.i, hp, h.wi, Nat.le_refl _, by rw [h.ab]; rfl, fun _ => rfl, fun n h1 h2 => by omega⟩
theorem GonP.start {m : Ml} {room : Nat} (h : PutsM m room) {p : Wt} (hp : p ∈ m.ws) : GonP { m with wire := p.2 } m.puts p.2 [] := by
  have := h.i.no p hp
  exact ⟨h.i.on hp, rfl, rfl, this.2, by simp [h.ab], fun e => by omega, fun n h1 h2 => by simpa using h.all n h1 h2⟩
theorem GonP.give {m : Ml} {P W : Nat} {ts : List Int} (h : GonP m P W ts) (h0 : W ≠ 0) : GonP { m with ab := true } P W (ts ++ [(W : Int)]) := by
  refine ⟨h.i.give (by rw [h.wi]; exact h0), h.pu, h.wi, h.le, by simp [h0], h.on, fun n h1 h2 => ?_⟩
  show hasN n m.ws ↔ _
  rw [h.has n h1 h2]
  simp only [List.mem_append, List.mem_singleton]
  by_cases e : n = W
  · simp [e]
  · have : ¬ (n : Int) = (W : Int) := by omega
    simp [e, this]
theorem GonP.rm {m : Ml} {P W : Nat} {ts : List Int} (h : GonP m P W ts) {n : Nat} (hn : n ≠ W) : GonP (rmM n m) P W (ts ++ [(n : Int)]) := by
  refine ⟨h.i.rm (by rw [h.wi]; exact hn), h.pu, h.wi, h.le, ?_, h.on, fun k h1 h2 => ?_⟩
  · show m.ab = _
    rw [h.ab, decide_eq_decide]
    have : ¬ (W : Int) = (n : Int) := by omega
    simp [this]
  · show hasN k (rmW n m.ws) ↔ _
    rw [hasN_rm h.i.up, h.has k h1 h2]
    simp only [List.mem_append, List.mem_singleton]
    by_cases e : k = n
    · subst e; simp [hn]
    · have : ¬ (k : Int) = (n : Int) := by omega
      simp [e, this]
/-- What waits behind the wire is free again. -/
theorem GonP.sent {m : Ml} {P W : Nat} {ts : List Int} (h : GonP m P W ts) {n : Nat} (h1 : 1 ≤ n) (h2 : n ≤ P) : hasN n (seM m).ws ↔ ((n : Int) ∉ ts ∧ n ≠ W) := by
  unfold seM
  by_cases e : m.wire = 0
  · rw [if_pos e]; have := h.on (by rw [← h.wi]; exact e); omega
  · rw [if_neg e]
    show hasN n (rmW m.wire m.ws) ↔ _
    rw [hasN_rm h.i.up, h.has n h1 h2, h.wi]
    constructor
    · rintro ⟨a | a, b⟩
      · exact ⟨a, b⟩
      · exact absurd a b
    · rintro ⟨a, b⟩; exact ⟨.inl a, b⟩
theorem GonP.lost {m : Ml} {P W : Nat} {ts : List Int} (h : GonP m P W ts) {n : Nat} (h1 : 1 ≤ n) (h2 : n ≤ P) : hasN n (loM m).ws ↔ (n : Int) ∉ ts := by
  unfold loM
  cases hab : m.ab with
  | true =>
    rw [h.ab] at hab
    have hW := (of_decide_eq_true hab).2
    simp only [if_true]
    show hasN n (rmW m.wire m.ws) ↔ _
    rw [hasN_rm h.i.up, h.has n h1 h2, h.wi]
    constructor
    · rintro ⟨a | a, b⟩
      · exact a
      · exact absurd a b
    · intro a; exact ⟨.inl a, fun e => a (by rw [e]; exact hW)⟩
  | false =>
    rw [h.ab] at hab
    have hW := of_decide_eq_false hab
    simp only [Bool.false_eq_true, if_false]
    show hasN n m.ws ↔ _
    rw [h.has n h1 h2]
    constructor
    · rintro (a | a)
      · exact a
      · intro b; exact hW ⟨by omega, by rw [← a]; exact b⟩
    · exact .inl
end Go.Proofs.Ytffbkcjkmhjfnaa
