/-
  Contracts of a mail's methods: remove, free, Len, Waits.
  Contracts of a mail's methods: free, Len, Waits, Lost, Sent, Start, Abort.
  Contracts of a mail's methods: Lost, Sent, Start, Abort.
-/
import Derived.Test.YtffbkcjkmhjfnaaB10g
namespace Go.Proofs.Ytffbkcjkmhjfnaa
open Go.RowKit Go.Sort
set_option linter.unusedVariables false

section
variable {B : Nat} {w w1 : World} {g : Nat} {m : Ml} {a : Option Addr} {c : Nat} {S : Nat → Prop}

theorem MlO.thaw (h : MlO B w g m a c S) (i : Nat) : w.frozen? ⟨g, i, none⟩ = false := bx_thaw h.box i

/-- One cell of a mail's box, stored. -/
theorem MlO.cell (h : MlO B w g m a c S) (i : Nat) (v : Value) (m' : Ml) (hc : (mlV g m a c).setIfInBounds i v = mlV g m' a c) (hw : m'.ws = m.ws) (hr : m'.room = m.room) (hp : m'.puts < 4611686018427387904) (hwi : m'.wire < 4611686018427387904) :
    MlO B (w.setCell ⟨g, i, none⟩ v) g m' a c S := by
  have k : Ch S w (w.setCell ⟨g, i, none⟩ v) := (Ch.refl S w).setCell (p := ⟨g, i, none⟩) (.inl h.sg) v
  have e : ∀ b, b ≠ g → (w.setCell ⟨g, i, none⟩ v).heap[b]? = w.heap[b]? := fun b hb => Below.heap_setCell _ _ _ _ hb
  refine ⟨?_, ?_, ?_, h.hB, h.sg, h.sr, by rw [hw]; exact h.sd, h.sB, h.ng, by rw [hw]; exact h.nd, by rw [hr]; exact h.rm, by rw [hw, hr]; exact h.le, hp, hwi, fun q hq => Nat.lt_of_lt_of_le (h.sL q hq) k.size⟩
  · rw [heap_setCell_same w g i _ _ v h.box, hc]
  · rw [hw]; exact h.row.kept fun b hb => e b (by have := h.ng; subst hb; exact this.block)
  · rw [hw]
    exact fun p hp' => ⟨(h.wt p hp').dat.ch (S := fun b => b = g) (Ch.setCell (S := fun b => b = g) (Ch.refl _ w) (p := ⟨g, i, none⟩) (.inl rfl) v) (fun q hq e => (h.nd p hp').1 q hq e), (h.wt p hp').id, (h.wt p hp').dl, (h.wt p hp').len, (h.wt p hp').num⟩

theorem rm_len {n : Nat} {ws : List Wt} (h : ∃ p ∈ ws, p.2 = n) : (rmW n ws).length + 1 = ws.length := by
  obtain ⟨p, hp, he⟩ := h
  unfold rmW
  have := List.length_eraseP_of_mem (p := fun q => decide (q.2 = n)) hp (by simpa using he)
  have h0 : 0 < ws.length := List.length_pos_of_mem hp
  omega
theorem rm_sub {n : Nat} {ws : List Wt} : ∀ p ∈ rmW n ws, p ∈ ws := fun p hp => List.mem_of_mem_eraseP hp

set_option maxRecDepth 100000 in
set_option maxHeartbeats 4000000 in
theorem remove_any (h : MlO B w g m a c S) (N : Nat) (hN : ∃ p ∈ m.ws, p.2 = N) :
    Calls Try.prog 33 #[.pointer (some ⟨g, 0, none⟩), .int .i64 (N : Int)] w fun e w' => e = .returned (.tuple #[]) ∧ MlO B w' g { m with ws := rmW N m.ws } a c S ∧ Ch S w w' := by
  obtain ⟨k, p, hk, hp, hf, hlo⟩ : ∃ (k : Nat) (p : Wt), m.ws[k]? = some p ∧ p.2 = N ∧ fiW (N : Int) m.ws = (k : Int) ∧ ∀ (j : Nat) (q : Wt), j < k → m.ws[j]? = some q → q.2 ≠ N := by
    obtain ⟨p, hp, he⟩ := hN
    rcases fiW_or (N : Int) m.ws with ⟨_, h2⟩ | ⟨k, q, h1, h2, h3, h4⟩
    · exact absurd (by omega) (h2 p hp)
    · exact ⟨k, q, h1, by omega, h3, fun j q hj hq e => h4 j q hj hq (by omega)⟩
  have hfd := mfind_any h (N : Int)
  rw [hf] at hfd
  have hrm := rmW_at hk hp hlo
  have hkl := (List.getElem?_eq_some_iff.1 hk).1
  obtain ⟨gr, hgr, hgB, hgl⟩ := h.row.addr (by omega)
  have hng : gr ≠ g := by have := h.ng; subst hgr; exact this.block
  have hn : m.ws.length ≤ 100000 := by have := h.rm; have := h.le; omega
  have hl1 := rm_len hN
  clear hf hk hp hlo
  subst hgr
  go_enter Try.func33, Try.ntmps33
  go_wp2_with (first
    | (go_at_call 31; (refine hfd.mono ?_); rintro e w1 ⟨rfl, g1⟩
       have h1 := h.below g1
       have q3 := (bx6 h1.box).2.2.2.1
       have hz := h1.thaw 3)
    | (go_at_call 42; (refine (delete_any _ B gr m.ws.length c m.ws k hkl h1.row hn).mono ?_); rintro e w2 ⟨rfl, o2, r2⟩
       have hb2 : w2.heap[g]? = some (.cells (mlV g m (some ⟨gr, 0, none⟩) c) 49 (0, 0)) := (r2.block g h1.lt (Ne.symm hng)).trans h1.box
       have hz2 := bx_thaw hb2
       have q32 := (bx6 hb2).2.2.2.1))
  have hb3 : (w2.setCell ⟨g, 3, none⟩ (.slice (some ⟨gr, 0, none⟩) (m.ws.length - 1) c)).heap[g]? = some (.cells (mlV g { m with ws := rmW N m.ws } (some ⟨gr, 0, none⟩) c) 49 (0, 0)) := by
    rw [heap_setCell_same w2 g 3 _ _ _ hb2]
    show some (Obj.cells #[_, _, _, Value.slice _ (m.ws.length - 1) c, _, _] _ _) = some (Obj.cells #[_, _, _, Value.slice _ (rmW N m.ws).length c, _, _] _ _)
    rw [show m.ws.length - 1 = (rmW N m.ws).length by omega]
  have hch : Ch S w (w2.setCell ⟨g, 3, none⟩ (.slice (some ⟨gr, 0, none⟩) (m.ws.length - 1) c)) := by
    have k1 : Ch S w1 w2 := ⟨r2.os, r2.tape, r2.output, r2.size, fun b hb hs => r2.block b hb (fun e => hs (by rw [e]; exact h.sr _ rfl))⟩
    exact (((Ch.refl S w).call g1).trans k1 (fun b hb => .inl hb)).setCell (p := ⟨g, 3, none⟩) (.inl h.sg) _
  have hrow : OK enW 6 65 B (w2.setCell ⟨g, 3, none⟩ (.slice (some ⟨gr, 0, none⟩) (m.ws.length - 1) c)) (some ⟨gr, 0, none⟩) (rmW N m.ws).length c (rmW N m.ws) := by
    rw [hrm, show (m.ws.take k ++ m.ws.drop (k + 1)).length = m.ws.length - 1 by rw [← hrm]; omega]
    exact o2.kept fun b hb => Below.heap_setCell _ _ _ _ (by cases hb; exact hng)
  have hwt : ∀ p ∈ rmW N m.ws, WtR (w2.setCell ⟨g, 3, none⟩ (.slice (some ⟨gr, 0, none⟩) (m.ws.length - 1) c)) p := fun p hp => by
    have hm := rm_sub p hp
    have hd := h1.nd p hm
    have hw2 : WtR w2 p := (h1.wt p hm).ch (S := fun b => b = gr) ⟨r2.os, r2.tape, r2.output, r2.size, fun b hb hs => r2.block b hb hs⟩ (fun q hq e => hd.2 _ rfl q hq e)
    exact hw2.ch (S := fun b => b = g) (Ch.setCell (S := fun b => b = g) (Ch.refl _ w2) (p := ⟨g, 3, none⟩) (.inl rfl) _) (fun q hq e => hd.1 q hq e)
  exact bodyPost_end (v := .tuple #[]) (by simp [results, Try.results33, go_sem]) rfl ⟨rfl, ⟨hb3, hrow, hwt, h.hB, h.sg, h.sr, fun p hp => h.sd p (rm_sub p hp), h.sB, h.ng, fun p hp => h.nd p (rm_sub p hp), h.rm, by show (rmW N m.ws).length ≤ m.room; have := h.le; omega, h.pu, h.wi, fun q hq => Nat.lt_of_lt_of_le (h.sL q hq) hch.size⟩, hch⟩
end
end Go.Proofs.Ytffbkcjkmhjfnaa

namespace Go.Proofs.Ytffbkcjkmhjfnaa
open Go.RowKit Go.Sort
set_option linter.unusedVariables false

/-- Does a number wait? -/
def hasW (n : Int) (ws : List Wt) : Bool := decide (0 ≤ fiW n ws)
theorem hasW_yes {n : Int} {ws : List Wt} (h : hasW n ws = true) : ∃ p ∈ ws, (p.2 : Int) = n := by
  rcases fiW_or n ws with ⟨h1, _⟩ | ⟨k, p, h1, h2, _, _⟩
  · unfold hasW at h; rw [h1] at h; simp at h
  · exact ⟨p, List.mem_of_getElem? h1, h2⟩
theorem hasW_of {n : Int} {ws : List Wt} {p : Wt} (hp : p ∈ ws) (he : (p.2 : Int) = n) : hasW n ws = true := by
  rcases fiW_or n ws with ⟨_, h2⟩ | ⟨k, q, h1, h2, h3, _⟩
  · exact absurd he (h2 p hp)
  · unfold hasW; rw [h3]; simp
theorem hasW_iff {n : Int} {ws : List Wt} : hasW n ws = true ↔ ∃ p ∈ ws, (p.2 : Int) = n := ⟨hasW_yes, fun ⟨_, h1, h2⟩ => hasW_of h1 h2⟩

section
variable {B : Nat} {w w1 : World} {g : Nat} {m : Ml} {a : Option Addr} {c : Nat} {S : Nat → Prop}

/-- What is left behind a method that keeps the row's place. -/
def Mle (B : Nat) (w : World) (g : Nat) (m' : Ml) (a : Option Addr) (c : Nat) (S : Nat → Prop) (w' : World) : Prop := MlO B w' g m' a c S ∧ Ch S w w'

/-- The mail as free leaves it. -/
def frM (m : Ml) : Ml := { m with wire := 0, ab := false }

set_option maxRecDepth 100000 in
theorem free_any (h : MlO B w g m a c S) :
    Calls Try.prog 34 #[.pointer (some ⟨g, 0, none⟩)] w fun e w' => e = .returned (.tuple #[]) ∧ Mle B w g (frM m) a c S w' := by
  have q4 := (bx6 h.box).2.2.2.2.1
  have q5 := (bx6 h.box).2.2.2.2.2
  have hf := h.thaw
  go_enter Try.func34, Try.ntmps34
  go_wp2
  have h1 := h.cell 4 (.int .i64 0) { m with wire := 0 } rfl rfl rfl h.pu (by show 0 < _; omega)
  have h2 := h1.cell 5 (.bool false) (frM m) rfl rfl rfl h.pu (by show 0 < _; omega)
  exact bodyPost_end (v := .tuple #[]) (by simp [results, Try.results34, go_sem]) rfl ⟨rfl, h2, ((Ch.refl S w).setCell (p := ⟨g, 4, none⟩) (.inl h.sg) _).setCell (p := ⟨g, 5, none⟩) (.inl h.sg) _⟩

set_option maxRecDepth 100000 in
theorem mlen_any (h : MlO B w g m a c S) :
    Calls Try.prog 10 #[.pointer (some ⟨g, 0, none⟩)] w fun e w' => e = .returned (.int .i64 (m.ws.length : Int)) ∧ w = w' := by
  have q3 := (bx6 h.box).2.2.2.1
  have hm := mlMade_any h
  go_enter Try.func10, Try.ntmps10
  go_wp2_with (go_at_call 27; (refine hm.mono ?_); rintro e w1 ⟨rfl, rfl⟩)
  go_ret
  exact ⟨rfl, rfl⟩

set_option maxRecDepth 100000 in
theorem waits_any (h : MlO B w g m a c S) (N : Int) :
    Calls Try.prog 11 #[.pointer (some ⟨g, 0, none⟩), .int .i64 N] w fun e w' => e = .returned (.bool (hasW N m.ws)) ∧ Below w.heap.size w w' := by
  have hm := mlMade_any h
  have hf := mfind_any h N
  unfold hasW
  generalize fiW N m.ws = z at *
  go_enter Try.func11, Try.ntmps11
  go_wp2_with (first
    | (go_at_call 27; (refine hm.mono ?_); rintro e w1 ⟨rfl, rfl⟩)
    | (go_at_call 31; (refine hf.mono ?_); rintro e w1 ⟨rfl, g1⟩))
  go_ret
  exact ⟨rfl, g1⟩
end
end Go.Proofs.Ytffbkcjkmhjfnaa

namespace Go.Proofs.Ytffbkcjkmhjfnaa
open Go.RowKit Go.Sort
set_option linter.unusedVariables false

/-- The mail behind Lost, Sent, Start, Abort. -/
def rmM (n : Nat) (m : Ml) : Ml := { m with ws := rmW n m.ws }
def loM (m : Ml) : Ml := if m.ab then frM (rmM m.wire m) else frM m
def seM (m : Ml) : Ml := if m.wire = 0 then m else frM (rmM m.wire m)
def stM (m : Ml) : Ml := match beM m with | none => m | some p => { m with wire := p.2 }

section
variable {B : Nat} {w w1 w2 w3 : World} {g : Nat} {m m1 m2 : Ml} {a : Option Addr} {c : Nat} {S : Nat → Prop}

theorem Mle.refl (h : MlO B w g m a c S) : Mle B w g m a c S w := ⟨h, Ch.refl S w⟩
theorem Mle.call (h : Mle B w g m a c S w1) (k : Below w1.heap.size w1 w2) : Mle B w g m a c S w2 := ⟨h.1.below k, h.2.call k⟩
theorem Mle.trans (h : Mle B w g m a c S w1) (k : Mle B w1 g m1 a c S w2) : Mle B w g m1 a c S w2 := ⟨k.1, h.2.trans k.2 fun b hb => .inl hb⟩

set_option maxRecDepth 100000 in
set_option maxHeartbeats 1000000 in
theorem lost_any (h : MlO B w g m a c S) (hI : MlI m) :
    Calls Try.prog 20 #[.pointer (some ⟨g, 0, none⟩)] w fun e w' => e = .returned (.tuple #[]) ∧ Mle B w g (loM m) a c S w' := by
  have q4 := (bx6 h.box).2.2.2.2.1
  have q5 := (bx6 h.box).2.2.2.2.2
  have hm := mlMade_any h
  cases hab : m.ab
  · have hF : loM m = frM m := by unfold loM; rw [hab]; rfl
    rw [hF]; clear hF
    rw [hab] at q5
    have hf := free_any h
    clear hab
    go_enter Try.func20, Try.ntmps20
    go_wp2_with (first
      | (go_at_call 27; (refine hm.mono ?_); rintro e w1 ⟨rfl, rfl⟩)
      | (go_at_call 34; (refine hf.mono ?_); rintro e w1 ⟨rfl, o1⟩))
    exact bodyPost_end (v := .tuple #[]) (by simp [results, Try.results20, go_sem]) rfl ⟨rfl, o1⟩
  · have hF : loM m = frM (rmM m.wire m) := by unfold loM; rw [hab]; rfl
    rw [hF]; clear hF
    rw [hab] at q5
    have hN : ∃ p ∈ m.ws, p.2 = m.wire := hI.wr.resolve_left (hI.aw hab)
    have hr := remove_any h m.wire hN
    clear hab hN
    go_enter Try.func20, Try.ntmps20
    go_wp2_with (first
      | (go_at_call 27; (refine hm.mono ?_); rintro e w1 ⟨rfl, rfl⟩)
      | (go_at_call 33; (refine hr.mono ?_); rintro e w1 ⟨rfl, o1, k1⟩)
      | (go_at_call 34; (refine (free_any o1).mono ?_); rintro e w2 ⟨rfl, o2, k2⟩))
    exact bodyPost_end (v := .tuple #[]) (by simp [results, Try.results20, go_sem]) rfl ⟨rfl, o2, k1.trans k2 fun b hb => .inl hb⟩

set_option maxRecDepth 100000 in
set_option maxHeartbeats 1000000 in
theorem sent_any (h : MlO B w g m a c S) (hI : MlI m) :
    Calls Try.prog 21 #[.pointer (some ⟨g, 0, none⟩)] w fun e w' => e = .returned (.tuple #[.int .i64 (m.wire : Int), .bool (decide (m.wire ≠ 0))]) ∧ Mle B w g (seM m) a c S w' := by
  have q4 := (bx6 h.box).2.2.2.2.1
  have hm := mlMade_any h
  by_cases h0 : m.wire = 0
  · have hF : seM m = m := by unfold seM; rw [if_pos h0]
    rw [hF, h0]; clear hF
    rw [h0] at q4
    go_enter Try.func21, Try.ntmps21
    go_wp2_with (go_at_call 27; (refine hm.mono ?_); rintro e w1 ⟨rfl, rfl⟩)
    go_ret2
    exact ⟨rfl, Mle.refl h⟩
  · have hF : seM m = frM (rmM m.wire m) := by unfold seM; rw [if_neg h0]
    rw [hF, show decide (m.wire ≠ 0) = true by simpa using h0]; clear hF
    have hN : ∃ p ∈ m.ws, p.2 = m.wire := hI.wr.resolve_left h0
    have hr := remove_any h m.wire hN
    have hne : ((m.wire : Int) == 0) = false := by rw [beq_eq_false_iff_ne]; omega
    clear hN h0
    go_enter Try.func21, Try.ntmps21
    go_wp2_with (first
      | (go_at_call 27; (refine hm.mono ?_); rintro e w1 ⟨rfl, rfl⟩)
      | (go_at_call 33; (refine hr.mono ?_); rintro e w1 ⟨rfl, o1, k1⟩)
      | (go_at_call 34; (refine (free_any o1).mono ?_); rintro e w2 ⟨rfl, o2, k2⟩))
    go_ret2
    exact ⟨rfl, o2, k1.trans k2 fun b hb => .inl hb⟩

set_option maxRecDepth 100000 in
set_option maxHeartbeats 1000000 in
theorem start_no (h : MlO B w g m a c S) (h0 : m.ws = []) :
    Calls Try.prog 18 #[.pointer (some ⟨g, 0, none⟩)] w fun e w' => e = .returned (.tuple #[.int .i64 0, .bool false]) ∧ w = w' := by
  have q3 := (bx6 h.box).2.2.2.1
  have hm := mlMade_any h
  rw [h0] at q3
  clear h0
  go_enter Try.func18, Try.ntmps18
  go_wp2_with (go_at_call 27; (refine hm.mono ?_); rintro e w1 ⟨rfl, rfl⟩)
  go_ret2
  exact ⟨rfl, rfl⟩

theorem fieldW (v0 v1 v2 v3 v4 v5 : Value) (w : World) : (Instr.field 65 (.agg #[v0, v1, v2, v3, v4, v5]) 1).run Try.prog w = .ok v5 w := by kernel_rfl
theorem beM_num {m : Ml} {p : Wt} (h : beM m = some p) : p ∈ m.ws := by
  unfold beM at h
  cases hw : m.ws with
  | nil => rw [hw] at h; cases h
  | cons x l =>
    rw [hw] at h
    simp only at h
    split at h
    · simp only [Option.some.injEq] at h
      rcases miW_mem l x with e | e
      · rw [← h, e]; simp
      · rw [← h]; simp [e]
    · exact List.mem_of_find?_eq_some h

set_option maxRecDepth 100000 in
set_option maxHeartbeats 1000000 in
theorem start_any (h : MlO B w g m a c S) (p : Wt) (hp : beM m = some p) :
    Calls Try.prog 18 #[.pointer (some ⟨g, 0, none⟩)] w fun e w' => e = .returned (.tuple #[.int .i64 (p.2 : Int), .bool true]) ∧ Mle B w g { m with wire := p.2 } a c S w' := by
  have q3 := (bx6 h.box).2.2.2.1
  have hm := mlMade_any h
  have hmem := beM_num hp
  have hl := List.length_pos_of_mem hmem
  have hne : ((m.ws.length : Int) == 0) = false := by rw [beq_eq_false_iff_ne]; omega
  have hf := first_any h p hp
  have hpn := (h.wt p hmem).num
  have hfw := fun v0 v1 v2 v3 v4 v5 w => fieldW v0 v1 v2 v3 v4 v5 w
  clear hp
  go_enter Try.func18, Try.ntmps18
  go_wp2_with (first
    | (go_at_call 27; (refine hm.mono ?_); rintro e w1 ⟨rfl, rfl⟩)
    | (go_at_call 28; (refine hf.mono ?_); rintro e w1 ⟨rfl, g1⟩
       have h1 := h.below g1
       have hz := h1.thaw
       have h2 := h1.cell 4 (.int .i64 (p.2 : Int)) { m with wire := p.2 } rfl rfl rfl h.pu hpn
       have q4 := (bx6 h1.box).2.2.2.2.1))
  go_ret2
  exact ⟨rfl, h2, ((Ch.refl S w).call g1).setCell (p := ⟨g, 4, none⟩) (.inl h.sg) _⟩
end
end Go.Proofs.Ytffbkcjkmhjfnaa
