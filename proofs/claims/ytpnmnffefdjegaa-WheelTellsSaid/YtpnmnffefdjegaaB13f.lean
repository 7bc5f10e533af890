/-
  The contract of the closure that Tick hands to the library: it tells whether a number is due, and takes it out if it is.
-/
import Derived.Test.YtpnmnffefdjegaaB13e
import Derived.Test.YtpnmnffefdjegaaM13b
namespace Go.Proofs.Ytpnmnffefdjegaa
open Go.RowKit Go.Maps Go.Sort
set_option linter.unusedVariables false

def iv (x : Int) : Value := .int .i64 x
theorem tI : ElT Try.prog 39 3 (.int .i64 0) 8 := ⟨by kernel_rfl, by kernel_rfl, by kernel_rfl, by kernel_rfl, by kernel_rfl⟩

/-- While a tick goes on: the wheel's box, the boxes of the closure, the list of what is told, the map of what is due. -/
structure TkO (B : Nat) (w : World) (x : Wl) (T most : Int) (p1 p3 : Nat) (L : List Tm) (o : List Int) : Prop where
  box : w.heap[x.g]? = some (.cells #[.pointer (some ⟨x.g, 0, none⟩), .int .i64 most, .int .i64 T, .map (some x.bd), .slice (some ⟨x.sb, 0, none⟩) x.bs.length x.bs.length] 58 (0, 0))
  b1 : w.heap[p1]? = some (.cells #[.pointer (some ⟨x.g, 0, none⟩)] 23 (0, 0))
  out : ∃ a c, w.heap[p3]? = some (.cells #[.slice a o.length c] 39 (0, 0)) ∧ OL iv 3 B w a o.length c o
  due : ∃ D n, MI w x.bd n D ∧ Due D L
  gd : x.g ≠ x.bd
  g1 : x.g < p1
  d1 : x.bd < p1
  p13 : p1 < p3
  p3B : p3 < B
  hB : B ≤ w.heap.size
  ol : o.length ≤ 100000

section
variable {B : Nat} {w w1 : World} {x : Wl} {T most : Int} {p1 p3 : Nat} {L : List Tm} {o : List Int} {S1 : Nat → Prop} {id : Int}

theorem TkO.ch (h : TkO B w x T most p1 p3 L o) (k : Ch S1 w w1) (hn : ∀ b, (b = x.g ∨ b = x.bd ∨ b = p1 ∨ b = p3 ∨ B ≤ b) → ¬ S1 b) : TkO B w1 x T most p1 p3 L o := by
  obtain ⟨a, c, h1, h2⟩ := h.out
  obtain ⟨D, n, h3, h4⟩ := h.due
  exact ⟨k.bx h.box (hn _ (.inl rfl)), k.bx h.b1 (hn _ (.inr (.inr (.inl rfl)))), ⟨a, c, k.bx h1 (hn _ (.inr (.inr (.inr (.inl rfl))))), h2.ch k (fun p hp => hn _ (.inr (.inr (.inr (.inr (h2.ltB hp).2)))))⟩,
    ⟨D, n, MI.ch h3 k (hn _ (.inr (.inl rfl))), h4⟩, h.gd, h.g1, h.d1, h.p13, h.p3B, Nat.le_trans h.hB k.size, h.ol⟩
theorem TkO.below (h : TkO B w x T most p1 p3 L o) (k : Below w.heap.size w w1) : TkO B w1 x T most p1 p3 L o := h.ch (S1 := fun _ => False) (Ch.of_below k) (fun _ _ e => e)

set_option maxRecDepth 100000 in
set_option maxHeartbeats 4000000 in
theorem tkFn_no (h : TkO B w x T most p1 p3 L o) (hw : (Lit.int .i64 id).wf = true) (hd : dueL L id ≠ T) :
    Calls Try.prog 26 #[.int .i64 id, .agg #[], .pointer (some ⟨p1, 0, none⟩), .pointer (some ⟨p3, 0, none⟩)] w fun e w' => e = .returned (.bool false) ∧ Below w.heap.size w w' := by
  obtain ⟨w0, hw0, hg⟩ : ∃ w0, Hid (w.alloc (.cells #[] 67) = w0) ∧ Below w.heap.size w w0 := ⟨_, rfl, bnew0 w _⟩
  have h0 := h.below hg
  obtain ⟨D, n, h3, h4⟩ := h0.due
  have lk := fun q : Nat => due_look1 (MI.below h3 (below_drewN (Below.refl _ _) q)) h4 hw
  obtain ⟨d, hdd⟩ : ∃ d, d = dueL L id := ⟨_, rfl⟩
  rw [← hdd] at lk hd
  clear hdd
  have hne : (d == T) = false := by rw [beq_eq_false_iff_ne]; exact hd
  have q1 := (cell1 h0.b1).1
  have q3 := (bx5 h0.box).2.2.2.1
  have q2 := (bx5 h0.box).2.2.1
  go_enter Try.func26, Try.ntmps26
  go_wp2_with (rw [hw0.out])
  go_quiet (fail)
  go_wp2
  go_ret
  exact ⟨rfl, below_drewN hg _⟩

theorem lit1I (w : World) (x : Int) : RL iv (w.alloc (.cells #[.int .i64 x] 3)) (some ⟨w.heap.size, 0, none⟩) 1 1 [x] := by
  refine ⟨rfl, Nat.le_refl _, fun _ => ⟨w.heap.size, 0, rfl, by simp, fun i y hy => ?_⟩⟩
  have hi : i = 0 := by have := (List.getElem?_eq_some_iff.1 hy).1; simp at this; omega
  subst hi
  simp at hy; subst hy
  rw [cell_of_row _ _ _ _ _ _ (heap_alloc_new w _)]; rfl

theorem tk_fin {w2 w3 : World} {a a' : Option Addr} {c c' n : Nat} {D : DataW Unit} (t1 : TkO B w1 x T most p1 p3 L o) (hk : (ids L).Nodup) (hol : o.length < 100000) (h4 : Due D L) (h5 : MI w2 x.bd n (D.del (.int .i64 id))) (s5 : w1.grownBy w2 (some x.bd)) (lit : Obj)
    (o3 : OL iv 3 B w3 a' (o.length + 1) c' (o ++ [id])) (g3 : Below B (w2.alloc lit) w3) (r3 : w3.heap[p3]? = some (.cells #[.slice a o.length c] 39 (0, 0))) :
    TkO B (w3.setCell ⟨p3, 0, none⟩ (.slice a' (o.length + 1) c')) x T most p1 p3 (outL L id) (o ++ [id]) ∧ Ch (fun b => b = x.bd ∨ b = p3 ∨ B ≤ b) w1 (w3.setCell ⟨p3, 0, none⟩ (.slice a' (o.length + 1) c')) := by
  have h0 := t1.hB; have h1 := t1.p13; have h2 := t1.p3B; have h3 := t1.g1; have h6 := t1.d1; have h7 := t1.gd
  have k2 := Ch.of_grown s5
  have z2 := k2.size
  have z3 : w2.heap.size + 1 ≤ w3.heap.size := by have := g3.size; rwa [heap_size_alloc] at this
  have k3 : Ch (fun b => b = x.bd ∨ b = p3 ∨ B ≤ b) w1 w3 := ((k2.mono (S1 := fun b => b = x.bd ∨ b = p3 ∨ B ≤ b) (fun b e => .inl e)).alloc lit).trans (S1 := fun b => B ≤ b)
    ⟨g3.os, g3.tape, g3.output, g3.size, fun b hb hn => g3.block b (by omega)⟩ (fun b hb => .inl (.inr (.inr hb)))
  have kF : Ch (fun b => b = x.bd ∨ b = p3 ∨ B ≤ b) w1 (w3.setCell ⟨p3, 0, none⟩ (.slice a' (o.length + 1) c')) := k3.setCell (p := ⟨p3, 0, none⟩) (.inl (.inr (.inl rfl))) _
  have hne : ∀ k, k ≠ p3 → (w3.setCell ⟨p3, 0, none⟩ (.slice a' (o.length + 1) c')).heap[k]? = w3.heap[k]? := fun k hk => Below.heap_setCell _ _ _ _ hk
  refine ⟨⟨kF.bx t1.box (by rintro (e | e | e) <;> omega), kF.bx t1.b1 (by rintro (e | e | e) <;> omega), ⟨a', c', ?_, ?_⟩, ⟨_, n, ?_, h4.del hk id⟩, h7, h3, h6, h1, h2, by have := kF.size; omega, by rw [List.length_append, List.length_singleton]; omega⟩, kF⟩
  · rw [heap_setCell_same w3 p3 0 _ _ _ r3, List.length_append, List.length_singleton]; rfl
  · rw [List.length_append, List.length_singleton]
    exact o3.kept fun b hb => hne b (by have := (o3.ltB hb).2; dsimp only at this; omega)
  · refine MI.at h5 ((hne _ (by omega)).trans ((g3.block _ (by omega)).trans ?_))
    exact (bnew0 w2 lit).block _ h5.lt

set_option maxRecDepth 100000 in
set_option maxHeartbeats 4000000 in
theorem tkFn_yes (h : TkO B w x T most p1 p3 L o) (hk : (ids L).Nodup) (hw : (Lit.int .i64 id).wf = true) (hd : dueL L id = T) (hol : o.length < 100000) :
    Calls Try.prog 26 #[.int .i64 id, .agg #[], .pointer (some ⟨p1, 0, none⟩), .pointer (some ⟨p3, 0, none⟩)] w fun e w' => e = .returned (.bool true) ∧ TkO B w' x T most p1 p3 (outL L id) (o ++ [id]) ∧ Ch (fun b => b = x.bd ∨ b = p3 ∨ B ≤ b) w w' := by
  obtain ⟨w0, hw0, hg⟩ : ∃ w0, Hid (w.alloc (.cells #[] 67) = w0) ∧ Below w.heap.size w w0 := ⟨_, rfl, bnew0 w _⟩
  have h0 := h.below hg
  obtain ⟨D, n, h3, h4⟩ := h0.due
  have lk := fun q : Nat => due_look1 (MI.below h3 (below_drewN (Below.refl _ _) q)) h4 hw
  rw [hd] at lk
  have hne : (T == T) = true := by simp
  have q1 := (cell1 h0.b1).1
  have q3 := (bx5 h0.box).2.2.2.1
  have q2 := (bx5 h0.box).2.2.1
  have HD := hid hd
  clear hd
  go_enter Try.func26, Try.ntmps26
  go_wp2_with (rw [hw0.out])
  go_quiet (fail)
  rename_i nq
  have g1 := below_drewN hg nq
  have t1 := h0.below (below_drewN (Below.refl _ w0) nq)
  clear lk q1 q3 q2 h3 h4 h0
  generalize w0.drewN nq = w1 at *
  obtain ⟨D, n, h3, h4⟩ := t1.due
  have q1 := (cell1 t1.b1).1
  have q3 := (bx5 t1.box).2.2.2.1
  obtain ⟨a, c, r1, r2⟩ := t1.out
  have hgB := t1.hB
  have p3B := t1.p3B
  have d3 : x.bd ≠ p3 := by have := t1.d1; have := t1.p13; omega
  have dB : x.bd < B := by have := t1.d1; have := t1.p13; omega
  go_wp2_with (first
    | (at_delete; refine wpList_delete_own _ rfl _ _ 50 3 rfl 3 lawI Try.underlying50 (plainElem Try.prog 3) x.bd _ D rfl h3 _ (.int .i64 id) rfl (keyOf_int_mk Try.underlying3 hw) ?_
       intro w2 h5 s5
       have k2 := Ch.of_grown s5.grown
       have u1 := k2.bx r1 (Ne.symm d3)
       have u2 := (cell1 u1).1
       have u3 := r2.ch k2 (fun p hp e => by have := (r2.ltB hp).2; omega)
       have z2 : B ≤ w2.heap.size := Nat.le_trans hgB k2.size)
    | (with_reducible refine wpList_appg (B := B) (w := w2.alloc (.cells #[.int .i64 id] 3)) tI rfl _ _ rfl rfl (u3.alloc _) rfl (lit1I w2 id) (by omega) (fun _ => rfl) (by omega) (by omega) (by rw [heap_size_alloc]; omega) ?_
       intro w3 a3 c3 o3 g3 k3 s3
       have v1 := (g3.block p3 p3B).trans (bx_alloc _ u1)
       have v2 := cell1 v1))
  go_ret
  obtain ⟨f1, f2⟩ := tk_fin t1 hk hol h4 h5 s5.grown _ o3 g3 v1
  exact ⟨rfl, f1, (Ch.of_below g1).trans f2 (fun b hb => .inl hb)⟩
end
end Go.Proofs.Ytpnmnffefdjegaa
