/-
  Contract of the statements' own reading of all bits.
  Contracts of the statements' own last and of their examples (awake, stage 7).
-/
import Derived.Test.YthpgcgkgokfnpaaB7g
namespace Go.Proofs.Ythpgcgkgokfnpaa
open Go.RowKit
set_option linter.unusedVariables false

/-- What is said of bits, as its value. -/
def nv (d : Nat) : Value := .int .u8 (d : Int)

/-- What is read, and what is said of the bits, one by one, up to what ends it. -/
def alT (s : Tk) : List Bool → Tk × List Nat
  | [] => (s, [])
  | x :: l => if (nxT s x).2 = 0 ∨ (nxT s x).2 = 4 then ((alT (nxT s x).1 l).1, (nxT s x).2 :: (alT (nxT s x).1 l).2) else ((nxT s x).1, [(nxT s x).2])

theorem nxT_len (s : Tk) (x : Bool) : (nxT s x).1.l.length ≤ s.l.length + 1 := by
  unfold nxT; repeat' split
  all_goals (simp only [List.length_append, List.length_cons, List.length_nil]; omega)

theorem nxT_p (s : Tk) (x : Bool) (h : s.p ≤ 11) : (nxT s x).1.p ≤ 11 := by
  unfold nxT; repeat' split
  all_goals (simp only; omega)

theorem nxT_le (s : Tk) (x : Bool) : (nxT s x).2 ≤ 6 := by
  unfold nxT; repeat' split
  all_goals (simp)

theorem nxT_ri (s : Tk) (x : Bool) (h : rightA s.b s.m) : rightA (nxT s x).1.b (nxT s x).1.m := by
  have := (nxt_right (x := x) h).1
  unfold nxT; repeat' split
  all_goals first | exact h | exact this

def tkC (s : Tk) (a : Option Addr) (c : Nat) : Array Value := #[.bool s.b, .int .u8 (s.m : Int), .slice a s.l.length c, .int .u8 (s.p : Int), .bool s.fi]

theorem set5_box {w : World} {g : Nat} {E : TypeId} {u0 u1 u2 u3 u4 : Value} (v0 v1 v2 v3 v4 : Value) (h : w.heap[g]? = some (.cells #[u0, u1, u2, u3, u4] E (0, 0))) :
    (((((w.setCell ⟨g, 0, none⟩ v0).setCell ⟨g, 1, none⟩ v1).setCell ⟨g, 2, none⟩ v2).setCell ⟨g, 3, none⟩ v3).setCell ⟨g, 4, none⟩ v4).heap[g]? = some (.cells #[v0, v1, v2, v3, v4] E (0, 0)) :=
  heap_setCell_same _ g 4 _ _ v4 (heap_setCell_same _ g 3 _ _ v3 (heap_setCell_same _ g 2 _ _ v2 (heap_setCell_same _ g 1 _ _ v1 (heap_setCell_same w g 0 _ _ v0 h))))

theorem set5_other7 {w : World} {g k : Nat} (v0 v1 v2 v3 v4 : Value) (h : k ≠ g) :
    (((((w.setCell ⟨g, 0, none⟩ v0).setCell ⟨g, 1, none⟩ v1).setCell ⟨g, 2, none⟩ v2).setCell ⟨g, 3, none⟩ v3).setCell ⟨g, 4, none⟩ v4).heap[k]? = w.heap[k]? := by
  rw [heap_setCell_other _ _ _ _ h, heap_setCell_other _ _ _ _ h, heap_setCell_other _ _ _ _ h, heap_setCell_other _ _ _ _ h, heap_setCell_other _ _ _ _ h]

/-- The state that is read in a box, its bits, and what was said. -/
structure Al (w wr : World) (s : Tk) (a : Option Addr) (c : Nat) (ao : Option Addr) (no co : Nat) (out : List Nat) : Prop where
  r : wr.heap[w.heap.size]? = some (.cells #[.bool false, .int .u8 0, .slice none 0 0, .int .u8 0, .bool false] 29 (0, 0))
  t : wr.heap[w.heap.size + 1]? = some (.cells #[.bool s.b, .int .u8 (s.m : Int), .slice a s.l.length c, .int .u8 (s.p : Int), .bool s.fi] 29 (0, 0))
  row : OL .bool 4 (w.heap.size + 2) wr a s.l.length c s.l
  out : OL nv 5 (w.heap.size + 2) wr ao no co out
  bel : Below w.heap.size w wr
  nb : ∀ q, a = some q → NB ao q.block

section
variable {w wr w2 : World} {s s' : Tk} {a a2 ao ao2 : Option Addr} {c c2 no co no2 co2 : Nat} {out out2 : List Nat}

theorem Al.size (h : Al w wr s a c ao no co out) : w.heap.size + 2 ≤ wr.heap.size := by have := bx_lt h.t; omega

theorem Al.next (h : Al w wr s a c ao no co out) (g : Below wr.heap.size wr w2) (ho : OL .bool 4 wr.heap.size w2 a2 s'.l.length c2 s'.l) (o : Obj) :
    Al w ((((((w2.alloc o).setCell ⟨w.heap.size + 1, 0, none⟩ (.bool s'.b)).setCell ⟨w.heap.size + 1, 1, none⟩ (.int .u8 (s'.m : Int))).setCell ⟨w.heap.size + 1, 2, none⟩ (.slice a2 s'.l.length c2)).setCell ⟨w.heap.size + 1, 3, none⟩ (.int .u8 (s'.p : Int))).setCell ⟨w.heap.size + 1, 4, none⟩ (.bool s'.fi)) s' a2 c2 ao no co out := by
  have hs := h.size
  refine ⟨?_, set5_box _ _ _ _ _ (bx_alloc o (bx_below h.t g)), ?_, ?_, below7 (bnew (bstep h.bel g) o) (by omega) _ _ _ _ _, ?_⟩
  · rw [set5_other7 _ _ _ _ _ (by omega)]; exact bx_alloc o (bx_below h.r g)
  · refine ((ho.mono (by omega)).alloc o).kept fun k hk => set5_other7 _ _ _ _ _ ?_
    have := (ho.ltB hk).2; dsimp only at this; omega
  · refine ((h.out.below g).alloc o).kept fun k hk => set5_other7 _ _ _ _ _ ?_
    have := (h.out.ltB hk).2; dsimp only at this; omega
  · intro q hq p hp e
    have h1 := (ho.ltB hq).2
    have h2 := (h.out.ltB hp).1
    omega

theorem Al.alloc (h : Al w wr s a c ao no co out) (o : Obj) : Al w (wr.alloc o) s a c ao no co out :=
  ⟨bx_alloc o h.r, bx_alloc o h.t, h.row.alloc o, h.out.alloc o, bnew h.bel o, h.nb⟩

theorem Al.app (h : Al w wr s a c ao no co out) (ho : OL nv 5 (w.heap.size + 2) w2 ao2 no2 co2 out2) (g : Below (w.heap.size + 2) wr w2) (hk : ∀ k, k < wr.heap.size → NB ao k → w2.heap[k]? = wr.heap[k]? ∧ NB ao2 k) :
    Al w w2 s a c ao2 no2 co2 out2 := by
  have hs := h.size
  refine ⟨by rw [g.block _ (by omega)]; exact h.r, by rw [g.block _ (by omega)]; exact h.t, h.row.kept fun k hq => (hk k ?_ (h.nb _ hq)).1, ho, h.bel.trans (g.mono (by omega)), fun q hq => (hk _ (h.row.ltB hq).1 (h.nb q hq)).2⟩
  exact (h.row.ltB hq).1
end

theorem lit7n (w1 : World) (d q : Nat) (hq : q = w1.heap.size) : RL nv (w1.alloc (.cells #[.int .u8 (d : Int)] 5)) (some ⟨q, 0, none⟩) 1 1 [d] := by
  subst hq
  exact (ol_lit nv 5 0 w1 [d] _ 1 rfl rfl (by omega) (Nat.zero_le _)).rl

theorem al_row {w wr : World} {s : Tk} {a ao : Option Addr} {c no co : Nat} {out : List Nat} (h : Al w wr s a c ao no co out) (v0 v1 v2 v3 v4 : Value) : OL .bool 4 w.heap.size (((((wr.setCell ⟨w.heap.size, 0, none⟩ v0).setCell ⟨w.heap.size, 1, none⟩ v1).setCell ⟨w.heap.size, 2, none⟩ v2).setCell ⟨w.heap.size, 3, none⟩ v3).setCell ⟨w.heap.size, 4, none⟩ v4) a s.l.length c s.l :=
  (h.row.kept fun k hk => set5_other7 _ _ _ _ _ (by have := (h.row.ltB hk).2; dsimp only at this; omega)).mono (by omega)

theorem al_out {w wr : World} {s : Tk} {a ao : Option Addr} {c no co : Nat} {out : List Nat} (h : Al w wr s a c ao no co out) (v0 v1 v2 v3 v4 : Value) : OL nv 5 w.heap.size (((((wr.setCell ⟨w.heap.size, 0, none⟩ v0).setCell ⟨w.heap.size, 1, none⟩ v1).setCell ⟨w.heap.size, 2, none⟩ v2).setCell ⟨w.heap.size, 3, none⟩ v3).setCell ⟨w.heap.size, 4, none⟩ v4) ao no co out :=
  (h.out.kept fun k hk => set5_other7 _ _ _ _ _ (by have := (h.out.ltB hk).2; dsimp only at this; omega)).mono (by omega)

set_option maxHeartbeats 4000000 in
theorem all_any (w : World) (a : Option Addr) (n c : Nat) (l : List Bool) (h : RL .bool w a n c l) (hn : n ≤ 1000) :
    Calls Try.prog 17 #[.slice a n c] w fun e w' => ∃ a' c' ao co,
      e = .returned (.tuple #[.agg #[.bool (alT s0 l).1.b, .int .u8 ((alT s0 l).1.m : Int), .slice a' (alT s0 l).1.l.length c', .int .u8 ((alT s0 l).1.p : Int), .bool (alT s0 l).1.fi], .slice ao (alT s0 l).2.length co]) ∧
      OL .bool 4 w.heap.size w' a' (alT s0 l).1.l.length c' (alT s0 l).1.l ∧ OL nv 5 w.heap.size w' ao (alT s0 l).2.length co (alT s0 l).2 ∧ Below w.heap.size w w' := by
  obtain ⟨T, hT⟩ : ∃ T, T = (alT s0 l).1 := ⟨_, rfl⟩
  obtain ⟨O, hO⟩ : ∃ O, O = (alT s0 l).2 := ⟨_, rfl⟩
  rw [← hT, ← hO]
  obtain ⟨w0, hw0, hr0, ht0, hb0⟩ := boxed5 w 29 (.bool false) (.int .u8 0) (.slice none 0 0) (.int .u8 0) (.bool false) (.bool false) (.int .u8 0) (.slice none 0 0) (.int .u8 0) (.bool false)
  have hA0 : Al w w0 s0 none 0 none 0 0 [] := ⟨hr0, ht0, OL.nil _ _ _ _, OL.nil _ _ _ _, hb0, fun q hq => by cases hq⟩
  have HS := hid (show ([] : List Nat) ++ (alT s0 (l.drop 0)).2 = O ∧ (alT s0 (l.drop 0)).1 = T from ⟨by rw [List.drop_zero, hO]; rfl, by rw [List.drop_zero, hT]⟩)
  clear hT hO hr0 ht0 hb0
  go_enter Try.func17, Try.ntmps17
  go_wp2_with (first | (rw [hw0.out]))
  clear hw0
  go_loopw [5, 12] (fun v i wr => ∃ (k : Nat) (s : Tk) (a1 : Option Addr) (c1 : Nat) (ao : Option Addr) (no co : Nat) (out : List Nat), k ≤ n ∧ i = .int .i64 (k : Int) ∧ v = .slice ao no co ∧ Al w wr s a1 c1 ao no co out ∧ Hid (rightA s.b s.m ∧ s.p ≤ 11 ∧ s.l.length ≤ k ∧ no ≤ k) ∧
      Hid (out ++ (alT s (l.drop k)).2 = O ∧ (alT s (l.drop k)).1 = T)) (fun _ i _ => n - (intOf i).toNat)
  case atStart => exact ⟨0, s0, none, 0, none, 0, 0, [], Nat.zero_le _, rfl, rfl, hA0, hid ⟨⟨by simp [s0], fun _ => rfl⟩, by simp [s0], by simp [s0], by omega⟩, HS⟩
  case round =>
    obtain ⟨k, s, a1, c1, ao, no, co, out, hk, rfl, rfl, hA, HI, HR⟩ := hrel
    clear HS hA0
    have hno : no ≤ k := HI.out.2.2.2
    have hs := hA.size
    have hbel := hA.bel
    obtain ⟨t0, t1, t2, t3, t4⟩ := bx5 hA.t
    by_cases hlt : k < n
    · obtain ⟨b, off, x, rfl, hx, hck⟩ := (h.below hbel).at hlt
      have HX := hid hx; clear hx
      have hnx := fun (w1 : World) (c' : Nat) (h1 : RL .bool w1 a1 s.l.length c1 s.l) => next7_any w1 s x a1 _ c1 rfl h1 (by have := HI.out.2.2.1; omega) HI.out.1 (by have := HI.out.2.1; omega)
      have hnx := fun (w1 : World) (c' : Nat) => hnx w1 c'
      have HI2 := hid (show rightA (nxT s x).1.b (nxT s x).1.m ∧ (nxT s x).1.p ≤ 11 ∧ (nxT s x).1.l.length ≤ k + 1 ∧ no + 1 ≤ k + 1 from ⟨nxT_ri s x HI.out.1, nxT_p s x HI.out.2.1, by have := nxT_len s x; have := HI.out.2.2.1; omega, by omega⟩)
      have HR2 := hid (show (if (nxT s x).2 = 0 ∨ (nxT s x).2 = 4 then (out ++ [(nxT s x).2] ++ (alT (nxT s x).1 (l.drop (k + 1))).2 = O ∧ (alT (nxT s x).1 (l.drop (k + 1))).1 = T) else (out ++ [(nxT s x).2] = O ∧ (nxT s x).1 = T)) from by
        have := HR.out
        rw [drop_of_get HX.out, alT] at this
        split <;> rename_i hc
        · rw [if_pos hc] at this; exact ⟨by rw [← this.1]; simp, this.2⟩
        · rw [if_neg hc] at this; exact this)
      generalize (nxT s x).2 = d at hnx HR2
      generalize (nxT s x).1 = s' at hnx HI2 HR2
      clear HR HX
      by_cases h0 : d = 0
      · have HR3 := hid (show out ++ [d] ++ (alT s' (l.drop (k + 1))).2 = O ∧ (alT s' (l.drop (k + 1))).1 = T from by have := HR2.out; rw [if_pos (.inl h0)] at this; exact this)
        have hq0 : ((d : Int) != 0) = false := by rw [h0]; rfl
        clear h0 HR2 HI
        go_wp2_with (first
          | (go_at_call 9; (with_reducible refine (hnx _ 0 hA.row.rl).mono ?_); rintro e w2 ⟨a2, c2, rfl, hol2, g2⟩; clear t0 t1 t2 t3 t4; have hB := hA.next g2 hol2 (.cells #[.bool s'.b, .int .u8 (s'.m : Int), .slice a2 s'.l.length c2, .int .u8 (s'.p : Int), .bool s'.fi] 29); obtain ⟨t0, t1, t2, t3, t4⟩ := bx5 (bx_alloc (.cells #[.bool s'.b, .int .u8 (s'.m : Int), .slice a2 s'.l.length c2, .int .u8 (s'.p : Int), .bool s'.fi] 29) (bx_below hA.t g2)); have f0 := bx_thaw (bx_alloc (.cells #[.bool s'.b, .int .u8 (s'.m : Int), .slice a2 s'.l.length c2, .int .u8 (s'.p : Int), .bool s'.fi] 29) (bx_below hA.t g2)))
          | (at_builtin; (refine wpList_appg (f := nv) (l := out) (m := [d]) tY rfl _ _ rfl rfl (hB.alloc _).out rfl (lit7n _ d _ (by simp)) (by omega) (fun _ => rfl) (by omega) (by omega) (by have := (hB.alloc (.cells #[.int .u8 (d : Int)] 5)).size; omega) ?_); intro w3 ao3 co3 hol3 hb3 hk3 hs3; clear t0 t1 t2 t3 t4 f0; have hC := (hB.alloc _).app hol3 hb3 hk3; obtain ⟨t0, t1, t2, t3, t4⟩ := bx5 hC.t; obtain ⟨r0, r1, r2, r3, r4⟩ := bx5 hC.r; have f1 := bx_thaw hC.r))
        go_roundw
        case rel => exact ⟨k + 1, s', a2, c2, ao3, no + 1, co3, out ++ [d], by omega, by go_num, rfl, hC, HI2, HR3⟩
        case measure => simp [intOf]; omega
      · by_cases h4 : d = 4
        · have HR3 := hid (show out ++ [d] ++ (alT s' (l.drop (k + 1))).2 = O ∧ (alT s' (l.drop (k + 1))).1 = T from by have := HR2.out; rw [if_pos (.inr h4)] at this; exact this)
          have hq0 : ((d : Int) != 0) = true := by rw [h4]; rfl
          have hq4 : ((d : Int) != 4) = false := by rw [h4]; rfl
          clear h0 h4 HR2 HI
          go_wp2_with (first
            | (go_at_call 9; (with_reducible refine (hnx _ 0 hA.row.rl).mono ?_); rintro e w2 ⟨a2, c2, rfl, hol2, g2⟩; clear t0 t1 t2 t3 t4; have hB := hA.next g2 hol2 (.cells #[.bool s'.b, .int .u8 (s'.m : Int), .slice a2 s'.l.length c2, .int .u8 (s'.p : Int), .bool s'.fi] 29); obtain ⟨t0, t1, t2, t3, t4⟩ := bx5 (bx_alloc (.cells #[.bool s'.b, .int .u8 (s'.m : Int), .slice a2 s'.l.length c2, .int .u8 (s'.p : Int), .bool s'.fi] 29) (bx_below hA.t g2)); have f0 := bx_thaw (bx_alloc (.cells #[.bool s'.b, .int .u8 (s'.m : Int), .slice a2 s'.l.length c2, .int .u8 (s'.p : Int), .bool s'.fi] 29) (bx_below hA.t g2)))
            | (at_builtin; (refine wpList_appg (f := nv) (l := out) (m := [d]) tY rfl _ _ rfl rfl (hB.alloc _).out rfl (lit7n _ d _ (by simp)) (by omega) (fun _ => rfl) (by omega) (by omega) (by have := (hB.alloc (.cells #[.int .u8 (d : Int)] 5)).size; omega) ?_); intro w3 ao3 co3 hol3 hb3 hk3 hs3; clear t0 t1 t2 t3 t4 f0; have hC := (hB.alloc _).app hol3 hb3 hk3; obtain ⟨t0, t1, t2, t3, t4⟩ := bx5 hC.t; obtain ⟨r0, r1, r2, r3, r4⟩ := bx5 hC.r; have f1 := bx_thaw hC.r))
          go_roundw
          case rel => exact ⟨k + 1, s', a2, c2, ao3, no + 1, co3, out ++ [d], by omega, by go_num, rfl, hC, HI2, HR3⟩
          case measure => simp [intOf]; omega
        · have HR3 := hid (show out ++ [d] = O ∧ s' = T from by have := HR2.out; rw [if_neg (by omega)] at this; exact this)
          have hq0 : ((d : Int) != 0) = true := by simp; omega
          have hq4 : ((d : Int) != 4) = true := by simp; omega
          clear h0 h4 HR2 HI
          go_wp2_with (first
            | (go_at_call 9; (with_reducible refine (hnx _ 0 hA.row.rl).mono ?_); rintro e w2 ⟨a2, c2, rfl, hol2, g2⟩; clear t0 t1 t2 t3 t4; have hB := hA.next g2 hol2 (.cells #[.bool s'.b, .int .u8 (s'.m : Int), .slice a2 s'.l.length c2, .int .u8 (s'.p : Int), .bool s'.fi] 29); obtain ⟨t0, t1, t2, t3, t4⟩ := bx5 (bx_alloc (.cells #[.bool s'.b, .int .u8 (s'.m : Int), .slice a2 s'.l.length c2, .int .u8 (s'.p : Int), .bool s'.fi] 29) (bx_below hA.t g2)); have f0 := bx_thaw (bx_alloc (.cells #[.bool s'.b, .int .u8 (s'.m : Int), .slice a2 s'.l.length c2, .int .u8 (s'.p : Int), .bool s'.fi] 29) (bx_below hA.t g2)))
            | (at_builtin; (refine wpList_appg (f := nv) (l := out) (m := [d]) tY rfl _ _ rfl rfl (hB.alloc _).out rfl (lit7n _ d _ (by simp)) (by omega) (fun _ => rfl) (by omega) (by omega) (by have := (hB.alloc (.cells #[.int .u8 (d : Int)] 5)).size; omega) ?_); intro w3 ao3 co3 hol3 hb3 hk3 hs3; clear t0 t1 t2 t3 t4 f0; have hC := (hB.alloc _).app hol3 hb3 hk3; obtain ⟨t0, t1, t2, t3, t4⟩ := bx5 hC.t; obtain ⟨r0, r1, r2, r3, r4⟩ := bx5 hC.r; have f1 := bx_thaw hC.r))
          obtain ⟨rfl, rfl⟩ := HR3.out
          have hlen := hC.out.len
          refine bodyPost_ret (v := .tuple #[.agg #[.bool s'.b, .int .u8 (s'.m : Int), .slice a2 s'.l.length c2, .int .u8 (s'.p : Int), .bool s'.fi], .slice ao3 (no + 1) co3]) (by simp [results, Try.results17, go_sem, r0, r1, r2, r3, r4]) rfl ⟨_, _, _, _, by rw [hlen], al_row hC _ _ _ _ _, by rw [hlen]; exact al_out hC _ _ _ _ _, below7 hC.bel (Nat.le_refl _) _ _ _ _ _⟩
    · obtain rfl : k = n := by omega
      obtain ⟨r0, r1, r2, r3, r4⟩ := bx5 hA.r
      have f1 := bx_thaw hA.r
      have HL := hid (show l.drop k = [] from List.drop_eq_nil_of_le (by rw [h.len]; exact Nat.le_refl _))
      have HR3 := hid (show out = O ∧ s = T from by have := HR.out; rw [HL.out, alT] at this; simpa using this)
      clear HR HL HI
      go_wp2
      obtain ⟨rfl, rfl⟩ := HR3.out
      have hlen := hA.out.len
      refine bodyPost_ret (v := .tuple #[.agg #[.bool s.b, .int .u8 (s.m : Int), .slice a1 s.l.length c1, .int .u8 (s.p : Int), .bool s.fi], .slice ao no co]) (by simp [results, Try.results17, go_sem, r0, r1, r2, r3, r4]) rfl ⟨_, _, _, _, by rw [hlen], al_row hA _ _ _ _ _, by rw [hlen]; exact al_out hA _ _ _ _ _, below7 hA.bel (Nat.le_refl _) _ _ _ _ _⟩
end Go.Proofs.Ythpgcgkgokfnpaa

namespace Go.Proofs.Ythpgcgkgokfnpaa
open Go.RowKit
set_option linter.unusedVariables false

/-- What is said of the last of some bits. -/
def laT (l : List Bool) : Nat := (alT s0 l).2.getLast?.getD 255

theorem alT_ne (s : Tk) {l : List Bool} (h : l ≠ []) : (alT s l).2 ≠ [] := by
  cases l with
  | nil => exact absurd rfl h
  | cons x l => rw [alT]; split <;> simp

theorem alT_len (l : List Bool) : ∀ s, (alT s l).2.length ≤ l.length := by
  induction l with
  | nil => intro s; simp [alT]
  | cons x l ih =>
    intro s
    rw [alT]
    split
    · simp only [List.length_cons]; have := ih (nxT s x).1; omega
    · simp

theorem last_any (w : World) (a : Option Addr) (n c : Nat) (l : List Bool) (h : RL .bool w a n c l) (hn : n ≤ 1000) (h1 : 1 ≤ n) :
    Calls Try.prog 21 #[.slice a n c] w fun e w' => e = .returned (.int .u8 (laT l : Int)) ∧ Below w.heap.size w w' := by
  have hall := all_any w a n c l h hn
  have hne : (alT s0 l).2 ≠ [] := alT_ne s0 (fun e => by subst e; have := h.len; simp at this; omega)
  have hle := alT_len l s0
  rw [h.len] at hle
  unfold laT
  generalize (alT s0 l).1 = T at hall
  generalize (alT s0 l).2 = O at hall hne hle ⊢
  obtain ⟨N, hN⟩ : ∃ N, O.length = N + 1 := ⟨O.length - 1, by have : 0 < O.length := by { cases O with | nil => exact absurd rfl hne | cons => simp }; omega⟩
  obtain ⟨d, hd⟩ : ∃ d, O[N]? = some d := ⟨O[N], by simp⟩
  have hg : O.getLast?.getD 255 = d := by rw [List.getLast?_eq_getElem?, hN]; simp only [Nat.add_sub_cancel, hd]; rfl
  have HG := hid hg
  rw [HG.out]
  rw [hN] at hall hle
  generalize T.l.length = TN at hall
  have HD := hid hd
  clear hd hg hN hne h
  go_enter Try.func21, Try.ntmps21
  go_wp2_with (go_at_call 17; (with_reducible refine hall.mono ?_); rintro e w1 ⟨a1, c1, ao, co, rfl, hr1, ho1, g1⟩; have gg1 := bnew g1 (.cells #[.bool T.b, .int .u8 (T.m : Int), .slice a1 TN c1, .int .u8 (T.p : Int), .bool T.fi] 29); obtain ⟨b, off, x, rfl, hx, hck⟩ := ((ho1.alloc (.cells #[.bool T.b, .int .u8 (T.m : Int), .slice a1 TN c1, .int .u8 (T.p : Int), .bool T.fi] 29)).rl.at (k := N) (by omega)); obtain rfl : x = d := (by have := HD.out; rw [hx] at this; simpa using this); clear hr1 ho1 hx g1)
  go_ret
  exact ⟨rfl, gg1⟩

/-- The wire of ID 1 without data, and what it is read as. -/
def W1 : List Bool := wiL ⟨1, false, false, 0, []⟩
def O1 : List Nat := List.replicate 45 0 ++ [4, 6]
theorem W1_len : W1.length = 47 := by decide +kernel
theorem aw1O : (alT s0 W1).2 = O1 := by decide +kernel
theorem aw1p : (alT s0 W1).1.p = 11 := by decide +kernel
theorem aw2p : (alT s0 (W1.take 38)).1.p = 2 := by decide +kernel
theorem aw2f : (alT s0 (W1.take 38)).1.fi = true := by decide +kernel
theorem aw3 : laT (W1.set 37 false) = 2 := by decide +kernel
theorem aw4 : laT (List.replicate 6 false) = 1 := by decide +kernel
theorem aw5 : laT (List.replicate 5 false) = 0 := by decide +kernel
theorem W1_37 : W1[37]? = some true := by decide +kernel
theorem O1_at : O1[46]? = some 6 ∧ O1[45]? = some 4 ∧ O1[44]? = some 0 := ⟨rfl, rfl, rfl⟩

theorem aw_wire (w : World) : Calls Try.prog 15 #[.agg #[.int .u32 1, .bool false, .bool false, .int .u8 0, .slice none 0 0]] w fun e w' => ∃ a' c', e = .returned (.tuple #[.slice a' 47 c', .int .i64 0]) ∧ OL .bool 4 w.heap.size w' a' 47 c' W1 ∧ Below w.heap.size w w' := by
  have := wire_any w 1 false false 0 none 0 0 [] (by omega) (by omega) (RL.nil _ _ _ _) rfl
  rw [← wiL_length, show (wiL ⟨1, false, false, 0, []⟩).length = 47 from W1_len] at this
  exact this

theorem aw_all (w : World) (a : Option Addr) (c : Nat) (h : RL .bool w a 47 c W1) :
    Calls Try.prog 17 #[.slice a 47 c] w fun e w' => ∃ b m n fi a' c' ao co, e = .returned (.tuple #[.agg #[.bool b, .int .u8 m, .slice a' n c', .int .u8 11, .bool fi], .slice ao 47 co]) ∧ OL nv 5 w.heap.size w' ao 47 co O1 ∧ Below w.heap.size w w' := by
  refine (all_any w a 47 c W1 h (by omega)).mono ?_
  rw [aw1O, aw1p]
  rintro e w' ⟨a', c', ao, co, rfl, _, ho, hb⟩
  exact ⟨_, _, _, _, a', c', ao, co, rfl, ho, hb⟩

theorem aw_ahead (w : World) (a : Option Addr) (c : Nat) (h : RL .bool w a 38 c (W1.take 38)) :
    Calls Try.prog 17 #[.slice a 38 c] w fun e w' => ∃ (b : Bool) (m : Nat) (n : Nat) (a' : Option Addr) (c' : Nat) (ao : Option Addr) (no co : Nat), e = .returned (.tuple #[.agg #[.bool b, .int .u8 (m : Int), .slice a' n c', .int .u8 2, .bool true], .slice ao no co]) ∧ Below w.heap.size w w' := by
  refine (all_any w a 38 c _ h (by omega)).mono ?_
  rw [aw2p, aw2f]
  rintro e w' ⟨a', c', ao, co, rfl, _, _, hb⟩
  exact ⟨_, _, _, a', c', ao, _, co, rfl, hb⟩

theorem aw_drive (w : World) (b : Bool) (m : Nat) (a : Option Addr) (n c : Nat) :
    Calls Try.prog 10 #[.agg #[.bool b, .int .u8 (m : Int), .slice a n c, .int .u8 2, .bool true]] w fun e w' => e = .returned (.bool false) ∧ Below w.heap.size w w' := drive7_any w b m a n c 2 true

theorem aw_last (w : World) (a : Option Addr) (n c : Nat) (l : List Bool) (d : Nat) (h : RL .bool w a n c l) (hn : n ≤ 1000) (h1 : 1 ≤ n) (hd : laT l = d) :
    Calls Try.prog 21 #[.slice a n c] w fun e w' => e = .returned (.int .u8 (d : Int)) ∧ Below w.heap.size w w' := hd ▸ last_any w a n c l h hn h1

theorem mk_run (w : World) (n : Nat) (hn : n ≤ 1000) : ∃ W, (Instr.makeSlice 22 (.int .i64 (n : Int)) (.int .i64 (n : Int))).run Try.prog w = .ok (.slice (some ⟨w.heap.size, 0, none⟩) n n) W ∧
    RL .bool W (some ⟨w.heap.size, 0, none⟩) n n (List.replicate n false) ∧ Below w.heap.size w W := by
  obtain ⟨i, hi, hz0, hz1, hz2⟩ := info_parts tB.info
  have hb2 : ((i.bytes * n : Nat) : Int) ≤ 281474976710656 := by
    rw [hz2]; omega
  have hr := run_make (P := Try.prog) w 22 4 i (.bool false) tB.und hi hz0 .i64 .i64 n n (by omega) (Int.le_refl _) (by rw [Int.natCast_mul] at hb2; exact hb2) (by omega)
  simp only [Int.toNat_natCast] at hr
  refine ⟨_, hr, ?_, bnew0 _ _⟩
  have hcz : (madeCells (Value.bool false).cells (n * i.size)).toList = (List.replicate n false).map Value.bool := by rw [show (Value.bool false).cells = #[.bool false] from rfl, toList_madeCells_one]; simp [hz1]
  have ho := World.ownsRow_lit (base := w.heap.size) (e := 4) (size := 1) w (madeCells (Value.bool false).cells (n * i.size)) n (Nat.le_refl _) (by unfold maxLen; omega) (by rw [size_madeCells, hz1])
  have hol : OL .bool 4 w.heap.size (w.alloc (.cells (madeCells (Value.bool false).cells (n * i.size)) 4)) (some ⟨w.heap.size, 0, none⟩) n n (List.replicate n false) := ⟨by simp, Nat.le_refl _, by rw [← hcz]; exact ho⟩
  exact hol.rl

theorem cells3 {w : World} {a : Option Addr} {c : Nat} (h : RL nv w a 47 c O1) : ∃ b off, a = some ⟨b, off, none⟩ ∧ w.cell? ⟨b, off + 46, none⟩ = some (.int .u8 6) ∧ w.cell? ⟨b, off + 45, none⟩ = some (.int .u8 4) ∧ w.cell? ⟨b, off + 44, none⟩ = some (.int .u8 0) := by
  obtain ⟨b, off, e, _, hc⟩ := h.cell (by omega)
  exact ⟨b, off, e, hc 46 6 O1_at.1, hc 45 4 O1_at.2.1, hc 44 0 O1_at.2.2⟩

theorem own_at {B : Nat} {w : World} {a : Option Addr} {c : Nat} {l : List Bool} (h : OL .bool 4 B w a 47 c l) : ∃ g, a = some ⟨g, 0, none⟩ ∧ B ≤ g := by
  rcases h.ex with ⟨_, h0, _⟩ | ⟨g, cur, hg, hB, _⟩
  · omega
  · exact ⟨g, hg, hB⟩

set_option maxHeartbeats 4000000 in
set_option maxRecDepth 100000 in
theorem awake7_any (w : World) :
    Calls Try.prog 7 #[] w fun e w' => e = .returned (.bool true) ∧ Below w.heap.size w w' := by
  have k6 := fun (w1 : World) (a1 : Option Addr) (h1 : RL .bool w1 a1 6 6 (List.replicate 6 false)) => aw_last w1 a1 6 6 _ 1 h1 (by omega) (by omega) aw4
  have k5 := fun (w1 : World) (a1 : Option Addr) (h1 : RL .bool w1 a1 5 5 (List.replicate 5 false)) => aw_last w1 a1 5 5 _ 0 h1 (by omega) (by omega) aw5
  have kb := fun (w1 : World) (a1 : Option Addr) (c1 : Nat) (h1 : RL .bool w1 a1 47 c1 (W1.set 37 false)) => aw_last w1 a1 47 c1 _ 2 h1 (by omega) (by omega) aw3
  have i1 : ((1 : Nat) : Int) = 1 := rfl
  have i0 : ((0 : Nat) : Int) = 0 := rfl
  have i2 : ((2 : Nat) : Int) = 2 := rfl
  simp only [i1] at k6
  simp only [i0] at k5
  simp only [i2] at kb
  clear i1 i0 i2
  go_enter Try.func7, Try.ntmps7
  go_wp2_with (first
    | (go_at_call 15; (with_reducible refine (aw_wire _).mono ?_); rintro e w1 ⟨a1, c1, rfl, ho1, g1⟩)
    | (go_at_call 17; (with_reducible refine (aw_all _ _ _ ho1.rl).mono ?_); rintro e w2 ⟨tb, tm, tn, tf, a2, c2, ao, co, rfl, ho2, g2⟩; have hs1 := g1.size; have gg2 := bstep g1 g2; have gg3 := bnew gg2 (.cells #[.bool tb, .int .u8 tm, .slice a2 tn c2, .int .u8 11, .bool tf] 29); have hr3 := (ho1.rl.below g2).below (bnew0 w2 (.cells #[.bool tb, .int .u8 tm, .slice a2 tn c2, .int .u8 11, .bool tf] 29)); obtain ⟨b, off, rfl, q46, q45, q44⟩ := cells3 (ho2.alloc (.cells #[.bool tb, .int .u8 tm, .slice a2 tn c2, .int .u8 11, .bool tf] 29)).rl)
    | (with_reducible refine wpList_cutTo (f := Value.bool) tB rfl _ _ rfl _ _ 38 rfl rfl (by omega) hr3 (by omega) ?_; intro a4 hr4)
    | (go_at_call 17; (with_reducible refine (aw_ahead _ _ _ hr4).mono ?_); rintro e w5 ⟨ub, um, un, a5, c5, ao5, no5, co5, rfl, g5⟩; have gg5 := bnew (bstep gg3 g5) (.cells #[.bool ub, .int .u8 (um : Int), .slice a5 un c5, .int .u8 2, .bool true] 29); have hr5 := (hr3.below g5).below (bnew0 w5 (.cells #[.bool ub, .int .u8 (um : Int), .slice a5 un c5, .int .u8 2, .bool true] 29)); have hbx5 := heap_alloc_new w5 (.cells #[.bool ub, .int .u8 (um : Int), .slice a5 un c5, .int .u8 2, .bool true] 29))
    | (go_at_call 20; (with_reducible refine (anew_any _ _ _ _ _ hr5 (by omega)).mono ?_); rintro e w6 ⟨a6, c6, rfl, ho6, g6⟩; have hbx6 := bx_below hbx5 g6; have gg6 := bstep gg5 g6; obtain ⟨g, rfl, hg⟩ := own_at ho6; obtain ⟨q37, f37⟩ := ho6.cellAt W1_37; have ho7 := ho6.set (i := 37) false; rw [heap_size_alloc] at hg; have hgw : g ≠ w5.heap.size := (by omega); have hbx7 : (w6.setCell ⟨g, 37, none⟩ (.bool false)).heap[w5.heap.size]? = _ := (heap_setCell_other w6 _ _ _ hgw.symm).trans hbx6; obtain ⟨u0, u1, u2, u3, u4⟩ := bx5 hbx7; have gg7 : Below w.heap.size w (w6.setCell ⟨g, 37, none⟩ (.bool false)) := gg6.setCell (by show w.heap.size ≤ g; have h9 := gg5.size; rw [heap_size_alloc] at h9; omega) _)
    | (go_at_call 10; (with_reducible refine (aw_drive _ _ _ _ _ _).mono ?_); rintro e w8 ⟨rfl, g8⟩; have gg8 := bstep gg7 g8; have ho8 := ho7.below g8; obtain ⟨w9, e9, ho9, g9⟩ := mk_run w8 6 (by omega); have e9' : (Instr.makeSlice 22 (.int .i64 6) (.int .i64 6)).run Try.prog w8 = _ := e9; clear e9)
    | (go_at_call 21; (with_reducible refine (k6 _ _ ho9).mono ?_); rintro e w10 ⟨rfl, g10⟩; have gg10 := bstep (bstep gg8 g9) g10; have ho10 := (ho8.below g9).below g10; obtain ⟨w11, e11, ho11, g11⟩ := mk_run w10 5 (by omega); have e11' : (Instr.makeSlice 22 (.int .i64 5) (.int .i64 5)).run Try.prog w10 = _ := e11; clear e11 ho9)
    | (go_at_call 21; (with_reducible refine (k5 _ _ ho11).mono ?_); rintro e w12 ⟨rfl, g12⟩; have gg12 := bstep (bstep gg10 g11) g12; have ho12 := ((ho10.below g11).below g12).rl; clear ho11)
    | (go_at_call 21; (with_reducible refine (kb _ _ _ ho12).mono ?_); rintro e w13 ⟨rfl, g13⟩; have gg13 := bstep gg12 g13))
  go_ret
  exact ⟨rfl, gg13⟩
end Go.Proofs.Ythpgcgkgokfnpaa
