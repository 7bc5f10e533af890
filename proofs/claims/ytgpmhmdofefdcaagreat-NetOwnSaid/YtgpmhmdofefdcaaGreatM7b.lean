/-
  Contracts of take.Next at a state, of take.Drive and of take.Frame.
  Contract of the statements' own reading of all bits.
  Plain facts of the arbitration.
  Plain mathematics of layer 7, more: all that is said of bits, what it is read as, the wire of a right frame. Nothing of the program is spoken of here.
-/
import Derived.Test.YtgpmhmdofefdcaaGreatB7f
import Derived.Test.YtgpmhmdofefdcaaGreatM4
namespace Go.Proofs.YtgpmhmdofefdcaaGreat
open Go.RowKit
set_option linter.unusedVariables false

theorem next7_any (w : World) (s : Tk) (x : Bool) (a : Option Addr) (n c : Nat) (hn : n = s.l.length) (h : RL .bool w a n c s.l) (hl : s.l.length ≤ 10000) (hr : rightA s.b s.m) (hp : s.p ≤ 255) :
    Calls Tryz.prog 84 #[.agg #[.bool s.b, .int .u8 (s.m : Int), .slice a n c, .int .u8 (s.p : Int), .bool s.fi], .bool x] w fun e w' => ∃ a' c',
      e = .returned (.tuple #[.agg #[.bool (nxT s x).1.b, .int .u8 ((nxT s x).1.m : Int), .slice a' (nxT s x).1.l.length c', .int .u8 ((nxT s x).1.p : Int), .bool (nxT s x).1.fi], .int .u8 ((nxT s x).2 : Int)]) ∧
      OL .bool 4 w.heap.size w' a' (nxT s x).1.l.length c' (nxT s x).1.l ∧ Below w.heap.size w w' := by
  subst hn
  exact next7_core w s.b s.fi x (nxT s x).1.b (nxT s x).1.fi s.m s.p (nxT s x).1.m (nxT s x).1.p (nxT s x).2 (by omega) s.l (nxT s x).1.l s.l.length (nxT s x).1.l.length a c h hl
    (fun h1 h2 w1 a1 c1 ho hs => lead_body (w.heap.size + 2) s x (by omega) hl hr w1 a1 _ c1 rfl ho hs)
    (fun h1 h2 w1 a1 c1 ho hs => lead_fixed (w.heap.size + 2) s x (by omega) w1 a1 _ c1 rfl ho hs)
    (fun h1 h2 w1 a1 c1 ho hs => lead_ack (w.heap.size + 2) s x (by omega) w1 a1 _ c1 rfl ho hs)
    (fun h1 h2 w1 a1 c1 ho hs => lead_done (w.heap.size + 2) s x (by omega) w1 a1 _ c1 rfl ho hs)
    (fun h1 h2 w1 a1 c1 ho hs => lead_end (w.heap.size + 2) s x (by omega) (by omega) w1 a1 _ c1 rfl ho hs)
    (fun h1 h2 w1 a1 c1 ho hs => lead_last (w.heap.size + 2) s x (by omega) w1 a1 _ c1 rfl ho hs)
    (hid fun h11 => by rw [nx_over (s := s) (x := x) (by omega)]; exact ⟨rfl, rfl, rfl, rfl, rfl, rfl, rfl⟩)

/-- What a receiver drives. -/
def drT (p : Nat) (fi : Bool) : Bool := !decide (p = 2) || !fi

theorem drive7_any (w : World) (b : Bool) (m : Nat) (a : Option Addr) (n c : Nat) (p : Nat) (fi : Bool) :
    Calls Tryz.prog 55 #[.agg #[.bool b, .int .u8 (m : Int), .slice a n c, .int .u8 (p : Int), .bool fi]] w fun e w' => e = .returned (.bool (drT p fi)) ∧ Below w.heap.size w w' := by
  unfold drT
  by_cases h2 : p = 2
  · subst h2
    go_enter Tryz.func55, Tryz.ntmps55
    go_wp2
    go_ret
    exact ⟨rfl, bnew0 _ _⟩
  · have hd : decide (p = 2) = false := decide_eq_false h2
    rw [hd]
    have h2' : ¬ (p : Int) = 2 := by omega
    clear hd h2
    go_enter Tryz.func55, Tryz.ntmps55
    go_wp2
    go_ret
    exact ⟨rfl, bnew0 _ _⟩

def zeroFr : Fr := ⟨0, false, false, 0, []⟩
/-- Whether take.Frame is asked for nothing. -/
def frN (m p : Nat) (fi : Bool) : Bool := decide (p = 0) || !fi || decide (m = 5)
/-- The frame that was read, and whether. -/
def frF (m : Nat) (l : List Bool) (p : Nat) (fi : Bool) : Fr := if frN m p fi then zeroFr else paU l
def frK (m : Nat) (l : List Bool) (p : Nat) (fi : Bool) : Bool := !frN m p fi && fitL l

theorem fitL_pe (l : List Bool) : fitL l = (peU l == 0) := by
  unfold fitL peU
  cases paK l
  · rfl
  · by_cases hs : suV l = 0#15 <;> simp [hs]

theorem below5 {B g : Nat} {w w1 : World} (h : Below B w w1) (hg : B ≤ g) (v0 v1 v2 v3 v4 : Value) : Below B w (((((w1.setCell ⟨g, 0, none⟩ v0).setCell ⟨g, 1, none⟩ v1).setCell ⟨g, 2, none⟩ v2).setCell ⟨g, 3, none⟩ v3).setCell ⟨g, 4, none⟩ v4) := below7 h hg _ _ _ _ _

theorem boxed57 (w : World) (t u : Array Value) : ∃ w0, Hid ((w.alloc (.cells t 52)).alloc (.cells u 26) = w0) ∧ w0.heap[w.heap.size]? = some (.cells t 52 (0, 0)) ∧ w0.heap[w.heap.size + 1]? = some (.cells u 26 (0, 0)) ∧ Below w.heap.size w w0 := by
  refine ⟨_, rfl, bx_alloc _ (heap_alloc_new _ _), ?_, bnew (bnew0 _ _) _⟩
  have := heap_alloc_new (w.alloc (.cells t 52)) (.cells u 26)
  simpa using this

set_option maxHeartbeats 2000000 in
theorem frame7_own (w : World) (b : Bool) (m : Nat) (a : Option Addr) (n c : Nat) (l : List Bool) (p : Nat) (fi : Bool) (h : RL .bool w a n c l) (hn : n ≤ 10000) (hm : m < 256) :
    Calls Tryz.prog 90 #[.agg #[.bool b, .int .u8 (m : Int), .slice a n c, .int .u8 (p : Int), .bool fi]] w fun e w' => ∃ a' c',
      e = .returned (.tuple #[.agg #[.int .u32 ((frF m l p fi).id : Int), .bool (frF m l p fi).ext, .bool (frF m l p fi).rem, .int .u8 ((frF m l p fi).dlc : Int), .slice a' (frF m l p fi).data.length c'], .bool (frK m l p fi)]) ∧
      OL bv 5 w.heap.size w' a' (frF m l p fi).data.length c' (frF m l p fi).data ∧ Below w.heap.size w w' := by
  obtain ⟨w0, hw0, ht, hrr, hb0⟩ := boxed57 w #[.bool b, .int .u8 (m : Int), .slice a n c, .int .u8 (p : Int), .bool fi] #[.int .u32 0, .bool false, .bool false, .int .u8 0, .slice none 0 0]
  have hdu := fun w1 => due_any w1 b m a n c (p : Int) fi hm
  have hpa := fun (w1 : World) (h1 : RL .bool w1 a n c l) => parse_W w1 a n c l h1 (by omega)
  have h0 := h.below hb0
  have hF : frK m l p fi = (!frN m p fi && (peU l == 0)) := by unfold frK; rw [fitL_pe]
  rw [hF]
  unfold frF
  clear hF
  cases hN : frN m p fi
  · unfold frN at hN
    simp only [Bool.or_eq_false_iff, decide_eq_false_iff_not, Bool.not_eq_false'] at hN
    obtain ⟨⟨hp0, rfl⟩, hm5⟩ := hN
    simp only [Bool.false_eq_true, if_false, Bool.not_false, Bool.true_and]
    generalize peU l = pe at *
    generalize paU l = F at *
    obtain ⟨fid, fext, frem, fdlc, fdata⟩ := F
    dsimp only at *
    generalize hlen : fdata.length = N at *
    have hm5' : decide (m = 5) = false := decide_eq_false hm5
    simp only [hm5'] at hdu
    have hp0' : ¬ (p : Int) = 0 := by omega
    clear hm5 hm5' hp0 hlen
    go_enter Tryz.func90, Tryz.ntmps90
    go_wp2_with (first
      | (go_at_call 96; (with_reducible refine (hdu _).mono ?_); rintro e w1 ⟨rfl, g1⟩; rw [hw0.out] at g1; have ht1 := bx_below ht g1; have hr1 := bx_below hrr g1; have h1 := h0.below g1; have gg1 := bstep hb0 g1; obtain ⟨c0, c1, c2, c3, c4⟩ := bx5 ht1)
      | (go_at_call 97; (with_reducible refine (hpa _ h1).mono ?_); rintro e w2 ⟨a2, c2', rfl, hd2, g2⟩; have hs2 := g2.size; have hsr := bx_lt hr1; clear c0 c1 c2 c3 c4; have hr2 := bx_alloc (.cells #[.int .u32 (fid : Int), .bool fext, .bool frem, .int .u8 (fdlc : Int), .slice a2 N c2'] 26) (bx_below hr1 g2); have gg2 := bnew (bstep gg1 g2) (.cells #[.int .u32 (fid : Int), .bool fext, .bool frem, .int .u8 (fdlc : Int), .slice a2 N c2'] 26); obtain ⟨c0, c1, c2, c3, c4⟩ := bx5 hr2; have f0 := bx_thaw hr2))
    refine bodyPost_ret (v := .tuple #[.agg #[.int .u32 (fid : Int), .bool fext, .bool frem, .int .u8 (fdlc : Int), .slice a2 N c2'], .bool (pe == 0)]) (by simp [results, Tryz.results90, go_sem, c0, c1, c2, c3, c4]) rfl ⟨a2, c2', rfl, ((hd2.alloc (.cells #[.int .u32 (fid : Int), .bool fext, .bool frem, .int .u8 (fdlc : Int), .slice a2 N c2'] 26)).kept fun j hj => ?_).mono (by have := gg1.size; omega), below7 gg2 (by omega) _ _ _ _ _⟩
    have hj2 := (hd2.ltB hj).2
    have hn : j ≠ w.heap.size + 1 := by dsimp only at hj2; omega
    rw [heap_setCell_other _ _ _ _ hn, heap_setCell_other _ _ _ _ hn, heap_setCell_other _ _ _ _ hn, heap_setCell_other _ _ _ _ hn, heap_setCell_other _ _ _ _ hn]
  · have hcases : p = 0 ∨ (p ≠ 0 ∧ fi = false) ∨ (p ≠ 0 ∧ fi = true ∧ m = 5) := by
      unfold frN at hN
      by_cases h0 : p = 0
      · exact .inl h0
      · cases fi
        · exact .inr (.inl ⟨h0, rfl⟩)
        · refine .inr (.inr ⟨h0, rfl, ?_⟩)
          simpa [h0] using hN
    simp only [if_true, Bool.not_true, Bool.false_and]
    unfold zeroFr
    clear hpa hN
    obtain ⟨c0, c1, c2, c3, c4⟩ := bx5 ht
    obtain ⟨r0, r1, r2, r3, r4⟩ := bx5 hrr
    rcases hcases with rfl | ⟨hp0, rfl⟩ | ⟨hp0, rfl, rfl⟩
    · clear hdu ht hrr hb0 c0 c1 c2 c3 c4 r0 r1 r2 r3 r4
      go_enter Tryz.func90, Tryz.ntmps90
      go_wp2
      exact bodyPost_ret (v := .tuple #[.agg #[.int .u32 0, .bool false, .bool false, .int .u8 0, .slice none 0 0], .bool false]) (by simp [results, Tryz.results90, go_sem]) rfl ⟨none, 0, rfl, OL.nil _ _ _ _, bnew (bnew0 _ _) _⟩
    · have hp0' : ¬ (p : Int) = 0 := by omega
      clear hdu hp0 ht hrr hb0 c0 c1 c2 c3 c4 r0 r1 r2 r3 r4
      go_enter Tryz.func90, Tryz.ntmps90
      go_wp2
      exact bodyPost_ret (v := .tuple #[.agg #[.int .u32 0, .bool false, .bool false, .int .u8 0, .slice none 0 0], .bool false]) (by simp [results, Tryz.results90, go_sem]) rfl ⟨none, 0, rfl, OL.nil _ _ _ _, bnew (bnew0 _ _) _⟩
    · have hp0' : ¬ (p : Int) = 0 := by omega
      have h55 : ((5 : Nat) : Int) = 5 := rfl
      simp only [decide_true, h55] at hdu hw0 ht ⊢
      clear hp0 h55 c0 c1 c2 c3 c4 r0 r1 r2 r3 r4
      go_enter Tryz.func90, Tryz.ntmps90
      go_wp2_with (go_at_call 96; (with_reducible refine (hdu _).mono ?_); rintro e w1 ⟨rfl, g1⟩; rw [hw0.out] at g1; have hr1 := bx_below hrr g1; have gg1 := bstep hb0 g1; obtain ⟨r0, r1, r2, r3, r4⟩ := bx5 hr1; have f0 := bx_thaw hr1)
      exact bodyPost_ret (v := .tuple #[.agg #[.int .u32 0, .bool false, .bool false, .int .u8 0, .slice none 0 0], .bool false]) (by simp [results, Tryz.results90, go_sem, r0, r1, r2, r3, r4]) rfl ⟨none, 0, rfl, OL.nil _ _ _ _, below7 gg1 (by omega) _ _ _ _ _⟩
theorem frame7_any (w : World) (b : Bool) (m : Nat) (a : Option Addr) (n c : Nat) (l : List Bool) (p : Nat) (fi : Bool) (h : RL .bool w a n c l) (hn : n ≤ 10000) (hm : m < 256) :
    Calls Tryz.prog 90 #[.agg #[.bool b, .int .u8 (m : Int), .slice a n c, .int .u8 (p : Int), .bool fi]] w fun e w' => ∃ a' c',
      e = .returned (.tuple #[.agg #[.int .u32 ((frF m l p fi).id : Int), .bool (frF m l p fi).ext, .bool (frF m l p fi).rem, .int .u8 ((frF m l p fi).dlc : Int), .slice a' (frF m l p fi).data.length c'], .bool (frK m l p fi)]) ∧
      RL bv w' a' (frF m l p fi).data.length c' (frF m l p fi).data ∧ Below w.heap.size w w' :=
  (frame7_own w b m a n c l p fi h hn hm).mono fun e w' ⟨a', c', h1, h2, h3⟩ => ⟨a', c', h1, h2.rl, h3⟩
end Go.Proofs.YtgpmhmdofefdcaaGreat

namespace Go.Proofs.YtgpmhmdofefdcaaGreat
open Go.RowKit
set_option linter.unusedVariables false

/-- What is said of bits, as its value. -/
def nv (d : Nat) : Value := .int .u8 (d : Int)

/-- What is read, and what is said of the bits, one by one, up to what ends it. -/
def alT (s : Tk) : List Bool → Tk × List Nat
  | [] => (s, [])
  | x :: l => if (nxT s x).2 = 0 ∨ (nxT s x).2 = 4 then ((alT (nxT s x).1 l).1, (nxT s x).2 :: (alT (nxT s x).1 l).2) else ((nxT s x).1, [(nxT s x).2])

theorem nxT_len (s : Tk) (x : Bool) : (nxT s x).1.l.length ≤ s.l.length + 1 := by
  unfold nxT; repeat' split
  all_goals (simp only [List.length_append, List.length_cons, List.length_nil]; omega)

theorem nxT_p (s : Tk) (x : Bool) (h : s.p ≤ 11) : (nxT s x).1.p ≤ 11 := by
  unfold nxT; repeat' split
  all_goals (simp only; omega)

theorem nxT_le (s : Tk) (x : Bool) : (nxT s x).2 ≤ 6 := by
  unfold nxT; repeat' split
  all_goals (simp)

theorem nxT_ri (s : Tk) (x : Bool) (h : rightA s.b s.m) : rightA (nxT s x).1.b (nxT s x).1.m := by
  have := (nxt_right (x := x) h).1
  unfold nxT; repeat' split
  all_goals first | exact h | exact this

def tkC (s : Tk) (a : Option Addr) (c : Nat) : Array Value := #[.bool s.b, .int .u8 (s.m : Int), .slice a s.l.length c, .int .u8 (s.p : Int), .bool s.fi]

theorem set5_box {w : World} {g : Nat} {E : TypeId} {u0 u1 u2 u3 u4 : Value} (v0 v1 v2 v3 v4 : Value) (h : w.heap[g]? = some (.cells #[u0, u1, u2, u3, u4] E (0, 0))) :
    (((((w.setCell ⟨g, 0, none⟩ v0).setCell ⟨g, 1, none⟩ v1).setCell ⟨g, 2, none⟩ v2).setCell ⟨g, 3, none⟩ v3).setCell ⟨g, 4, none⟩ v4).heap[g]? = some (.cells #[v0, v1, v2, v3, v4] E (0, 0)) :=
  heap_setCell_same _ g 4 _ _ v4 (heap_setCell_same _ g 3 _ _ v3 (heap_setCell_same _ g 2 _ _ v2 (heap_setCell_same _ g 1 _ _ v1 (heap_setCell_same w g 0 _ _ v0 h))))

theorem set5_other7 {w : World} {g k : Nat} (v0 v1 v2 v3 v4 : Value) (h : k ≠ g) :
    (((((w.setCell ⟨g, 0, none⟩ v0).setCell ⟨g, 1, none⟩ v1).setCell ⟨g, 2, none⟩ v2).setCell ⟨g, 3, none⟩ v3).setCell ⟨g, 4, none⟩ v4).heap[k]? = w.heap[k]? := by
  rw [heap_setCell_other _ _ _ _ h, heap_setCell_other _ _ _ _ h, heap_setCell_other _ _ _ _ h, heap_setCell_other _ _ _ _ h, heap_setCell_other _ _ _ _ h]

/-- The state that is read in a box, its bits, and what was said. -/
structure Al (w wr : World) (s : Tk) (a : Option Addr) (c : Nat) (ao : Option Addr) (no co : Nat) (out : List Nat) : Prop where
  r : wr.heap[w.heap.size]? = some (.cells #[.bool false, .int .u8 0, .slice none 0 0, .int .u8 0, .bool false] 52 (0, 0))
  t : wr.heap[w.heap.size + 1]? = some (.cells #[.bool s.b, .int .u8 (s.m : Int), .slice a s.l.length c, .int .u8 (s.p : Int), .bool s.fi] 52 (0, 0))
  row : OL .bool 4 (w.heap.size + 2) wr a s.l.length c s.l
  out : OL nv 5 (w.heap.size + 2) wr ao no co out
  bel : Below w.heap.size w wr
  nb : ∀ q, a = some q → NB ao q.block

section
variable {w wr w2 : World} {s s' : Tk} {a a2 ao ao2 : Option Addr} {c c2 no co no2 co2 : Nat} {out out2 : List Nat}

theorem Al.size (h : Al w wr s a c ao no co out) : w.heap.size + 2 ≤ wr.heap.size := by have := bx_lt h.t; omega

theorem Al.next (h : Al w wr s a c ao no co out) (g : Below wr.heap.size wr w2) (ho : OL .bool 4 wr.heap.size w2 a2 s'.l.length c2 s'.l) (o : Obj) :
    Al w ((((((w2.alloc o).setCell ⟨w.heap.size + 1, 0, none⟩ (.bool s'.b)).setCell ⟨w.heap.size + 1, 1, none⟩ (.int .u8 (s'.m : Int))).setCell ⟨w.heap.size + 1, 2, none⟩ (.slice a2 s'.l.length c2)).setCell ⟨w.heap.size + 1, 3, none⟩ (.int .u8 (s'.p : Int))).setCell ⟨w.heap.size + 1, 4, none⟩ (.bool s'.fi)) s' a2 c2 ao no co out := by
  have hs := h.size
  refine ⟨?_, set5_box _ _ _ _ _ (bx_alloc o (bx_below h.t g)), ?_, ?_, below7 (bnew (bstep h.bel g) o) (by omega) _ _ _ _ _, ?_⟩
  · rw [set5_other7 _ _ _ _ _ (by omega)]; exact bx_alloc o (bx_below h.r g)
  · refine ((ho.mono (by omega)).alloc o).kept fun k hk => set5_other7 _ _ _ _ _ ?_
    have := (ho.ltB hk).2; dsimp only at this; omega
  · refine ((h.out.below g).alloc o).kept fun k hk => set5_other7 _ _ _ _ _ ?_
    have := (h.out.ltB hk).2; dsimp only at this; omega
  · intro q hq p hp e
    have h1 := (ho.ltB hq).2
    have h2 := (h.out.ltB hp).1
    omega

theorem Al.alloc (h : Al w wr s a c ao no co out) (o : Obj) : Al w (wr.alloc o) s a c ao no co out :=
  ⟨bx_alloc o h.r, bx_alloc o h.t, h.row.alloc o, h.out.alloc o, bnew h.bel o, h.nb⟩

theorem Al.app (h : Al w wr s a c ao no co out) (ho : OL nv 5 (w.heap.size + 2) w2 ao2 no2 co2 out2) (g : Below (w.heap.size + 2) wr w2) (hk : ∀ k, k < wr.heap.size → NB ao k → w2.heap[k]? = wr.heap[k]? ∧ NB ao2 k) :
    Al w w2 s a c ao2 no2 co2 out2 := by
  have hs := h.size
  refine ⟨by rw [g.block _ (by omega)]; exact h.r, by rw [g.block _ (by omega)]; exact h.t, h.row.kept fun k hq => (hk k ?_ (h.nb _ hq)).1, ho, h.bel.trans (g.mono (by omega)), fun q hq => (hk _ (h.row.ltB hq).1 (h.nb q hq)).2⟩
  exact (h.row.ltB hq).1
end

theorem lit7n (w1 : World) (d q : Nat) (hq : q = w1.heap.size) : RL nv (w1.alloc (.cells #[.int .u8 (d : Int)] 5)) (some ⟨q, 0, none⟩) 1 1 [d] := by
  subst hq
  exact (ol_lit nv 5 0 w1 [d] _ 1 rfl rfl (by omega) (Nat.zero_le _)).rl

theorem al_row {w wr : World} {s : Tk} {a ao : Option Addr} {c no co : Nat} {out : List Nat} (h : Al w wr s a c ao no co out) (v0 v1 v2 v3 v4 : Value) : OL .bool 4 w.heap.size (((((wr.setCell ⟨w.heap.size, 0, none⟩ v0).setCell ⟨w.heap.size, 1, none⟩ v1).setCell ⟨w.heap.size, 2, none⟩ v2).setCell ⟨w.heap.size, 3, none⟩ v3).setCell ⟨w.heap.size, 4, none⟩ v4) a s.l.length c s.l :=
  (h.row.kept fun k hk => set5_other7 _ _ _ _ _ (by have := (h.row.ltB hk).2; dsimp only at this; omega)).mono (by omega)

theorem al_out {w wr : World} {s : Tk} {a ao : Option Addr} {c no co : Nat} {out : List Nat} (h : Al w wr s a c ao no co out) (v0 v1 v2 v3 v4 : Value) : OL nv 5 w.heap.size (((((wr.setCell ⟨w.heap.size, 0, none⟩ v0).setCell ⟨w.heap.size, 1, none⟩ v1).setCell ⟨w.heap.size, 2, none⟩ v2).setCell ⟨w.heap.size, 3, none⟩ v3).setCell ⟨w.heap.size, 4, none⟩ v4) ao no co out :=
  (h.out.kept fun k hk => set5_other7 _ _ _ _ _ (by have := (h.out.ltB hk).2; dsimp only at this; omega)).mono (by omega)

end Go.Proofs.YtgpmhmdofefdcaaGreat

namespace Go.Proofs.YtgpmhmdofefdcaaGreat
open Go.RowKit Go.Sort
set_option linter.unusedVariables false

theorem bfL_asym : ∀ (l m : List Bool), bfL l m = true → bfL m l = false := by
  intro l
  induction l with
  | nil => intro m h; simp [bfL] at h
  | cons x l ih =>
    intro m h
    cases m with
    | nil => simp [bfL] at h
    | cons y m =>
      simp only [bfL] at h ⊢
      by_cases e : x = y
      · rw [if_pos e] at h; rw [if_pos e.symm]; exact ih m h
      · rw [if_neg e] at h; rw [if_neg (fun q => e q.symm)]; cases x <;> cases y <;> simp_all

theorem bfL_self (l : List Bool) : bfL l l = false := by
  cases h : bfL l l with
  | false => rfl
  | true => exact h.symm.trans (bfL_asym l l h)

theorem bfL_trans : ∀ (l m k : List Bool), bfL l m = true → bfL m k = true → bfL l k = true := by
  intro l
  induction l with
  | nil => intro m k h; simp [bfL] at h
  | cons x l ih =>
    intro m k h h2
    cases m with
    | nil => simp [bfL] at h
    | cons y m =>
      cases k with
      | nil => simp [bfL] at h2
      | cons z k =>
        simp only [bfL] at h h2 ⊢
        by_cases e : x = y
        · subst e
          rw [if_pos rfl] at h
          by_cases e2 : x = z
          · rw [if_pos e2] at h2 ⊢; exact ih m k h h2
          · rw [if_neg e2] at h2 ⊢; exact h2
        · rw [if_neg e] at h
          by_cases e2 : y = z
          · subst e2; rw [if_neg e]; exact h
          · rw [if_neg e2] at h2; exact absurd (h.trans h2.symm) e2

theorem bfL_pre (p l m : List Bool) : bfL (p ++ l) (p ++ m) = bfL l m := by
  induction p with
  | nil => rfl
  | cons x p ih => simp [bfL, ih]

/-- Neither wins just if the one is the begin of the other. -/
theorem bfL_none : ∀ (l m : List Bool), bfL l m = false → bfL m l = false → l.length = m.length → l = m := by
  intro l
  induction l with
  | nil => intro m _ _ h; cases m with
    | nil => rfl
    | cons => simp at h
  | cons x l ih =>
    intro m h1 h2 hl
    cases m with
    | nil => simp at hl
    | cons y m =>
      simp only [bfL] at h1 h2
      by_cases e : x = y
      · subst e
        rw [if_pos rfl] at h1 h2
        rw [ih m h1 h2 (by simpa using hl)]
      · rw [if_neg e] at h1; rw [if_neg (fun q => e q.symm)] at h2
        cases x <;> cases y <;> simp_all

theorem bfL_len (l m r : List Bool) (h : l.length = m.length) (hne : l ≠ m) (s : List Bool) : bfL (l ++ r) (m ++ s) = bfL l m := by
  induction l generalizing m with
  | nil => cases m with
    | nil => exact absurd rfl hne
    | cons => simp at h
  | cons x l ih =>
    cases m with
    | nil => simp at h
    | cons y m =>
      simp only [List.cons_append, bfL]
      by_cases e : x = y
      · subst e
        rw [if_pos rfl, if_pos rfl]
        exact ih m (by simpa using h) (fun q => hne (by rw [q]))
      · rw [if_neg e, if_neg e]

/-- Of numbers of as many bits the lesser one wins. -/
theorem bfL_num (m : Nat) : ∀ (a b : Nat) (r s : List Bool), a % 2 ^ m < b % 2 ^ m → bfL (ofL a m ++ r) (ofL b m ++ s) = true := by
  induction m with
  | zero => intro a b r s h; simp [Nat.mod_one] at h
  | succ m ih =>
    intro a b r s h
    have ha := testBit_split a m
    have hb := testBit_split b m
    have la := Nat.mod_lt a (Nat.two_pow_pos m)
    have lb := Nat.mod_lt b (Nat.two_pow_pos m)
    simp only [ofL, List.cons_append, bfL]
    rw [ha, hb] at h
    cases h1 : a.testBit m <;> cases h2 : b.testBit m <;> simp [h1, h2] at h ⊢
    · exact ih a b r s h
    · omega
    · exact ih a b r s h

theorem ofL_inj {a b m : Nat} (ha : a < 2 ^ m) (hb : b < 2 ^ m) (h : ofL a m = ofL b m) : a = b := by
  have := congrArg numL h
  rw [numL_ofL, numL_ofL, Nat.mod_eq_of_lt ha, Nat.mod_eq_of_lt hb] at this
  exact this

theorem conL_false (id : Nat) (rem : Bool) : conL id false rem = [false] ++ ofL id 11 ++ [rem, false] := rfl
theorem conL_true (id : Nat) (rem : Bool) : conL id true rem = [false] ++ ofL (id / 262144) 11 ++ [true, true] ++ ofL id 18 ++ [rem] := rfl

structure Ord (id : Nat) (ext rem : Bool) (id2 : Nat) (ext2 rem2 : Bool) (x y : Bool) : Prop where
  one : x = true → y = false
  none : (x = false ∧ y = false) ↔ (id = id2 ∧ ext = ext2 ∧ rem = rem2)
  less : ext = ext2 → id < id2 → x = true
  base : ext = false → ext2 = true → id = id2 / 262144 → x = true
  data : id = id2 → ext = ext2 → rem = false → rem2 = true → x = true

theorem bf_less {id id2 : Nat} {ext rem rem2 : Bool} (h1 : id ≤ if ext then 536870911 else 2047) (h2 : id2 ≤ if ext then 536870911 else 2047) (h : id < id2) : bfL (conL id ext rem) (conL id2 ext rem2) = true := by
  cases ext
  · simp only [Bool.false_eq_true, if_false] at h1 h2
    rw [conL_false, conL_false, List.append_assoc, List.append_assoc, bfL_pre]
    exact bfL_num 11 _ _ _ _ (by omega)
  · simp only [if_true] at h1 h2
    rw [conL_true, conL_true]
    simp only [List.append_assoc]
    rw [bfL_pre]
    by_cases e : id / 262144 = id2 / 262144
    · rw [e, bfL_pre, bfL_pre]
      exact bfL_num 18 _ _ _ _ (by omega)
    · exact bfL_num 11 _ _ _ _ (by omega)

theorem bf_ord {id id2 : Nat} {ext rem ext2 rem2 : Bool} (h1 : id ≤ if ext then 536870911 else 2047) (h2 : id2 ≤ if ext2 then 536870911 else 2047) : Ord id ext rem id2 ext2 rem2 (bfL (conL id ext rem) (conL id2 ext2 rem2)) (bfL (conL id2 ext2 rem2) (conL id ext rem)) := by
  have hdata : id = id2 → ext = ext2 → rem = false → rem2 = true → bfL (conL id ext rem) (conL id2 ext2 rem2) = true := by
    rintro rfl rfl rfl rfl
    cases ext
    · rw [conL_false, conL_false, bfL_pre]; rfl
    · rw [conL_true, conL_true, bfL_pre]; rfl
  have hdata2 : id = id2 → ext = ext2 → rem = true → rem2 = false → bfL (conL id2 ext2 rem2) (conL id ext rem) = true := by
    rintro rfl rfl rfl rfl
    cases ext
    · rw [conL_false, conL_false, bfL_pre]; rfl
    · rw [conL_true, conL_true, bfL_pre]; rfl
  have hmix : ∀ (i j : Nat) (r s : Bool), i < 2048 → (bfL (conL i false r) (conL j true s) = true ∨ bfL (conL j true s) (conL i false r) = true) ∧ (i = j / 262144 → bfL (conL i false r) (conL j true s) = true) := by
    intro i j r s hi
    rw [conL_false, conL_true]
    simp only [List.append_assoc]
    rw [bfL_pre, bfL_pre]
    by_cases e : ofL i 11 = ofL (j / 262144) 11
    · rw [e, bfL_pre, bfL_pre]
      have : bfL [r, false] ([true, true] ++ (ofL j 18 ++ [s])) = true := by cases r <;> rfl
      exact ⟨.inl this, fun _ => this⟩
    · refine ⟨?_, fun q => absurd (by rw [q]) e⟩
      rw [bfL_len _ _ _ (by simp) e, bfL_len _ _ _ (by simp) (fun q => e q.symm)]
      by_cases hx : bfL (ofL i 11) (ofL (j / 262144) 11) = true
      · exact .inl hx
      · by_cases hy : bfL (ofL (j / 262144) 11) (ofL i 11) = true
        · exact .inr hy
        · exact absurd (bfL_none _ _ (by simpa using hx) (by simpa using hy) (by simp)) e
  refine ⟨bfL_asym _ _, ⟨fun ⟨hx, hy⟩ => ?_, ?_⟩, ?_, ?_, hdata⟩
  · cases ext <;> cases ext2
    · simp only [Bool.false_eq_true, if_false] at h1 h2
      have hid : id = id2 := by
        rcases Nat.lt_trichotomy id id2 with h | h | h
        · rw [bf_less (by simpa using h1) (by simpa using h2) h] at hx; cases hx
        · exact h
        · rw [bf_less (by simpa using h2) (by simpa using h1) h] at hy; cases hy
      refine ⟨hid, rfl, ?_⟩
      cases rem <;> cases rem2
      · rfl
      · rw [hdata hid rfl rfl rfl] at hx; cases hx
      · rw [hdata2 hid rfl rfl rfl] at hy; cases hy
      · rfl
    · simp only [Bool.false_eq_true, if_false] at h1
      rcases (hmix id id2 rem rem2 (by omega)).1 with h | h
      · rw [h] at hx; cases hx
      · rw [h] at hy; cases hy
    · simp only [Bool.false_eq_true, if_false] at h2
      rcases (hmix id2 id rem2 rem (by omega)).1 with h | h
      · rw [h] at hy; cases hy
      · rw [h] at hx; cases hx
    · simp only [if_true] at h1 h2
      have hid : id = id2 := by
        rcases Nat.lt_trichotomy id id2 with h | h | h
        · rw [bf_less (by simpa using h1) (by simpa using h2) h] at hx; cases hx
        · exact h
        · rw [bf_less (by simpa using h2) (by simpa using h1) h] at hy; cases hy
      refine ⟨hid, rfl, ?_⟩
      cases rem <;> cases rem2
      · rfl
      · rw [hdata hid rfl rfl rfl] at hx; cases hx
      · rw [hdata2 hid rfl rfl rfl] at hy; cases hy
      · rfl
  · rintro ⟨rfl, rfl, rfl⟩
    exact ⟨bfL_self _, bfL_self _⟩
  · rintro rfl h
    exact bf_less h1 h2 h
  · rintro rfl rfl h
    simp only [Bool.false_eq_true, if_false] at h1
    exact (hmix id id2 rem rem2 (by omega)).2 h
end Go.Proofs.YtgpmhmdofefdcaaGreat

namespace Go.Proofs.YtgpmhmdofefdcaaGreat
set_option linter.unusedVariables false

/-- What the document says of bit i of bits. -/
def Sy (l : List Bool) (i : Nat) : Nat := rdS (bdN l) (tkL l).2 (fitL (bdL l)) i (l[i]?.getD false)

theorem Reading.said {l : List Bool} {k : Nat} {s : Tk} {x : Bool} (h : Reading l k s) (hx : l[k]? = some x) :
    (nxT s x).2 = Sy l k ∧ ((nxT s x).2 = 0 ∨ (nxT s x).2 = 4 → Reading l (k + 1) (nxT s x).1) := by
  unfold Sy; rw [hx]; exact h.step hx

/-- How reading ends. -/
structure Ends (l : List Bool) (k d : Nat) (R : Tk × List Nat) : Prop where
  at_ : ∀ i, i < R.2.length → R.2[i]? = some (Sy l (k + i))
  on : ∀ i, i + 1 < R.2.length → Sy l (k + i) = 0 ∨ Sy l (k + i) = 4
  le : R.2.length ≤ d
  fin : (R.2.length = d ∧ Reading l (k + d) R.1) ∨ (∃ i s' x, R.2.length = i + 1 ∧ Reading l (k + i) s' ∧ l[k + i]? = some x ∧ R.1 = (nxT s' x).1 ∧ ¬ (Sy l (k + i) = 0 ∨ Sy l (k + i) = 4))

theorem alT_read (l : List Bool) : ∀ (d k : Nat) (s : Tk), k + d = l.length → Reading l k s → Ends l k d (alT s (l.drop k)) := by
  intro d
  induction d with
  | zero =>
    intro k s hk h
    rw [List.drop_eq_nil_of_le (by omega), alT]
    exact ⟨by simp, by simp, by simp, .inl ⟨rfl, h⟩⟩
  | succ d ih =>
    intro k s hk h
    obtain ⟨x, hx⟩ : ∃ x, l[k]? = some x := ⟨l[k], by simp⟩
    obtain ⟨h1, h2⟩ := h.said hx
    rw [drop_of_get hx, alT]
    split
    · rename_i hc
      obtain ⟨a1, a2, a3, a4⟩ := ih (k + 1) _ (by omega) (h2 hc)
      refine ⟨fun i hi => ?_, fun i hi => ?_, by simp only [List.length_cons]; omega, ?_⟩
      · cases i with
        | zero => simp [h1]
        | succ i => simp only [List.length_cons] at hi; simp only [List.getElem?_cons_succ]; rw [a1 i (by omega)]; congr 2; omega
      · cases i with
        | zero => rw [Nat.add_zero, ← h1]; exact hc
        | succ i => simp only [List.length_cons] at hi; have := a2 i (by omega); rw [show k + (i + 1) = k + 1 + i by omega]; exact this
      · rcases a4 with ⟨b1, b2⟩ | ⟨i, s', y, b1, b2, b3, b4, b5⟩
        · left; exact ⟨by simp only [List.length_cons]; omega, by rw [show k + (d + 1) = k + 1 + d by omega]; exact b2⟩
        · right
          have e : k + (i + 1) = k + 1 + i := by omega
          exact ⟨i + 1, s', y, by simp only [List.length_cons]; omega, by rw [e]; exact b2, by rw [e]; exact b3, b4, by rw [e]; exact b5⟩
    · rename_i hc
      refine ⟨fun i hi => ?_, fun i hi => ?_, by simp, .inr ⟨0, s, x, rfl, h, hx, rfl, by rw [Nat.add_zero, ← h1]; exact hc⟩⟩
      · simp only [List.length_cons, List.length_nil] at hi
        obtain rfl : i = 0 := by omega
        simp [h1]
      · simp at hi

theorem alT_all (l : List Bool) : Ends l 0 l.length (alT s0 l) := by
  have := alT_read l l.length 0 s0 (by omega) (Reading.start l)
  rwa [List.drop_zero] at this

theorem Sy_four {l : List Bool} {i : Nat} (h : Sy l i = 4) : bdN l ≠ 0 ∧ i = bdN l + 8 := by
  unfold Sy rdS at h
  repeat' split at h
  all_goals first | (simp at h; done) | omega

theorem BeB.of {l : List Bool} {k : Nat} {s : Tk} (h : Reading l k s) (hn : bdN l ≠ 0) (hk : bdN l ≤ k) : BeB l k s := by
  rcases h with h | h
  · rcases h.early with e | e <;> omega
  · exact h

/-- What is taken is the body that was read, and it fits. -/
structure Got (l : List Bool) (T : Tk) : Prop where
  p0 : T.p ≠ 0
  li : T.l = bdL l
  fi : T.fi = true
  fit : fitL T.l = true
  m : T.m ≠ 5
  pu : l.take (bdN l) = putL (bdL l)

theorem BeB.got {l : List Bool} {k : Nat} {s : Tk} (h : BeB l k s) (h4 : 4 ≤ s.p) : Got l s :=
  ⟨by omega, h.li, h.ok h4, by rw [h.li, ← h.fi]; exact h.ok h4, h.m, h.pu⟩

/-- The last bits: the state behind, whatever is said. -/
theorem BeB.last {l : List Bool} {k : Nat} {s : Tk} (h : BeB l k s) (h4 : 4 ≤ s.p) (x : Bool) : Got l (nxT s x).1 := by
  have g := h.got h4
  have hp := h.p
  have hhi := h.hi
  have e : ∃ p, (nxT s x).1 = ⟨s.b, s.m, s.l, p, s.fi⟩ ∧ p ≠ 0 := by
    by_cases h10 : s.p = 10
    · rw [nx_ten h10]; exact ⟨11, rfl, by omega⟩
    · cases x
      · rw [nx_dom (by omega) (by omega) (by omega)]; exact ⟨11, rfl, by omega⟩
      · rw [nx_on (by omega) (by omega) (by omega) (fun _ => g.fi)]; exact ⟨s.p + 1, rfl, by omega⟩
  obtain ⟨p, e, hp⟩ := e
  rw [e]
  exact ⟨hp, g.li, g.fi, g.fit, g.m, g.pu⟩

theorem put_body {l : List Bool} (h : bdN l ≠ 0) : (putL (bdL l)).length = bdN l := by
  unfold bdN at h ⊢
  split at h
  · rename_i hb; rw [if_pos hb]
  · exact absurd rfl h

/-- Where something is taken, it is at the last bit but one behind the body. -/
theorem got_end {l : List Bool} {i : Nat} (h : (alT s0 l).2[i]? = some 4) : Got l (alT s0 l).1 ∧ i = (putL (alT s0 l).1.l).length + 8 := by
  obtain ⟨a1, a2, a3, a4⟩ := alT_all l
  have hi : i < (alT s0 l).2.length := (List.getElem?_eq_some_iff.1 h).1
  have hS : Sy l i = 4 := by have := a1 i hi; rw [h, Nat.zero_add] at this; simpa using this.symm
  obtain ⟨hn, hi8⟩ := Sy_four hS
  have key : Got l (alT s0 l).1 := by
    rcases a4 with ⟨b1, b2⟩ | ⟨j, s', x, b1, b2, b3, b4, b5⟩
    · rw [Nat.zero_add] at b2
      have hB := BeB.of b2 hn (by omega)
      exact hB.got (by rw [hB.p]; omega)
    · rw [Nat.zero_add] at b2 b3 b5
      have hj : i ≠ j := fun e => b5 (by rw [← e]; exact .inr hS)
      have hB := BeB.of b2 hn (by omega)
      rw [b4]
      exact hB.last (by rw [hB.p]; omega) x
  refine ⟨key, ?_⟩
  rw [key.li, put_body hn]
  exact hi8

theorem got_frame {l : List Bool} {T : Tk} (h : Got l T) : frN T.m T.p T.fi = false ∧ frK T.m T.l T.p T.fi = true := by
  have e : frN T.m T.p T.fi = false := by unfold frN; simp [h.p0, h.fi, h.m]
  exact ⟨e, by unfold frK; rw [e, h.fit]; rfl⟩

/-- The body of a right frame is found in its wire, whatever comes behind. -/
theorem wire_found {F : Fr} (hg : Good F) {l : List Bool} (hl : l.take (putL (boL F)).length = putL (boL F)) (hn : (putL (boL F)).length ≤ l.length) :
    bdN l = (putL (boL F)).length ∧ bdL l = boL F ∧ fitL (bdL l) = true := by
  obtain ⟨h1, h2, _, _, h5⟩ := bo_all F hg
  have htk : tkL (l.take (putL (boL F)).length) = (boL F, -1) := by rw [hl]; exact tkL_putL _
  have hm : (ruF false 0 (l.take (putL (boL F)).length)).2 ≠ 5 := fun e => by
    have := put_at htk
    rw [if_pos e, hl] at this
    have := congrArg List.length this
    simp at this
  have hc : cmpL (boL F) = true := by
    unfold cmpL; rw [(paK_parts h1).1]; simp [h5]
  obtain ⟨e1, e2, _, _⟩ := bd_found hn htk hm hc
  exact ⟨e1, e2, by rw [e2]; unfold fitL; rw [h1, h2]; rfl⟩

theorem wire_early {F : Fr} (hg : Good F) {l : List Bool} (hl : l.take (putL (boL F)).length = putL (boL F)) (hn : (putL (boL F)).length ≤ l.length) {i : Nat} (hi : i < (putL (boL F)).length) : Sy l i = 0 := by
  have htk : tkL (l.take (putL (boL F)).length) = (boL F, -1) := by rw [hl]; exact tkL_putL _
  obtain ⟨e1, _, _⟩ := wire_found hg hl hn
  unfold Sy rdS
  rw [if_pos (.inr (by omega)), if_neg]
  intro e
  have hlk : (l.take (putL (boL F)).length).length = (putL (boL F)).length := by rw [List.length_take]; omega
  have := tk_split htk
  rw [hlk] at this
  have hge := tkF_ge (l.drop (putL (boL F)).length) (ruF false 0 (l.take (putL (boL F)).length)).1 (ruF false 0 (l.take (putL (boL F)).length)).2 (putL (boL F)).length (boL F)
  rw [← this] at hge
  omega

/-- Behind the body. -/
theorem wire_late {F : Fr} (hg : Good F) {l : List Bool} (hl : l.take (putL (boL F)).length = putL (boL F)) (hn : (putL (boL F)).length ≤ l.length) {j : Nat} {x : Bool} (hx : l[(putL (boL F)).length + j]? = some x) :
    Sy l ((putL (boL F)).length + j) = if j = 1 then 0 else if j = 9 then (if x then 6 else 5) else if x = false then 2 else if j = 8 then 4 else 0 := by
  obtain ⟨e1, e2, e3⟩ := wire_found hg hl hn
  unfold Sy rdS
  have h0 : bdN l ≠ 0 := fun e => by
    have := (putL_len (boL F)).1
    rw [e] at e1
    have := boL_length F
    omega
  rw [e1] at h0 ⊢
  rw [if_neg (by omega), hx, e3, show (putL (boL F)).length + j - (putL (boL F)).length = j by omega]
  simp
end Go.Proofs.YtgpmhmdofefdcaaGreat
