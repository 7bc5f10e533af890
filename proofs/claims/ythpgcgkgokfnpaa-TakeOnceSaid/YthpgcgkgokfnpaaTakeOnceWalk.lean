/-
  The walk of the statement TakeOnce: for any bits, and one more, it returns true, and nothing that was there has changed.
-/
import Derived.Test.YthpgcgkgokfnpaaTakeTurnedWalk
import Derived.Deep.Light
namespace Go.Proofs.Ythpgcgkgokfnpaa
open Go.RowKit
set_option linter.unusedVariables false

theorem alT_ri (l : List Bool) : ∀ s, rightA s.b s.m → s.p ≤ 11 → rightA (alT s l).1.b (alT s l).1.m ∧ (alT s l).1.p ≤ 11 := by
  induction l with
  | nil => intro s h hp; exact ⟨h, hp⟩
  | cons x l ih =>
    intro s h hp
    rw [alT]
    split
    · exact ih _ (nxT_ri s x h) (nxT_p s x hp)
    · exact ⟨nxT_ri s x h, nxT_p s x hp⟩

theorem nxT_l (s : Tk) (x : Bool) : (nxT s x).1.l = s.l ∨ (nxT s x).1.l = s.l ++ [x] := by
  unfold nxT; repeat' split
  all_goals first | exact .inl rfl | exact .inr rfl

theorem nxT_pre (s : Tk) (x : Bool) {i : Nat} {y : Bool} (h : s.l[i]? = some y) : (nxT s x).1.l[i]? = some y := by
  rcases nxT_l s x with e | e
  · rw [e]; exact h
  · rw [e, List.getElem?_append_left (List.getElem?_eq_some_iff.1 h).1]; exact h

/-- Bits that are turned about in their place: all other blocks lie as they lay. -/
structure Fl (w : World) (g0 g1 : Nat) (w10 wr : World) (a : Option Addr) (n c : Nat) : Prop where
  row : ∃ lk, OL .bool 4 g0 wr a n c lk
  oth : ∀ g, ¬ (g0 ≤ g ∧ g < g1) → wr.heap[g]? = w10.heap[g]?
  bel : Below w.heap.size w wr

theorem Fl.set {w : World} {g0 g1 ga n c : Nat} {w10 wr : World} (h : Fl w g0 g1 w10 wr (some ⟨ga, 0, none⟩) n c) (h0 : g0 ≤ ga) (h1 : ga < g1) (hw : w.heap.size ≤ g0) (k : Nat) (x : Bool) :
    Fl w g0 g1 w10 (wr.setCell ⟨ga, k, none⟩ (.bool x)) (some ⟨ga, 0, none⟩) n c := by
  obtain ⟨lk, ho⟩ := h.row
  exact ⟨⟨_, ho.set (i := k) x⟩, fun g hg => by rw [heap_setCell_other _ _ _ _ (show g ≠ ga by omega)]; exact h.oth g hg, h.bel.setCell (by show w.heap.size ≤ ga; omega) _⟩

theorem Fl.drew {w : World} {g0 g1 n c : Nat} {w10 wr : World} {a : Option Addr} (h : Fl w g0 g1 w10 wr a n c) : Fl w g0 g1 w10 wr.drew a n c := by
  obtain ⟨lk, ho⟩ := h.row
  exact ⟨⟨lk, ho.drew⟩, fun g hg => h.oth g hg, h.bel.drew⟩

theorem same_own (w : World) (a : Option Addr) (n c : Nat) (l : List Bool) (a2 : Option Addr) (c2 : Nat) (h : RL .bool w a n c l) (h2 : RL .bool w a2 n c2 l) (hn : n ≤ 1000000) :
    Calls Try.prog 18 #[.slice a n c, .slice a2 n c2] w fun e w' => e = .returned (.bool true) ∧ w = w' := by
  have := same_any w a n c l a2 n c2 l h h2 hn
  rw [decide_eq_true rfl] at this
  exact this

set_option maxRecDepth 100000 in
set_option maxHeartbeats 8000000 in
theorem takeOnce_short (w : World) (a : Option Addr) (n c : Nat) (l : List Bool) (mo : Bool) (h : RL .bool w a n c l) (hn : n ≤ 220) :
    Calls Try.prog 6 #[.slice a n c, .bool mo] w fun e w' => e = .returned (.bool true) ∧ Below w.heap.size w w' := by
  have hall := all_any w a n c l h (by omega)
  have hOl : (alT s0 l).2.length ≤ n := by have := alT_len l s0; rw [h.len] at this; exact this
  have hTl : (alT s0 l).1.l.length ≤ 220 := by have := alT_bits l s0; rw [h.len] at this; have e : s0.l.length = 0 := rfl; omega
  have hTr := alT_ri l s0 ⟨by simp [s0], fun _ => rfl⟩ (by simp [s0])
  have hgot : ∀ i, (alT s0 l).2[i]? = some 4 → frK (alT s0 l).1.m (alT s0 l).1.l (alT s0 l).1.p (alT s0 l).1.fi = true ∧ i = (putL (alT s0 l).1.l).length + 8 := fun i hi => by
    obtain ⟨g, e⟩ := got_end hi
    exact ⟨(got_frame g).2, e⟩
  generalize (alT s0 l).1 = T at hall hTl hTr hgot
  generalize (alT s0 l).2 = O at hall hOl hgot
  have hput := fun (w1 : World) (a1 : Option Addr) (c1 : Nat) (h1 : RL .bool w1 a1 T.l.length c1 T.l) => put_any w1 a1 _ c1 T.l h1 (by omega)
  have hfr := fun (w1 : World) (a1 : Option Addr) (c1 : Nat) (h1 : RL .bool w1 a1 T.l.length c1 T.l) => frame7_any w1 T.b T.m a1 _ c1 T.l T.p T.fi h1 (by omega) (by have := hTr.1.1; omega)
  obtain ⟨Q, hQ⟩ : ∃ Q, Q = (putL T.l).length := ⟨_, rfl⟩
  have hQb : Q ≤ 300 := by have := putL_len T.l; omega
  rw [← hQ] at hgot hput
  obtain ⟨NO, hNO⟩ : ∃ NO, NO = O.length := ⟨_, rfl⟩
  rw [← hNO] at hall hOl
  have HGOT := hid hgot
  have HTR := hid hTr
  have hNO220 : NO ≤ 220 := by omega
  clear hgot hTr hQ hNO
  go_enter Try.func6, Try.ntmps6
  go_wp2_with (first
    | (go_at_call 17; (with_reducible refine hall.mono ?_); rintro e w4 ⟨a4, c4, ao, co, rfl, hr4, ho4, g4⟩; have ht5 := heap_alloc_new w4 (.cells #[.bool T.b, .int .u8 (T.m : Int), .slice a4 T.l.length c4, .int .u8 (T.p : Int), .bool T.fi] 29); have ho5 := (ho4.alloc (.cells #[.bool T.b, .int .u8 (T.m : Int), .slice a4 T.l.length c4, .int .u8 (T.p : Int), .bool T.fi] 29)).rl; have hr5 := hr4.alloc (.cells #[.bool T.b, .int .u8 (T.m : Int), .slice a4 T.l.length c4, .int .u8 (T.p : Int), .bool T.fi] 29); have gg5 := bnew g4 (.cells #[.bool T.b, .int .u8 (T.m : Int), .slice a4 T.l.length c4, .int .u8 (T.p : Int), .bool T.fi] 29); have hs5 := heap_size_alloc w4 (.cells #[.bool T.b, .int .u8 (T.m : Int), .slice a4 T.l.length c4, .int .u8 (T.p : Int), .bool T.fi] 29)))
  clear hall ho4 hr4 g4 h
  obtain ⟨w5, hw5⟩ : ∃ w5, w5 = w4.alloc (.cells #[.bool T.b, .int .u8 (T.m : Int), .slice a4 T.l.length c4, .int .u8 (T.p : Int), .bool T.fi] 29) := ⟨_, rfl⟩
  rw [← hw5] at ht5 ho5 hr5 gg5 hs5 ⊢
  clear hw5
  obtain ⟨gt, hgt⟩ : ∃ gt, gt = w4.heap.size := ⟨_, rfl⟩
  rw [← hgt] at ht5 hs5
  simp only [← hgt]
  clear hgt
  have HS5 := hid hs5; clear hs5
  go_loopw [7, 32] (fun v i wr => ∃ j gn : Nat, j ≤ NO ∧ i = .int .i64 (j : Int) ∧ v = .int .i64 (gn : Int) ∧ gn ≤ 1 ∧ Hid (gn = 1 → Q + 8 < j) ∧ Below w5.heap.size w5 wr) (fun _ i _ => NO - (intOf i).toNat)
  case atStart => exact ⟨0, 0, by omega, rfl, rfl, by omega, hid (fun h => by omega), Below.refl _ _⟩
  case round =>
    obtain ⟨j, gn, hj, rfl, rfl, hgn, HG, hb⟩ := hrel
    obtain ⟨t0, t1, t2, t3, t4⟩ := bx5 (bx_below ht5 hb)
    by_cases hlt : j < NO
    · obtain ⟨b, off, d, rfl, hx, hck⟩ := (ho5.below hb).at hlt
      by_cases h4 : d = 4
      · subst h4
        obtain ⟨f1, f2⟩ := HGOT.out j hx
        have hck' : wr.cell? ⟨b, off + j, none⟩ = some (.int .u8 4) := hck
        have hjq : ((j : Int) != (Q : Int) + 8) = false := by rw [f2]; simp
        rw [f1] at hfr
        obtain rfl : gn = 0 := by
          by_cases h1 : gn = 1
          · have := HG.out h1; omega
          · omega
        have HF2 := hid f2
        have hrr := (hr5.below hb).rl
        clear f1 f2 hck hx
        go_wp2_with (first
          | (go_at_call 12; (with_reducible refine (hfr _ _ _ hrr).mono ?_); rintro e w6 ⟨a6, c6, rfl, hd6, g6⟩; clear t0 t1 t2 t3 t4; have g7 := bnew g6 (.cells #[.int .u32 ((frF T.m T.l T.p T.fi).id : Int), .bool (frF T.m T.l T.p T.fi).ext, .bool (frF T.m T.l T.p T.fi).rem, .int .u8 ((frF T.m T.l T.p T.fi).dlc : Int), .slice a6 (frF T.m T.l T.p T.fi).data.length c6] 36); have hb7 := bstep hb g7; have hrr7 := hrr.below g7; obtain ⟨t0, t1, t2, t3, t4⟩ := bx5 (bx_below (bx_below ht5 hb) g7))
          | (go_at_call 19; (with_reducible refine (hput _ _ _ hrr7).mono ?_); rintro e w8 ⟨a8, c8, rfl, ho8, g8⟩; have hb8 := bstep hb7 g8))
        go_roundw
        case rel => exact ⟨j + 1, 1, by omega, by go_num, rfl, by omega, hid (fun _ => by have := HF2.out; omega), hb8⟩
        case measure => simp [intOf]; omega
      · have hck' : wr.cell? ⟨b, off + j, none⟩ = some (.int .u8 (d : Int)) := hck
        have hd4 : ((d : Int) == 4) = false := by simp; omega
        clear hck hx h4
        go_wp2
        go_roundw
        case rel => exact ⟨j + 1, gn, by omega, by go_num, rfl, hgn, hid (fun h => by have := HG.out h; omega), hb⟩
        case measure => simp [intOf]; omega
    · obtain rfl : j = NO := by omega
      clear hfr hput HG HGOT ho5
      have hg1 : ¬ (1 : Int) < (gn : Int) := by omega
      have gg6 := bstep gg5 hb
      have hrr := (hr5.below hb).rl
      by_cases hp : T.p = 11
      · have hpq : ((T.p : Int) == 11) = true := by rw [hp]; rfl
        have hnx := next7_any wr T mo a4 _ c4 rfl hrr (by omega) HTR.out.1 (by have := HTR.out.2; omega)
        rw [nx_over (by omega)] at hnx
        dsimp only at hnx
        clear hp
        go_wp2_with (first
          | (go_at_call 9; (with_reducible refine hnx.mono ?_); rintro e w7 ⟨a7, c7, rfl, ho7, g7⟩; have gg7 := bnew (bstep gg6 g7) (.cells #[.bool T.b, .int .u8 (T.m : Int), .slice a7 T.l.length c7, .int .u8 (T.p : Int), .bool T.fi] 29); have ht7 := heap_alloc_new w7 (.cells #[.bool T.b, .int .u8 (T.m : Int), .slice a7 T.l.length c7, .int .u8 (T.p : Int), .bool T.fi] 29); obtain ⟨q0, q1, q2, q3, q4⟩ := bx5 ht7)
          | (go_at_call 7; (with_reducible refine (awake7_any _).mono ?_); rintro e w9 ⟨rfl, g9⟩))
        go_ret
        exact ⟨rfl, bstep gg7 g9⟩
      · have hpq : ((T.p : Int) == 11) = false := by simp; omega
        have hna := fun (w1 : World) (a1 : Option Addr) (c1 : Nat) (h1 : RL .bool w1 a1 T.l.length c1 T.l) => next7_any w1 T mo a1 _ c1 rfl h1 (by omega) HTR.out.1 (by have := HTR.out.2; omega)
        have hnb := fun (w1 : World) (a1 : Option Addr) (c1 : Nat) (h1 : RL .bool w1 a1 T.l.length c1 T.l) => next7_any w1 T (!mo) a1 _ c1 rfl h1 (by omega) HTR.out.1 (by have := HTR.out.2; omega)
        have HPRE := hid (fun (i : Nat) (y : Bool) (h1 : T.l[i]? = some y) => nxT_pre T (!mo) h1)
        have hAl := nxT_len T mo
        generalize (nxT T mo).1 = A at hna hAl
        generalize (nxT T mo).2 = dA at hna
        generalize (nxT T (!mo)).1 = B at hnb HPRE
        generalize (nxT T (!mo)).2 = dB at hnb
        have hr6 := hr5.below hb
        have ht6 := bx_below ht5 hb
        clear hp hr5 hb gg5 ht5
        go_wp2_with (first
          | (go_at_call 20; (with_reducible refine (anew_any _ _ _ _ _ hrr (by omega)).mono ?_); rintro e w7 ⟨a7, c7, rfl, ho7, g7⟩; clear t0 t1 t2 t3 t4; have ht7 := bx_below ht6 g7; obtain ⟨t0, t1, t2, t3, t4⟩ := bx5 ht7; have hr7 := hr6.below g7; have gg7 := bstep gg6 g7)
          | (go_at_call 9; (with_reducible refine (hna _ _ _ hr7.rl).mono ?_); rintro e w8 ⟨a8, c8, rfl, hoA, g8⟩; clear t0 t1 t2 t3 t4; have ht8 := bx_below ht7 g8; have g8' := bnew g8 (.cells #[.bool A.b, .int .u8 (A.m : Int), .slice a8 A.l.length c8, .int .u8 (A.p : Int), .bool A.fi] 29); have gg8 := bstep gg7 g8'; have hr8 := hr7.below g8'; obtain ⟨t0, t1, t2, t3, t4⟩ := bx5 (bx_below ht7 g8'); have hA8 := heap_alloc_new w8 (.cells #[.bool A.b, .int .u8 (A.m : Int), .slice a8 A.l.length c8, .int .u8 (A.p : Int), .bool A.fi] 29); have ho8 := ho7.below g8')
          | (go_at_call 9; (with_reducible refine (hnb _ _ _ hr8.rl).mono ?_); rintro e w9 ⟨a9, c9, rfl, hoB, g9⟩; clear t0 t1 t2 t3 t4; have g9' := bnew g9 (.cells #[.bool B.b, .int .u8 (B.m : Int), .slice a9 B.l.length c9, .int .u8 (B.p : Int), .bool B.fi] 29); have gg9 := bstep gg8 g9'; have ht9 := bx_below (bx_below ht7 g8') g9'; have hA9 := bx_below hA8 g9'; have hB9 := heap_alloc_new w9 (.cells #[.bool B.b, .int .u8 (B.m : Int), .slice a9 B.l.length c9, .int .u8 (B.p : Int), .bool B.fi] 29); obtain ⟨t0, t1, t2, t3, t4⟩ := bx5 ht9; obtain ⟨u0, u1, u2, u3, u4⟩ := bx5 hA9))
        have hoA' := hoA
        have hltA : ∀ q, a8 = some q → w7.heap.size ≤ q.block ∧ q.block < w8.heap.size := fun q hq => ⟨(hoA.ltB hq).2, (hoA.ltB hq).1⟩
        have hF0 : Fl w w7.heap.size w8.heap.size (w9.alloc (.cells #[.bool B.b, .int .u8 (B.m : Int), .slice a9 B.l.length c9, .int .u8 (B.p : Int), .bool B.fi] 29)) (w9.alloc (.cells #[.bool B.b, .int .u8 (B.m : Int), .slice a9 B.l.length c9, .int .u8 (B.p : Int), .bool B.fi] 29)) a8 A.l.length c8 := ⟨⟨A.l, (hoA.alloc (.cells #[.bool A.b, .int .u8 (A.m : Int), .slice a8 A.l.length c8, .int .u8 (A.p : Int), .bool A.fi] 29)).below g9'⟩, fun g _ => rfl, gg9⟩
        have hltT : ∀ q, a4 = some q → q.block < w7.heap.size := fun q hq => by have := (hr7.ltB hq).1; exact this
        have hltN : ∀ q, a7 = some q → q.block < w7.heap.size := fun q hq => (ho7.ltB hq).1
        have hltB : ∀ q, a9 = some q → w8.heap.size ≤ q.block := fun q hq => by have := (hoB.ltB hq).2; rw [heap_size_alloc] at this; omega
        have hws7 : w.heap.size ≤ w7.heap.size := gg7.size
        have hgt7 : gt < w7.heap.size := bx_lt ht7
        have hs89 : w8.heap.size < w9.heap.size := by have := g9.size; rw [heap_size_alloc] at this; omega
        have hrT := hr8.below g9'
        have hrN := ho8.below g9'
        have hrB := hoB.alloc (.cells #[.bool B.b, .int .u8 (B.m : Int), .slice a9 B.l.length c9, .int .u8 (B.p : Int), .bool B.fi] 29)
        clear hoA hoA' hna hnb hrr hr6 ht6 hr7 ho7 g7 g8 ht8 g8' hA8 g9 g9' hr8 ho8 hoB gg6 gg7 gg8 gg9 ht7 HTR
        obtain ⟨w10, hw10⟩ : ∃ w10, w10 = w9.alloc (.cells #[.bool B.b, .int .u8 (B.m : Int), .slice a9 B.l.length c9, .int .u8 (B.p : Int), .bool B.fi] 29) := ⟨_, rfl⟩
        rw [← hw10] at hF0 ht9 hA9 hB9 hrT hrN hrB t0 t1 t2 t3 t4 u0 u1 u2 u3 u4 ⊢
        clear hw10 t0 t1 t2 t3 t4 u0 u1 u2 u3 u4
        generalize w8.heap.size = s8 at *
        generalize w9.heap.size = s9 at *
        generalize w7.heap.size = s7 at *
        obtain ⟨NA, hNA⟩ : ∃ NA, NA = A.l.length := ⟨_, rfl⟩
        rw [← hNA] at hF0 hA9 hAl
        simp only [← hNA]
        go_loopg [98] NA (fun gn i wr => ∃ k : Nat, k ≤ NA ∧ gn = NA - k ∧ i = .int .i64 (k : Int) ∧ Fl w s7 s8 w10 wr a8 NA c8)
        case atStart => exact ⟨0, by omega, by omega, rfl, hF0⟩
        case round =>
          clear hF0
          obtain ⟨k, hk, rfl, rfl, hF⟩ := hrel
          by_cases hlt : k < NA
          · obtain ⟨lk, hol⟩ := hF.row
            obtain ⟨x, hx⟩ : ∃ x, lk[k]? = some x := ⟨lk[k]'(by rw [hol.len]; exact hlt), by simp⟩
            obtain ⟨ga, rfl, hga⟩ := own_any hol (by omega)
            obtain ⟨q0, q1⟩ := hol.cellAt hx
            have hgl := (hltA _ rfl).2
            dsimp only at hgl
            obtain ⟨u0, u1, u2, u3, u4⟩ := bx5 ((hF.oth s8 (by omega)).trans hA9)
            clear hx hltA
            go_wp2_with fail
            go_big_region
            go_wp2
            go_roundg (NA - (k + 1))
            case measure => go_light; omega
            case rel =>
              go_light
              exact ⟨k + 1, by omega, rfl, by go_num, (hF.set hga hgl hws7 k (!x)).drew⟩
          · obtain rfl : k = NA := by omega
            have hT1 := (hrT.kept (w' := wr) fun g hg => hF.oth g (by have := hltT _ hg; dsimp only at this; omega)).rl
            have hN1 := (hrN.kept (w' := wr) fun g hg => hF.oth g (by have := hltN _ hg; dsimp only at this; omega)).rl
            have hB1 := (hrB.kept (w' := wr) fun g hg => hF.oth g (by have := hltB _ hg; dsimp only at this; omega)).rl
            have ht1 := (hF.oth gt (by omega)).trans ht9
            have hb1 := (hF.oth s9 (by omega)).trans hB9
            have gg1 := hF.bel
            obtain ⟨NT, hNT⟩ : ∃ NT, NT = T.l.length := ⟨_, rfl⟩
            obtain ⟨NB, hNB⟩ : ∃ NB, NB = B.l.length := ⟨_, rfl⟩
            rw [← hNT] at hT1 hN1 ht1 hTl
            rw [← hNB] at hB1 hb1
            have HNB := hid hNB
            clear hF hrT hrN hrB ht9 hA9 hB9 hltT hltN hltB hltA hNB hNA
            simp only [← hNT]
            clear hNT
            go_wp2
            obtain ⟨w20, rfl⟩ : ∃ w20, w20 = wr := ⟨_, rfl⟩
            go_loopw [114] (fun i wi => ∃ j : Nat, j ≤ NT ∧ i = .int .i64 (j : Int) ∧ Below w20.heap.size w20 wi) (fun i _ => NT - (intOf i).toNat)
            case atStart => exact ⟨0, by omega, rfl, Below.refl _ _⟩
            case round =>
              obtain ⟨j, hj, rfl, hbi⟩ := hrel
              by_cases hlt : j < NT
              · obtain ⟨bT, oT, y, rfl, hy, hcy⟩ := (hN1.below hbi).at hlt
                have hyB := HPRE.out j y hy
                obtain ⟨bB, oB, eB, _, hcB⟩ := (hB1.below hbi).cell (by have := (List.getElem?_eq_some_iff.1 hyB).1; have := HNB.out; omega)
                subst eB
                have hcB' := hcB j y hyB
                have hlB : (j : Int) < (NB : Int) := by have := (List.getElem?_eq_some_iff.1 hyB).1; have := HNB.out; omega
                obtain ⟨v0, v1, v2, v3, v4⟩ := bx5 (bx_below hb1 hbi)
                clear hy hyB hcB
                go_wp2_with fail
                go_big_quiet (fail)
                go_wp2
                go_roundw
                case rel => exact ⟨j + 1, by omega, by go_num, below_drewN hbi nq⟩
                case measure => simp [intOf]; omega
              · obtain rfl : j = NT := by omega
                obtain ⟨v0, v1, v2, v3, v4⟩ := bx5 (bx_below ht1 hbi)
                have hsame := same_own wr a4 _ c4 T.l a7 c7 (hT1.below hbi) (hN1.below hbi) (by omega)
                have gg2 := bstep gg1 hbi
                clear hT1 hN1 hB1
                go_wp2_with (first
                  | (go_at_call 18; (with_reducible refine hsame.mono ?_); rintro e w8 ⟨rfl, rfl⟩)
                  | (go_at_call 7; (with_reducible refine (awake7_any _).mono ?_); rintro e w12 ⟨rfl, g12⟩))
                go_ret
                exact ⟨rfl, bstep gg2 g12⟩

set_option maxHeartbeats 2000000 in
theorem takeOnce_walk (w : World) (a : Option Addr) (n c : Nat) (l : List Bool) (mo : Bool) (h : RL .bool w a n c l) (m1 : n ≤ 9223372036854775807) :
    Calls Try.prog 6 #[.slice a n c, .bool mo] w fun e w' => e = .returned (.bool true) ∧ Below w.heap.size w w' := by
  by_cases hn : n ≤ 220
  · exact takeOnce_short w a n c l mo h hn
  · have hn' : (220 : Int) < (n : Int) := by omega
    go_enter Try.func6, Try.ntmps6
    go_wp2_with (go_at_call 7; (with_reducible refine (awake7_any _).mono ?_); rintro e w12 ⟨rfl, g12⟩)
    go_ret
    exact ⟨rfl, g12⟩
end Go.Proofs.Ythpgcgkgokfnpaa
