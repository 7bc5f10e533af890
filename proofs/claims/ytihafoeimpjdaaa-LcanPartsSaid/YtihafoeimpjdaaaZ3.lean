/-
  Texts of this place, put together: B16m, B16n, B16o, B16p, B16q, B16r, Open16, B16s. What stands here is used by the statement; conditions: none of their own.
-/
import Derived.Test.YtihafoeimpjdaaaZ2
namespace Go.Proofs.Ytihafoeimpjdaaa
open Go.RowKit Go.Sort Go.Maps
set_option linter.unusedVariables false
set_option linter.unusedSimpArgs false

/-- The error of a run. -/
def ruE (b : Bool) : Int := if b then 0 else 160

/-- A bus that is run. -/
structure RuM (B : Nat) (w wr : World) (k1 k2 g gN c b : Nat) (s0 : Lb) (l : List Ev) (k : Nat) (hs : List Hol) (sil : Nat) : Prop where
  bus : BuM B wr g gN c hs sil
  lbk : LbK (lbOf hs sil)
  ru : RuA s0 l k (lbOf hs sil)
  sl : sil ≤ s0.sil + k
  mp : MF g wr b 7 evPut
  nb : ¬ BuS g gN hs b
  r2 : wr.heap[k2]? = some (.cells lcZ 25 (0, 0))
  bel : Below w.heap.size w wr

section
variable {B : Nat} {w wr w1 : World} {k1 k2 g gN c sil i b k : Nat} {hs : List Hol} {x : Hol} {m : Ma} {s0 : Lb} {l : List Ev} {a : Option Addr} {ms : List Ma}

theorem RuM.below (h : RuM B w wr k1 k2 g gN c b s0 l k hs sil) (g1 : Below wr.heap.size wr w1) : RuM B w w1 k1 k2 g gN c b s0 l k hs sil :=
  ⟨h.bus.below g1, h.lbk, h.ru, h.sl, h.mp.ch (Ch.of_below (S := fun _ => False) g1) (fun e => e), h.nb, bx_below h.r2 g1, bstep h.bel g1⟩

theorem RuM.step (h : RuM B w wr k1 k2 g gN c b s0 l k hs sil) (h2 : k2 < B) (hw : w.heap.size ≤ B) {e : Ev} (he : l[k]? = some e) (hok : e.ok = true → e.fr.data.length ≤ 1000) {r : Ending} (hR : MetR B wr g gN c hs sil e r w1) :
    (r = .returned (.bool false) ∧ stL (lbOf hs sil) e = none ∧ ∃ hs' sil', BuM B w1 g gN c hs' sil' ∧ lbOf hs' sil' = lbOf hs sil ∧ w1.heap[k2]? = some (.cells lcZ 25 (0, 0)) ∧ Below w.heap.size w w1)
    ∨ (r = .returned (.bool true) ∧ ∃ hs' sil', RuM B w w1 k1 k2 g gN c b s0 l (k + 1) hs' sil') := by
  obtain ⟨hs', sil', hr, hb, hl, hc, hss⟩ := hR
  have n0 : 0 < hs.length := by have := h.lbk.n2; rw [lb_len] at this; omega
  have hc2 : w1.heap[k2]? = some (.cells lcZ 25 (0, 0)) := hc.bx h.r2 (fun e => by have := (h.bus.sB n0 e).1; omega)
  have hbl : Below w.heap.size w w1 := hc.below h.bel (Nat.le_refl _) (fun b hb => by have := (h.bus.sB n0 hb).1; omega)
  cases hst : stL (lbOf hs sil) e with
  | none =>
    rw [hst] at hr hl
    exact .inl ⟨hr, rfl, hs', sil', hb, hl, hc2, hbl⟩
  | some t =>
    rw [hst] at hr hl
    obtain ⟨k1', k2'⟩ := h.lbk.step hok hst
    replace hl : lbOf hs' sil' = t := hl
    refine .inr ⟨hr, hs', sil', hb, hl ▸ k1', hl ▸ h.ru.step he hst, ?_, h.mp.ch hc h.nb, fun e => ?_, hc2, hbl⟩
    · have e1 : (lbOf hs' sil').sil = sil' := rfl
      have e2 : (lbOf hs sil).sil = sil := rfl
      rw [hl] at e1
      have := h.sl
      omega
    · rcases hss b e with h1 | h1
      · exact h.nb h1
      · have := h.mp.lt; omega

/-- A result of Run. -/
def RunR (w : World) (s0 : Lb) (l : List Ev) (e : Ending) (w' : World) : Prop :=
  ∃ gN c hs sil, e = .returned (.tuple #[.agg (lcV gN hs.length c sil), .int .i64 ((ruL s0 l).2.1 : Int), .int .i64 (ruE (ruL s0 l).2.2)]) ∧ BuO w.heap.size w' gN c hs ∧ lbOf hs sil = (ruL s0 l).1 ∧ Below w.heap.size w w'

theorem RunR.mk {t : Lb} {n : Nat} {ok : Bool} (hr : ruL s0 l = (t, n, ok)) (h : BuM B w1 g gN c hs sil) (ht : lbOf hs sil = t) (h2 : w1.heap[k2]? = some (.cells lcZ 25 (0, 0))) (hb : Below w.heap.size w w1) (hk : k2 < B) (hw : w.heap.size ≤ k2) :
    RunR w s0 l (.returned (.tuple #[.agg (lcV gN hs.length c sil), .int .i64 (n : Int), .int .i64 (ruE ok)])) (w1.setRow k2 (lcV gN hs.length c sil)) :=
  ⟨gN, c, hs, sil, by rw [hr], (h.own.kept fun b hb1 _ => setRow_other _ _ _ _ (by omega)).mono (by omega), by rw [hr]; exact ht, below_setRow hb hw _⟩

theorem results_row12 {P : Program} {T : TypeId} {n : Nat} (hT : RowT P T n) {fn : Func} {p q s : Tmp} (h : fn.results = #[.cell p T, .tmp q, .tmp s]) (tmps : Array Value) (w : World) (g : Nat) {t : TypeId} {cs : Array Value} {fr : Nat × Nat} {v u : Value}
    (hp : tmps.getD p undef = .pointer (some ⟨g, 0, none⟩)) (hq : tmps.getD q undef = v) (hs : tmps.getD s undef = u) (hg : w.heap[g]? = some (.cells cs t fr)) (hn : cs.size = n) :
    (results fn tmps).run P w = .ok (.tuple #[.agg cs, v, u]) w := by
  obtain ⟨d, hu, hd⟩ := hT.und
  have hp' : tmps[p]?.getD undef = .pointer (some ⟨g, 0, none⟩) := by simpa using hp
  have hq' : tmps[q]?.getD undef = v := by simpa using hq
  have hs' : tmps[s]?.getD undef = u := by simpa using hs
  have e1 := run_loadVar_row (P := P) w g t T cs fr d hg hu (by cases d <;> simp_all) (by rw [hT.size, hn])
  simp [results, h, hp', hq', hs', asAddr, e1]

set_option maxRecDepth 100000 in
set_option maxHeartbeats 8000000 in
theorem run16_any (h : BuR w a c hs) (hK : LbK (lbOf hs sil)) {la : Option Addr} {ln lc : Nat} (hl : RK enMay 8 w la ln lc ms) (hm : ∀ m ∈ ms, MaR w m) (hbd : sil + ms.length ≤ 1000000000) :
    Calls Try.prog 11 #[.agg #[.slice a hs.length c, .int .i64 (sil : Int)], .slice la ln lc] w (RunR w (lbOf hs sil) (ms.map Ma.ev)) := by
  obtain ⟨k1, k2, w0, hw0, hk1, hk2, hb1, hb2, g0, z1, z2, z3⟩ := box_lc2 w #[.slice a hs.length c, .int .i64 (sil : Int)]
  have kA := apart16_any (sil := sil) (h.below g0) hK
  obtain rfl := hl.len
  have H := hid h
  have HK := hid hK
  have HL := hid hl
  have HM := hid hm
  clear h hK hl hm
  go_enter Try.func11, Try.ntmps11
  go_upto_region 2 with (first
    | (rw [hw0.out])
    | (rw [hk2.out])
    | (rw [hk1.out])
    | (with_reducible refine wpList_loadR rowLc rfl _ rfl _ rfl hb1 rfl ?_)
    | (go_at_call 14; with_reducible refine kA.mono ?_; rintro e w1 ⟨gN, c', ds, rfl, o1, p1, g1⟩))
  have hN := o1.nlt (show 0 < ds.length by have := HK.out.n2; rw [lb_len] at this; have := congrArg List.length p1; simp at this; omega)
  have hB0 : BuM (k2 + 1) (w1.alloc (.cells (lcV gN ds.length c' sil) 53)) w1.heap.size gN c' ds sil := by
    refine ⟨heap_alloc_new w1 _, (z3 ▸ o1).below (bnew0 w1 _), by have := g1.size; omega, by omega, fun x hx p hp e => ?_, fun x hx p hp e => ?_⟩
    · have := ((o1.tok x hx).ltB hp).1; omega
    · have := ((o1.dat x hx).ltB hp).1; omega
  have hb2' := bx_below hb2 (g1.trans (bnew0 w1 (.cells (lcV gN ds.length c' sil) 53) |>.mono g1.size))
  have gg : Below w.heap.size w (w1.alloc (.cells (lcV gN ds.length c' sil) 53)) := bnew (bstep g0 g1) _
  have hlb : lbOf ds sil = lbOf hs sil := by unfold lbOf; rw [p1]
  have HLB := hid hlb
  clear o1 p1 g1 hN hb1 hb2 kA g0 hlb
  obtain ⟨gB, hgB⟩ : ∃ gB, gB = w1.heap.size := ⟨_, rfl⟩
  rw [← hgB] at hB0
  rw [← hgB]
  generalize w1.alloc (.cells (lcV gN ds.length c' sil) 53) = w2 at *
  have kE := events_any w2 gB
  clear hgB
  go_wp2_with (go_at_call 18; with_reducible refine kE.mono ?_; rintro e w3 ⟨b, rfl, m3, hbn, g3⟩)
  have hS0 : RuM (k2 + 1) w w3 k1 k2 gB gN c' b (lbOf hs sil) (ms.map Ma.ev) 0 ds sil := by
    have n0 : 0 < ds.length := by have := HK.out.n2; rw [← HLB.out, lb_len] at this; omega
    refine ⟨hB0.below g3, HLB.out.symm ▸ HK.out, HLB.out.symm ▸ RuA.start _ _, by show sil ≤ (lbOf hs sil).sil + 0; simp [lbOf], m3, fun e => ?_, bx_below hb2' g3, bstep gg g3⟩
    have := (hB0.sB n0 e).2; omega
  have HS0 := hid hS0
  clear hB0 hb2' gg kE m3 hbn g3 hS0
  go_loopg [19] ms.length (fun gn vi wr => ∃ (k : Nat) (hs' : List Hol) (sil' : Nat), k ≤ ms.length ∧ gn = ms.length - k ∧ vi = .int .i64 (k : Int) ∧ Hid (RuM (k2 + 1) w wr k1 k2 gB gN c' b (lbOf hs sil) (ms.map Ma.ev) k hs' sil'))
  case atStart => exact ⟨0, ds, sil, by omega, by omega, rfl, HS0⟩
  case round =>
    obtain ⟨k, hs', sil', hk, rfl, rfl, hS⟩ := hrel
    by_cases hlt : k < ms.length
    · have i1 : (k : Int) < (ms.length : Int) := by omega
      obtain ⟨m, hmk⟩ : ∃ m, ms[k]? = some m := ⟨_, List.getElem?_eq_getElem hlt⟩
      have hek : (ms.map Ma.ev)[k]? = some m.ev := by simp [hmk]
      obtain ⟨b0, off, hla, _, hrg⟩ := (HL.out.below hS.out.bel).range hmk
      subst hla
      have HMK := hid hmk
      have HEK := hid hek
      clear hmk hek
      go_upto_region 6 with (first
        | (with_reducible refine wpList_loadM rowMay rfl _ rfl _ _ rfl (mayV m) hrg rfl ?_))
      obtain ⟨kb, hkb⟩ : ∃ kb, kb = wr.heap.size := ⟨_, rfl⟩
      rw [← hkb]
      have hba := heap_alloc_new wr (.cells (mayV m) 36)
      rw [← hkb] at hba
      have hS4 := hS.out.below (bnew0 wr (.cells (mayV m) 36))
      have hmm := List.mem_of_getElem? HMK.out
      clear hkb hrg hS
      generalize wr.alloc (.cells (mayV m) 36) = w4 at *
      have hR4 := (HM.out m hmm).below hS4.bel
      obtain ⟨c0, c1, _⟩ := may_cells hba
      obtain ⟨v, hrun, hv⟩ := ev_look hS4.mp hR4.wh
      have n2 := hS4.lbk.n2
      rw [lb_len] at n2
      have hS5 := hid hS4
      have R5 := hid hR4
      clear hS4 hR4
      by_cases hw : 1 ≤ m.what ∧ m.what ≤ 7
      · have hpl := method_plain hw
        obtain rfl := hv hw
        rw [decide_eq_true hw] at hrun
        have HW := hid hw
        clear hw hv
        by_cases hin : 0 ≤ m.node ∧ m.node < (hs'.length : Int)
        · have kH := has_any w4 gB gN hs'.length c' (.int .i64 (sil' : Int)) m.node hS5.out.bus.box
          rw [decide_eq_true hin] at kH
          obtain ⟨i, hi⟩ := Int.eq_ofNat_of_zero_le hin.1
          obtain ⟨x, hx⟩ : ∃ x, hs'[i]? = some x := ⟨_, List.getElem?_eq_getElem (by omega)⟩
          have hgN := (hS5.out.bus.own.nlt (by omega)).2
          have hda : 0 < m.fr.data.length → NB m.da gN := fun h0 p hp e => by
            obtain ⟨b1, o1, e1, hb1, _⟩ := ((HM.out m hmm).dat).cell h0
            rw [hp] at e1; cases e1
            dsimp only at e; omega
          have kM := method_any hS5.out.bus hS5.out.lbk (by have := hS5.out.sl; have : (lbOf hs sil).sil = sil := rfl; omega) hx hi R5.out hda HW.out
          have hrl := hba
          cases hst : stL (lbOf hs' sil') m.ev with
          | none =>
            have kM2 : Calls Try.prog (evF m.what) #[.pointer (some ⟨gB, 0, none⟩), .agg (mayV m)] w4 fun e w5 => e = .returned (.bool false) ∧ ∃ hs2 sil2, BuM (k2 + 1) w5 gB gN c' hs2 sil2 ∧ lbOf hs2 sil2 = lbOf hs' sil' ∧ w5.heap[k2]? = some (.cells lcZ 25 (0, 0)) ∧ Below w.heap.size w w5 := kM.mono fun e w5 hR => by
              rcases hS5.out.step (by omega) (by omega) HEK.out ev_len hR with ⟨h1, _, h2⟩ | ⟨h1, _⟩
              · exact ⟨h1, h2⟩
              · obtain ⟨_, _, hr, _⟩ := hR
                rw [hst] at hr; rw [h1] at hr; simp at hr
            have ST := hid hst
            clear kM hda hgN hx hi hin n2 hst
            go_wp2_with (first
              | (with_reducible refine wpList_loadW rowMay (by simp [Region.wanted, yielded, Act.put]) _ rfl kb rfl hba rfl ?_)
              | (go_at_call 19; with_reducible refine kH.mono ?_; rintro e w5 ⟨rfl, rfl⟩)
              | (with_reducible refine wpList_callM (F := evF m.what) hpl (by simp [Region.wanted, yielded, Act.put]) _ _ _ rfl (.pointer (some ⟨gB, 0, none⟩)) (.agg (mayV m)) rfl rfl _ kM2 ?_
                 rintro e w6 ⟨rfl, hs2, sil2, hb6, hl6, hr2, bel6⟩
                 refine ⟨_, rfl, ?_⟩
                 have hbx := hb6.box)
              | (with_reducible refine wpList_loadR rowLc rfl _ rfl gB rfl hbx rfl ?_)
              | (with_reducible refine wpList_storeR rowLc rfl _ _ rfl _ (lcV gN hs2.length c' sil2) rfl rfl hr2 rfl rfl (by kernel_rfl) ?_))
            exact bodyPost_ret (v := .tuple #[.agg (lcV gN hs2.length c' sil2), .int .i64 (k : Int), .int .i64 160]) (results_row12 rowLc rfl _ _ k2 rfl rfl rfl (setRow_heap _ _ _ _ _ _ hr2) rfl) rfl (RunR.mk (ok := false) (hS5.out.ru.fail HEK.out ST.out) hb6 hl6 hr2 bel6 (show k2 < k2 + 1 by omega) (by omega))
          | some t =>
            have kM2 : Calls Try.prog (evF m.what) #[.pointer (some ⟨gB, 0, none⟩), .agg (mayV m)] w4 fun e w5 => e = .returned (.bool true) ∧ ∃ hs2 sil2, RuM (k2 + 1) w w5 k1 k2 gB gN c' b (lbOf hs sil) (ms.map Ma.ev) (k + 1) hs2 sil2 := kM.mono fun e w5 hR => by
              rcases hS5.out.step (by omega) (by omega) HEK.out ev_len hR with ⟨h1, h2, _⟩ | ⟨h1, h2⟩
              · rw [hst] at h2; cases h2
              · exact ⟨h1, h2⟩
            clear kM hda hgN hx hi hin n2 hst
            go_wp2_with (first
              | (with_reducible refine wpList_loadW rowMay (by simp [Region.wanted, yielded, Act.put]) _ rfl kb rfl hba rfl ?_)
              | (go_at_call 19; with_reducible refine kH.mono ?_; rintro e w5 ⟨rfl, rfl⟩)
              | (with_reducible refine wpList_callM (F := evF m.what) hpl (by simp [Region.wanted, yielded, Act.put]) _ _ _ rfl (.pointer (some ⟨gB, 0, none⟩)) (.agg (mayV m)) rfl rfl _ kM2 ?_
                 rintro e w6 ⟨rfl, hs2, sil2, hS6⟩
                 have HS6 := hid hS6
                 clear hS6
                 refine ⟨_, rfl, ?_⟩))
            go_roundg (ms.length - (k + 1))
            case measure => omega
            case rel => exact ⟨k + 1, hs2, sil2, by omega, rfl, by first | rfl | simp, HS6⟩
        · have kH := has_any w4 gB gN hs'.length c' (.int .i64 (sil' : Int)) m.node hS5.out.bus.box
          rw [decide_eq_false hin] at kH
          have ST := hid (stL_out (s := lbOf hs' sil') (e := m.ev) (by rw [lb_len]; show m.node < 0 ∨ (hs'.length : Int) ≤ m.node; omega))
          have hbx := hS5.out.bus.box
          have hr2 := hS5.out.r2
          clear hin
          go_wp2_with (first
            | (go_at_call 19; with_reducible refine kH.mono ?_; rintro e w5 ⟨rfl, rfl⟩)
            | (with_reducible refine wpList_loadR rowLc rfl _ rfl gB rfl hbx rfl ?_)
            | (with_reducible refine wpList_storeR rowLc rfl _ _ rfl _ (lcV gN hs'.length c' sil') rfl rfl hr2 rfl rfl (by kernel_rfl) ?_))
          exact bodyPost_ret (v := .tuple #[.agg (lcV gN hs'.length c' sil'), .int .i64 (k : Int), .int .i64 160]) (results_row12 rowLc rfl _ _ k2 rfl rfl rfl (setRow_heap _ _ _ _ _ _ hr2) rfl) rfl (RunR.mk (ok := false) (hS5.out.ru.fail HEK.out ST.out) hS5.out.bus rfl hr2 hS5.out.bel (show k2 < k2 + 1 by omega) (by omega))
      · rw [decide_eq_false hw] at hrun
        have ST := hid (stL_kind (s := lbOf hs' sil') (e := m.ev) hw)
        have hbx := hS5.out.bus.box
        have hr2 := hS5.out.r2
        clear hw hv
        go_wp2_with (first
          | (with_reducible refine wpList_loadR rowLc rfl _ rfl gB rfl hbx rfl ?_)
          | (with_reducible refine wpList_storeR rowLc rfl _ _ rfl _ (lcV gN hs'.length c' sil') rfl rfl hr2 rfl rfl (by kernel_rfl) ?_))
        exact bodyPost_ret (v := .tuple #[.agg (lcV gN hs'.length c' sil'), .int .i64 (k : Int), .int .i64 160]) (results_row12 rowLc rfl _ _ k2 rfl rfl rfl (setRow_heap _ _ _ _ _ _ hr2) rfl) rfl (RunR.mk (ok := false) (hS5.out.ru.fail HEK.out ST.out) hS5.out.bus rfl hr2 hS5.out.bel (show k2 < k2 + 1 by omega) (by omega))
    · obtain rfl : k = ms.length := by omega
      have hbx := hS.out.bus.box
      have hr2 := hS.out.r2
      have hall := RuA.all (l := ms.map Ma.ev) (by rw [List.length_map]; exact hS.out.ru)
      rw [List.length_map] at hall
      have HA := hid hall
      clear hall
      go_wp2_with (first
        | (with_reducible refine wpList_loadR rowLc rfl _ rfl gB rfl hbx rfl ?_)
        | (with_reducible refine wpList_storeR rowLc rfl _ _ rfl _ (lcV gN hs'.length c' sil') rfl rfl hr2 rfl rfl (by kernel_rfl) ?_))
      exact bodyPost_ret (v := .tuple #[.agg (lcV gN hs'.length c' sil'), .int .i64 (ms.length : Int), .int .i64 0]) (results_row12 rowLc rfl _ _ k2 rfl rfl rfl (setRow_heap _ _ _ _ _ _ hr2) rfl) rfl (RunR.mk (ok := true) HA.out hS.out.bus rfl hr2 hS.out.bel (show k2 < k2 + 1 by omega) (by omega))
end
end Go.Proofs.Ytihafoeimpjdaaa

namespace Go.Proofs.Ytihafoeimpjdaaa
open Go.RowKit Go.Sort Go.Maps
set_option linter.unusedVariables false
set_option linter.unusedSimpArgs false

def n0H : Hol := ⟨n0L, none, 0, none, 0⟩
/-- The error of an event. -/
def stE (s : Lb) (e : Ev) : Int := ruE (stL s e).isSome
/-- A result of Step. -/
def StpR (w : World) (s0 : Lb) (ev : Ev) (e : Ending) (w' : World) : Prop :=
  ∃ gN c hs sil, e = .returned (.tuple #[.agg (lcV gN hs.length c sil), .int .i64 (stE s0 ev)]) ∧ BuO w.heap.size w' gN c hs ∧ lbOf hs sil = (stL s0 ev).getD s0 ∧ Below w.heap.size w w'
/-- Who is missing. -/
def misI (s : Lb) (i : Int) : List Nat := if 0 ≤ i ∧ i < (s.ns.length : Int) then misL s i.toNat else []

section
variable {B : Nat} {w wr w1 : World} {k1 k2 g gN c sil i b k : Nat} {hs : List Hol} {x : Hol} {m : Ma} {s0 : Lb} {l : List Ev} {a : Option Addr} {ms : List Ma}

theorem ru_one (s0 : Lb) (e : Ev) : ruL s0 [e] = ((stL s0 e).getD s0, (if (stL s0 e).isSome then 1 else 0), (stL s0 e).isSome) := by
  cases h : stL s0 e with
  | none => rw [ruL_none _ h]; rfl
  | some t => rw [ruL_some _ h]; rfl

/-- The boxes of Step. -/
theorem box_st3 (w : World) (cs : Array Value) (m : Ma) : ∃ k1 k2 k3 w0, Hid (((w.alloc (.cells cs 25)).alloc (.cells (mayV m) 36)).alloc (.cells lcZ 25) = w0) ∧ Hid (w.heap.size = k1) ∧ Hid (w.heap.size + 1 = k2) ∧ Hid (w.heap.size + 1 + 1 = k3) ∧
    w0.heap[k1]? = some (.cells cs 25 (0, 0)) ∧ w0.heap[k2]? = some (.cells (mayV m) 36 (0, 0)) ∧ w0.heap[k3]? = some (.cells lcZ 25 (0, 0)) ∧ Below w.heap.size w w0 ∧ w.heap.size ≤ k1 ∧ k1 < k2 ∧ k2 < k3 ∧ w0.heap.size = k3 + 1 :=
  ⟨_, _, _, _, rfl, rfl, rfl, rfl, bx_alloc _ (bx_alloc _ (heap_alloc_new w _)), bx_alloc _ (by have := heap_alloc_new (w.alloc (.cells cs 25)) (.cells (mayV m) 36); rwa [heap_size_alloc] at this), by have := heap_alloc_new ((w.alloc (.cells cs 25)).alloc (.cells (mayV m) 36)) (.cells lcZ 25); rwa [heap_size_alloc, heap_size_alloc] at this, bnew (bnew (bnew0 w _) _) _, Nat.le_refl _, by omega, by omega, by simp⟩

set_option maxRecDepth 100000 in
set_option maxHeartbeats 4000000 in
theorem step16_any (h : BuR w a c hs) (hK : LbK (lbOf hs sil)) (hm : MaR w m) (hbd : sil + 1 ≤ 1000000000) :
    Calls Try.prog 9 #[.agg #[.slice a hs.length c, .int .i64 (sil : Int)], .agg (mayV m)] w (StpR w (lbOf hs sil) m.ev) := by
  obtain ⟨k1, k2, k3, w0, hw0, hk1, hk2, hk3, hb1, hb2, hb3, g0, z1, z2, z3, z4⟩ := box_st3 w #[.slice a hs.length c, .int .i64 (sil : Int)] m
  obtain ⟨wl, hwl, ho, gl⟩ : ∃ wl, Hid (w0.alloc (.cells (mayV m) 36) = wl) ∧ OK enMay 8 36 w0.heap.size wl (some ⟨w0.heap.size, 0, none⟩) 1 1 [m] ∧ Below w0.heap.size w0 wl := ⟨_, rfl, ok_lit enMay_k 36 w0.heap.size w0 [m] (mayV m) 1 (by rfl) rfl (by omega) (Nat.le_refl _), bnew0 w0 (.cells (mayV m) 36)⟩
  have kR := run16_any (sil := sil) ((h.below g0).below gl) hK (ho.rk enMay_k) (by intro m' hm'; rw [List.mem_singleton.1 hm']; exact (hm.below g0).below gl) (by simpa using hbd)
  clear ho
  have Z4 := hid z4
  clear z4
  go_enter Try.func9, Try.ntmps9
  go_wp2_with (first
    | (rw [hw0.out])
    | (rw [hwl.out])
    | (rw [hk3.out])
    | (rw [hk2.out])
    | (rw [hk1.out])
    | (with_reducible refine wpList_loadR rowLc rfl _ rfl k1 rfl hb1 rfl ?_)
    | (with_reducible refine wpList_loadR rowMay rfl _ rfl k2 rfl hb2 rfl ?_)
    | (go_at_call 11; (with_reducible refine kR.mono ?_); rintro e w5 ⟨gN, c', hs', sil', rfl, o5, l5, g5⟩
       have b6 := heap_alloc_new w5 (.cells (lcV gN hs'.length c' sil') 25)
       have b3 : (w5.alloc (.cells (lcV gN hs'.length c' sil') 25)).heap[k3]? = some (.cells lcZ 25 (0, 0)) := bx_alloc _ (bx_below (bx_below hb3 gl) g5))
    | (with_reducible refine wpList_loadR rowLc rfl _ rfl w5.heap.size rfl b6 rfl ?_)
    | (with_reducible refine wpList_storeR rowLc rfl _ _ rfl k3 (lcV gN hs'.length c' sil') rfl rfl b3 rfl rfl (by kernel_rfl) ?_))
  have s5 := g5.size
  have s6 := gl.size
  have G6 : Below w.heap.size w (w5.alloc (.cells (lcV gN hs'.length c' sil') 25)) := bnew (bstep (bstep g0 gl) g5) _
  have e1 : (ruL (lbOf hs sil) [m.ev]).2.2 = (stL (lbOf hs sil) m.ev).isSome := by rw [ru_one]
  have e2 : (ruL (lbOf hs sil) [m.ev]).1 = (stL (lbOf hs sil) m.ev).getD (lbOf hs sil) := by rw [ru_one]
  have o6 : BuO w.heap.size ((w5.alloc (.cells (lcV gN hs'.length c' sil') 25)).setRow k3 (lcV gN hs'.length c' sil')) gN c' hs' := by
    refine (BuO.kept (o5.below (bnew0 w5 (.cells (lcV gN hs'.length c' sil') 25))) (fun q hq _ => setRow_other _ _ _ _ ?_)).mono ?_
    · have := Z4.out; omega
    · have := g0.size; omega
  exact bodyPost_ret (v := .tuple #[.agg (lcV gN hs'.length c' sil'), .int .i64 (ruE (ruL (lbOf hs sil) [m.ev]).2.2)]) (results_row1 rowLc rfl _ _ k3 rfl rfl (setRow_heap _ _ _ _ _ _ b3) rfl) rfl
    ⟨gN, c', hs', sil', by rw [e1]; rfl, o6, by rw [← e2]; exact l5, below_setRow G6 (by omega) _⟩

set_option maxRecDepth 100000 in
set_option maxHeartbeats 4000000 in
theorem missing16_any (h : BuR w a c hs) (hK : LbK (lbOf hs sil)) (n : Int) :
    Calls Try.prog 8 #[.agg #[.slice a hs.length c, .int .i64 (sil : Int)], .int .i64 n] w fun e w' => ∃ a' c', e = .returned (.slice a' (misI (lbOf hs sil) n).length c') ∧ OL ivN 3 w.heap.size w' a' (misI (lbOf hs sil) n).length c' (misI (lbOf hs sil) n) ∧ Below w.heap.size w w' := by
  obtain ⟨w0, hw0, hb1, g0⟩ : ∃ w0, Hid (w.alloc (.cells #[.slice a hs.length c, .int .i64 (sil : Int)] 25) = w0) ∧ w0.heap[w.heap.size]? = some (.cells #[.slice a hs.length c, .int .i64 (sil : Int)] 25 (0, 0)) ∧ Below w.heap.size w w0 := ⟨_, rfl, heap_alloc_new w _, bnew0 w _⟩
  have kA := apart16_any (sil := sil) (h.below g0) hK
  have HK := hid hK
  obtain ⟨M, hM⟩ : ∃ M, M = misI (lbOf hs sil) n := ⟨_, rfl⟩
  rw [← hM]
  have HM := hid hM
  clear h hK hM
  go_enter Try.func8, Try.ntmps8
  go_upto_region 2 with (first
    | (rw [hw0.out])
    | (with_reducible refine wpList_loadR rowLc rfl _ rfl _ rfl hb1 rfl ?_)
    | (go_at_call 14; with_reducible refine kA.mono ?_; rintro e w1 ⟨gN, c', ds, rfl, o1, p1, g1⟩))
  have hdl : ds.length = hs.length := by have := congrArg List.length p1; simpa using this
  have hn2 : 2 ≤ hs.length := by have := HK.out.n2; rwa [lb_len] at this
  have hN := o1.nlt (show 0 < ds.length by omega)
  have hlb : lbOf ds sil = lbOf hs sil := by unfold lbOf; rw [p1]
  have hB0 : BuM w0.heap.size (w1.alloc (.cells (lcV gN ds.length c' sil) 53)) w1.heap.size gN c' ds sil := by
    refine ⟨heap_alloc_new w1 _, o1.below (bnew0 w1 _), g1.size, by omega, fun x hx p hp e => ?_, fun x hx p hp e => ?_⟩
    · have := ((o1.tok x hx).ltB hp).1; omega
    · have := ((o1.dat x hx).ltB hp).1; omega
  have gg : Below w.heap.size w (w1.alloc (.cells (lcV gN ds.length c' sil) 53)) := bnew (bstep g0 g1) _
  have HLB := hid hlb
  have HDL := hid hdl
  clear o1 p1 g1 hN hb1 kA g0 hlb hdl
  obtain ⟨gB, hgB⟩ : ∃ gB, gB = w1.heap.size := ⟨_, rfl⟩
  rw [← hgB] at hB0
  rw [← hgB]
  generalize w1.alloc (.cells (lcV gN ds.length c' sil) 53) = w2 at *
  clear hgB
  by_cases hin : 0 ≤ n ∧ n < (hs.length : Int)
  · obtain ⟨i, rfl⟩ := Int.eq_ofNat_of_zero_le hin.1
    have e1 : misI (lbOf hs sil) (i : Int) = misL (lbOf hs sil) i := by unfold misI; rw [lb_len, if_pos hin]; rfl
    obtain ⟨x, hx⟩ : ∃ x, ds[i]? = some x := ⟨_, List.getElem?_eq_getElem (by have := HDL.out; omega)⟩
    have kM := missing_at hB0 hx (HLB.out.symm ▸ HK.out)
    rw [HLB.out, ← e1, ← HM.out] at kM
    clear e1 hin hx
    go_wp2_with (go_at_call 15; with_reducible refine kM.mono ?_; rintro e w3 ⟨a3, c3, rfl, o3, g3⟩)
    go_ret
    exact ⟨a3, c3, rfl, o3.mono gg.size, bstep gg g3⟩
  · have e1 : misI (lbOf hs sil) n = [] := by unfold misI; rw [lb_len, if_neg hin]
    obtain rfl : M = [] := HM.out.trans e1
    have kM : Calls Try.prog 15 #[.pointer (some ⟨gB, 0, none⟩), .int .i64 n] w2 fun e w' => e = .returned (.slice none 0 0) ∧ w' = w2 := by
      have kH := has_any w2 gB gN ds.length c' (.int .i64 (sil : Int)) n hB0.box
      rw [HDL.out, decide_eq_false hin] at kH
      clear hin e1
      go_enter Try.func15, Try.ntmps15
      go_wp2_with (go_at_call 19; with_reducible refine kH.mono ?_; rintro e w3 ⟨rfl, rfl⟩)
      go_ret
      exact ⟨rfl, rfl⟩
    clear e1 hin
    go_wp2_with (go_at_call 15; with_reducible refine kM.mono ?_; rintro e w3 ⟨rfl, rfl⟩)
    go_ret
    exact ⟨none, 0, rfl, OL.nil _ _ _ _, gg⟩

set_option maxRecDepth 100000 in
set_option maxHeartbeats 1000000 in
theorem new16_any (w : World) (n : Nat) (h2 : 2 ≤ n) (h32 : n ≤ 32) :
    Calls Try.prog 6 #[.int .i64 (n : Int)] w fun e w' => ∃ gN hs, e = .returned (.tuple #[.agg (lcV gN hs.length hs.length 0), .int .i64 0]) ∧ BuO w.heap.size w' gN hs.length hs ∧ lbOf hs 0 = newL n ∧ hs.length = n ∧ Below w.heap.size w w' := by
  obtain ⟨w0, hw0, hb1, g0⟩ : ∃ w0, Hid (w.alloc (.cells lcZ 25) = w0) ∧ w0.heap[w.heap.size]? = some (.cells lcZ 25 (0, 0)) ∧ Below w.heap.size w w0 := ⟨_, rfl, heap_alloc_new w _, bnew0 w _⟩
  have d1 : ¬ ((n : Int) < 2) := by omega
  have d2 : ¬ ((n : Int) > 32) := by omega
  have sz := bx_lt hb1
  have hz0 : (Value.agg holZ).cells.toList = enHol n0H := rfl
  go_enter Try.func6, Try.ntmps6
  go_wp2_with (first
    | (rw [hw0.out])
    | (with_reducible refine wpList_mkK elHol enHol_k n0H hz0 rfl _ _ rfl n _ _ .i64 .i64 rfl rfl rfl rfl (by omega) (by omega) ?_
       intro w3 o3 g3 z3
       have b3 := bx_below hb1 g3)
    | (with_reducible refine wpList_storeR rowLc rfl _ _ rfl _ (lcV w0.heap.size n n 0) rfl rfl b3 rfl rfl (by kernel_rfl) ?_))
  have hl : (List.replicate n n0H).length = n := by simp
  have hm : ∀ z ∈ List.replicate n n0H, z = n0H := fun z hz => (List.mem_replicate.1 hz).2
  have o4 : BuO w0.heap.size w3 w0.heap.size n (List.replicate n n0H) := by
    refine ⟨by rw [hl]; exact o3, fun z hz => ?_, fun z hz => ?_, fun z hz => ?_, fun z hz => ?_, fun z hz u hu p q hp hq => ?_, fun i j z u p q hij hz hu hp hq => ?_, fun z hz => ?_, fun z hz => ?_⟩
    · rw [hm z hz]; exact OL.nil _ _ _ _
    · rw [hm z hz]; exact OL.nil _ _ _ _
    · rw [hm z hz]; intro p hp; cases hp
    · rw [hm z hz]; intro p hp; cases hp
    · rw [hm z hz] at hp; cases hp
    · rw [hm z (List.mem_of_getElem? hz)] at hp; cases hp
    · rw [hm z hz]; decide
    · rw [hm z hz]; decide
  exact bodyPost_ret (v := .tuple #[.agg (lcV w0.heap.size n n 0), .int .i64 0]) (results_row1 rowLc rfl _ _ _ rfl rfl (setRow_heap _ _ _ _ _ _ b3) rfl) rfl
    ⟨w0.heap.size, List.replicate n n0H, by rw [hl], (by rw [hl]; exact (o4.kept fun b hb _ => setRow_other _ _ _ _ (by omega)).mono g0.size), by unfold lbOf newL; simp [n0H], hl, below_setRow (bstep g0 g3) (Nat.le_refl _) _⟩

theorem wrong16_any (w : World) (v0 v1 : Value) (e : Int) :
    Calls Try.prog 13 #[.agg #[v0, v1], .int .i64 e] w fun r w' => r = .returned (.int .i64 e) ∧ Below w.heap.size w w' := by
  go_enter Try.func13, Try.ntmps13
  go_wp2
  go_ret
  exact ⟨rfl, bnew0 w _⟩
end
end Go.Proofs.Ytihafoeimpjdaaa

namespace Go.Proofs.Ytihafoeimpjdaaa
open Go.RowKit Go.Sort Go.Maps
set_option linter.unusedVariables false
set_option linter.unusedSimpArgs false

section
variable {w w0 wr w1 : World} {c c' sil n : Nat} {hs hs' : List Hol} {a a' : Option Addr}

theorem box_lc2' (w : World) (cs ds : Array Value) : ∃ k1 k2 w0, Hid ((w.alloc (.cells cs 25)).alloc (.cells ds 25) = w0) ∧ Hid (w.heap.size = k1) ∧ Hid (w.heap.size + 1 = k2) ∧ w0.heap[k1]? = some (.cells cs 25 (0, 0)) ∧ w0.heap[k2]? = some (.cells ds 25 (0, 0)) ∧ Below w.heap.size w w0 :=
  ⟨_, _, _, rfl, rfl, rfl, bx_alloc _ (heap_alloc_new w _), by have := heap_alloc_new (w.alloc (.cells cs 25)) (.cells ds 25); rwa [heap_size_alloc] at this, bnew (bnew0 w _) _⟩

theorem hol_cells {kk : Nat} {h : Hol} (hh : w.heap[kk]? = some (.cells (holV h) 43 (0, 0))) : w.cell? ⟨kk, 0, none⟩ = some (.bool h.x.has) ∧ w.cell? ⟨kk, 6, none⟩ = some (.slice h.ta h.x.took.length h.tc) ∧ w.cell? ⟨kk, 7, none⟩ = some (.bool h.x.cr) ∧ w.cell? ⟨kk, 8, none⟩ = some (.bool h.x.off) ∧ w.rangeAt kk 1 (frV h.x.fr h.da h.dc).toList :=
  ⟨by rw [cell_of_row w kk 0 _ _ _ hh]; rfl, by rw [cell_of_row w kk 6 _ _ _ hh]; rfl, by rw [cell_of_row w kk 7 _ _ _ hh]; rfl, by rw [cell_of_row w kk 8 _ _ _ hh]; rfl, fun j v hv => by
    have h5 : j < 5 := by have := (List.getElem?_eq_some_iff.1 hv).1; simpa using this
    rw [cell_of_row w kk (1 + j) _ _ _ hh]
    rcases (show j = 0 ∨ j = 1 ∨ j = 2 ∨ j = 3 ∨ j = 4 by omega) with rfl | rfl | rfl | rfl | rfl <;> simpa using hv⟩

set_option maxRecDepth 100000 in
set_option maxHeartbeats 4000000 in
theorem sameLcan_true (h : BuR w a c hs) (h' : BuR w a' c' hs') (he : hs.map Hol.x = hs'.map Hol.x) (hn : hs.length = n) (hn' : hs'.length = n) (ht : ∀ x ∈ hs, x.x.took.length ≤ 1000) (h32 : n ≤ 1000) (S : Int) :
    Calls Try.prog 10 #[.agg #[.slice a n c, .int .i64 S], .agg #[.slice a' n c', .int .i64 S]] w fun e w' => e = .returned (.bool true) ∧ Below w.heap.size w w' := by
  obtain ⟨k1, k2, w0, hw0, hk1, hk2, hb1, hb2, g0⟩ := box_lc2' w #[.slice a n c, .int .i64 S] #[.slice a' n c', .int .i64 S]
  have q1 := two_lc hb1
  have q2 := two_lc hb2
  obtain ⟨q10, q11⟩ := q1
  obtain ⟨q20, q21⟩ := q2
  have H := hid h
  have H' := hid h'
  have HE := hid he
  have HN := hid hn
  have HN' := hid hn'
  have HT := hid ht
  have e0 : ((n : Int) != (n : Int)) = false := by simp
  have e1 : (S != S) = false := by simp
  clear h h' he hn hn' ht
  go_enter Try.func10, Try.ntmps10
  go_wp2_with (first
    | (rw [hw0.out])
    | (rw [hk2.out])
    | (rw [hk1.out]))
  clear e0 e1 q10 q11 q20 q21
  go_loopg [25] n (fun gn vi wr => ∃ k : Nat, k ≤ n ∧ gn = n - k ∧ vi = .int .i64 (k : Int) ∧ Below w0.heap.size w0 wr)
  case atStart => exact ⟨0, by omega, by omega, rfl, Below.refl _ _⟩
  case round =>
    obtain ⟨k, hk, rfl, rfl, hb⟩ := hrel
    by_cases hlt : k < n
    · have i1 : (k : Int) < (n : Int) := by omega
      obtain ⟨p, hp⟩ : ∃ p, hs[k]? = some p := ⟨_, List.getElem?_eq_getElem (by rw [HN.out]; exact hlt)⟩
      obtain ⟨q, hq⟩ : ∃ q, hs'[k]? = some q := ⟨_, List.getElem?_eq_getElem (by rw [HN'.out]; exact hlt)⟩
      have hx : p.x = q.x := by
        have := congrArg (fun l => l[k]?) HE.out
        simp only [List.getElem?_map, hp, hq] at this
        simpa using this
      have hR := H.out.below (bstep g0 hb)
      have hR' := H'.out.below (bstep g0 hb)
      have hpm := List.mem_of_getElem? hp
      have hqm := List.mem_of_getElem? hq
      have ht := HT.out p hpm
      obtain ⟨b0, off, rfl, hbl, hrp⟩ := hR.row.range hp
      obtain ⟨b1, off', rfl, hbl', hrq⟩ := hR'.row.range hq
      have dp := hR.dat p hpm
      have dq := hR'.dat q hqm
      have tp := hR.tok p hpm
      have tq := hR'.tok q hqm
      have rq : ∀ w', Below wr.heap.size wr w' → w'.rangeAt b1 (off' + k * 9) (holV q).toList := fun w' g => by
        obtain ⟨_, _, e, _, h⟩ := (hR'.below g).row.range hq
        cases e; exact h
      obtain ⟨X, da, dc, ta, tc⟩ := p
      obtain ⟨X', da', dc', ta', tc'⟩ := q
      obtain rfl : X = X' := hx
      have hb2' := bx_below hb2 hb
      have HB := hid hb
      have hrp' : wr.rangeAt b0 (off + k * 9) (holV ⟨X, da, dc, ta, tc⟩).toList := hrp
      clear hp hq hR hR' hpm hqm hrp hrq hbl hbl'
      go_upto_region 6 with (first
        | (with_reducible refine wpList_loadM rowHol rfl _ rfl _ _ rfl (holV ⟨X, da, dc, ta, tc⟩) hrp' rfl ?_))
      have ga := bnew0 wr (.cells (holV ⟨X, da, dc, ta, tc⟩) 43)
      have hpx := heap_alloc_new wr (.cells (holV ⟨X, da, dc, ta, tc⟩) 43)
      obtain ⟨kp, hkp⟩ : ∃ kp, kp = wr.heap.size := ⟨_, rfl⟩
      rw [← hkp] at hpx
      rw [← hkp]
      generalize wr.alloc (.cells (holV ⟨X, da, dc, ta, tc⟩) 43) = w4 at *
      have c2 := (two_lc (bx_below hb2' ga)).1
      have rq4 := rq w4 ga
      clear hkp hrp'
      go_upto_region 7 with (first
        | (with_reducible refine wpList_loadM rowHol rfl _ rfl _ _ rfl (holV ⟨X, da', dc', ta', tc'⟩) rq4 rfl ?_))
      have gb := bnew0 w4 (.cells (holV ⟨X, da', dc', ta', tc'⟩) 43)
      have hqx := heap_alloc_new w4 (.cells (holV ⟨X, da', dc', ta', tc'⟩) 43)
      have hpx5 := bx_below hpx gb
      obtain ⟨kq, hkq⟩ : ∃ kq, kq = w4.heap.size := ⟨_, rfl⟩
      rw [← hkq] at hqx
      rw [← hkq]
      generalize w4.alloc (.cells (holV ⟨X, da', dc', ta', tc'⟩) 43) = w5 at *
      have g45 := bstep ga gb
      have dp5 := dp.below g45
      have dq5 := dq.below g45
      have tp5 := tp.below g45
      have tq5 := tq.below g45
      have hc := fun (kk : Nat) (D : Option Addr) (E : Nat) (F : Option Addr) (G : Nat) (hh : w5.heap[kk]? = some (.cells (holV ⟨X, D, E, F, G⟩) 43 (0, 0))) => hol_cells hh
      obtain ⟨p0, p6, p7, p8, pr⟩ := hc _ _ _ _ _ hpx5
      obtain ⟨s0, s6, s7, s8, sr⟩ := hc _ _ _ _ _ hqx
      have n1 : (X.has != X.has) = false := by simp
      have n2 : (X.cr != X.cr) = false := by simp
      have n3 : (X.off != X.off) = false := by simp
      have kF := sameFrame_any w5 X.fr.id X.fr.ext X.fr.rem X.fr.dlc _ _ _ _ X.fr.id X.fr.ext X.fr.rem X.fr.dlc _ _ _ _ dp5 dq5
      rw [decide_eq_true rfl] at kF
      clear hc c2 rq rq4 hpx hb2' ga gb dp dq tp tq hkq
      go_wp2_with (first
        | (with_reducible refine wpList_loadMW rowF (by simp [Region.wanted, yielded, Act.put]) _ rfl kp _ rfl (frV X.fr da dc) pr rfl ?_)
        | (with_reducible refine wpList_loadMW rowF (by simp [Region.wanted, yielded, Act.put]) _ rfl kq _ rfl (frV X.fr da' dc') sr rfl ?_)
        | (go_at_call 16; with_reducible refine kF.mono ?_; rintro e w6 ⟨rfl, g6⟩
           have p66 := (hol_cells (bx_below hpx5 g6)).2.1
           have s66 := (hol_cells (bx_below hqx g6)).2.1
           have kS := same_any w6 _ _ _ _ _ _ _ _ (tp5.below g6) (tq5.below g6) (by dsimp only at ht ⊢; omega)
           rw [decide_eq_true rfl] at kS
           have G6 := bstep g45 g6
           clear p6 s6)
        | (go_at_call 17; with_reducible refine kS.mono ?_; rintro e w7 ⟨rfl, rfl⟩))
      go_roundg (n - (k + 1))
      case measure => omega
      case rel => exact ⟨k + 1, by omega, rfl, by first | rfl | simp, bstep HB.out G6⟩
    · obtain rfl : k = n := by omega
      go_wp2
      go_ret
      exact ⟨rfl, bstep g0 hb⟩

theorem ints_true (w : World) (a : Option Addr) (n c : Nat) (a' : Option Addr) (c' : Nat) (l : List Nat) (h : RL ivN w a n c l) (h' : RL ivN w a' n c' l) (hn : n ≤ 1000000) :
    Calls Try.prog 12 #[.slice a n c, .slice a' n c'] w fun e w' => e = .returned (.bool true) ∧ Below w.heap.size w w' := by
  have H := hid h
  have H' := hid h'
  clear h h'
  go_enter Try.func12, Try.ntmps12
  go_wp2
  go_loopg [13] n (fun gn vi wr => ∃ k : Nat, k ≤ n ∧ gn = n - k ∧ vi = .int .i64 (k : Int) ∧ Below w.heap.size w wr)
  case atStart => exact ⟨0, by omega, by omega, rfl, Below.refl _ _⟩
  case round =>
    obtain ⟨k, hk, rfl, rfl, hb⟩ := hrel
    by_cases hlt : k < n
    · have i1 : (k : Int) < (n : Int) := by omega
      obtain ⟨b0, off, x, rfl, hx, hc⟩ := (H.out.below hb).at hlt
      obtain ⟨b1, off', x', rfl, hx', hc'⟩ := (H'.out.below hb).at hlt
      obtain rfl : x = x' := by rw [hx] at hx'; exact Option.some.inj hx'
      have e0 : ((x : Int) != (x : Int)) = false := by simp
      clear hx hx'
      go_wp2
      go_quiet (fail)
      go_wp2
      go_roundg (n - (k + 1))
      case measure => omega
      case rel => exact ⟨k + 1, by omega, rfl, by first | rfl | simp, below_drewN hb _⟩
    · obtain rfl : k = n := by omega
      go_wp2
      go_ret
      exact ⟨rfl, hb⟩
end
end Go.Proofs.Ytihafoeimpjdaaa

namespace Go.Proofs.Ytihafoeimpjdaaa
open Go.RowKit Go.Sort Go.Maps
set_option linter.unusedVariables false
set_option linter.unusedSimpArgs false

/-- An event without a frame. -/
def maZ (what : Nat) (node frm : Int) : Ma := ⟨what, node, frm, zeroFr, none, 0⟩
theorem maZ_r (w : World) {what : Nat} {node frm : Int} (h1 : what < 256) (h2 : -1000 ≤ node ∧ node ≤ 1000) (h3 : -1000 ≤ frm ∧ frm ≤ 1000) : MaR w (maZ what node frm) :=
  ⟨RL.nil _ _ _ _, h1, by show (0 : Nat) < _; decide, by show (0 : Nat) < _; decide, by show _ ≤ node ∧ node ≤ _; omega, by show _ ≤ frm ∧ frm ≤ _; omega⟩

abbrev eG : Ev := (maZ 1 0 0).ev
abbrev eT2 : Ev := (maZ 4 2 0).ev
abbrev eS : Ev := (maZ 5 0 0).ev
abbrev eO1 : Ev := (maZ 6 1 0).ev
abbrev eC : Ev := (maZ 3 0 0).ev
abbrev eT1 : Ev := (maZ 4 1 0).ev
abbrev eT0 : Ev := (maZ 4 0 0).ev
abbrev eT01 : Ev := (maZ 4 0 1).ev
def aw1 : Lb := ⟨[⟨true, zeroFr, [false, false, true], false, false⟩, n0L, n0L], 0⟩
def aw2 : Lb := ⟨[n0L, n0L, n0L], 1⟩
def aw3 : Lb := ⟨[n0L, ⟨false, zeroFr, [], false, true⟩, n0L], 0⟩
def aw4 : Lb := ⟨[⟨true, zeroFr, [false, true, true], true, false⟩, n0L, n0L], 0⟩
theorem aw_r1 : ruL (newL 3) [eG, eT2] = (aw1, 2, true) := by rfl
theorem aw_m : misI aw1 0 = [1] := by rfl
theorem aw_s : stL aw1 eS = some aw2 := by rfl
theorem aw_r3 : ruL aw1 [eO1, eS] = (aw3, 2, true) := by rfl
theorem aw_r4 : ruL aw1 [eC, eT1, eS] = (aw4, 2, false) := by rfl
theorem aw_t0 : stL aw1 eT0 = none := by rfl
theorem aw_t1 : stL aw1 eT01 = none := by rfl
theorem aw1_K : LbK aw1 := by
  refine ⟨fun x hx => ?_, by decide, by decide, fun x hx => ?_⟩ <;>
  · simp only [aw1, List.mem_cons, List.not_mem_nil, or_false] at hx
    rcases hx with rfl | rfl | rfl <;> decide

section
variable {w : World} {a : Option Addr} {c sil : Nat} {hs : List Hol} {s0 t : Lb} {ms : List Ma}

/-- A run of literal events. -/
theorem run16_lit (h : BuR w a c hs) (hl : lbOf hs sil = s0) (hK : LbK s0) (hsl : sil ≤ 1000000) (ms : List Ma) (cs : Array Value) (hcs : cs.toList = ms.flatMap enMay) (n : Nat) (hn : ms.length = n) (hn9 : n ≤ 1000) (hm : ∀ w, ∀ m ∈ ms, MaR w m) {ok : Bool} {k : Nat} (hr : ruL s0 (ms.map Ma.ev) = (t, k, ok)) (N E : Int) (hN : (k : Int) = N) (hE : ruE ok = E) :
    Calls Try.prog 11 #[.agg #[.slice a hs.length c, .int .i64 (sil : Int)], .slice (some ⟨w.heap.size, 0, none⟩) n n] (w.alloc (.cells cs 36)) fun e w' => ∃ gN c hs sil, e = .returned (.tuple #[.agg (lcV gN hs.length c sil), .int .i64 N, .int .i64 E]) ∧ BuO w.heap.size w' gN c hs ∧ lbOf hs sil = t ∧ Below w.heap.size w w' := by
  have g := bnew0 w (.cells cs 36)
  have ho := ok_lit enMay_k 36 w.heap.size w ms cs n hcs hn (by omega) (Nat.le_refl _)
  refine (run16_any (sil := sil) (h.below g) (hl.symm ▸ hK) (ho.rk enMay_k) (hm _) (by omega)).mono fun e w' ⟨gN, c', hs', sil', he, hO, hL, hB⟩ => ?_
  rw [hl, hr] at he hL
  refine ⟨gN, c', hs', sil', by rw [he, ← hN, ← hE], hO.mono g.size, hL, bstep g hB⟩

/-- A literal event. -/
theorem step16_lit (h : BuR w a c hs) (hl : lbOf hs sil = s0) (hK : LbK s0) (hsl : sil ≤ 1000000) (m : Ma) (cs : Array Value) (hcs : cs = mayV m) (hm : MaR w m) {r : Option Lb} (hr : stL s0 m.ev = r) (E : Int) (hE : ruE r.isSome = E) :
    Calls Try.prog 9 #[.agg #[.slice a hs.length c, .int .i64 (sil : Int)], .agg cs] w fun e w' => ∃ gN c hs sil, e = .returned (.tuple #[.agg (lcV gN hs.length c sil), .int .i64 E]) ∧ BuO w.heap.size w' gN c hs ∧ lbOf hs sil = r.getD s0 ∧ Below w.heap.size w w' := by
  subst hcs
  refine (step16_any (sil := sil) h (hl.symm ▸ hK) hm (by omega)).mono fun e w' ⟨gN, c', hs', sil', he, hO, hL, hB⟩ => ?_
  rw [hl] at he hL
  refine ⟨gN, c', hs', sil', by rw [he]; unfold stE; rw [hr, hE], hO, by rw [hL, hr], hB⟩
theorem new16_lit (w : World) (N : Int) (n : Nat) (hN : N = (n : Int)) (h2 : 2 ≤ n) (h32 : n ≤ 32) :
    Calls Try.prog 6 #[.int .i64 N] w fun e w' => ∃ gN c hs sil, e = .returned (.tuple #[.agg (lcV gN hs.length c sil), .int .i64 0]) ∧ BuO w.heap.size w' gN c hs ∧ lbOf hs sil = newL n ∧ Below w.heap.size w w' := by
  subst hN
  refine (new16_any w n h2 h32).mono fun e w' ⟨gN, hs, he, hO, hL, hn, hB⟩ => ⟨gN, hs.length, hs, 0, he, hO, hL, hB⟩
theorem missing16_lit (h : BuR w a c hs) (hl : lbOf hs sil = s0) (hK : LbK s0) (n : Int) (M : List Nat) (hM : misI s0 n = M) (ln : Nat) (hln : M.length = ln) :
    Calls Try.prog 8 #[.agg #[.slice a hs.length c, .int .i64 (sil : Int)], .int .i64 n] w fun e w' => ∃ a' c', e = .returned (.slice a' ln c') ∧ RL ivN w' a' ln c' M ∧ Below w.heap.size w w' := by
  subst hln
  refine (missing16_any (sil := sil) h (hl.symm ▸ hK) n).mono fun e w' ⟨a', c', he, hO, hB⟩ => ?_
  rw [hl, hM] at he hO
  exact ⟨a', c', he, hO.rl, hB⟩
end
end Go.Proofs.Ytihafoeimpjdaaa

namespace Go.Proofs.Ytihafoeimpjdaaa
open Go.RowKit Go.Sort Go.Maps
set_option linter.unusedVariables false
set_option linter.unusedSimpArgs false

theorem hs_sil {hs : List Hol} {sil : Nat} {s : Lb} (h : lbOf hs sil = s) : sil = s.sil := congrArg Lb.sil h
theorem hs_len {hs : List Hol} {sil : Nat} {s : Lb} (h : lbOf hs sil = s) : hs.length = s.ns.length := by rw [← h, lb_len]
theorem hs_at {hs : List Hol} {sil i : Nat} {s : Lb} {x : Ln} (h : lbOf hs sil = s) (hx : s.ns[i]? = some x) : ∃ p, hs[i]? = some p ∧ p.x = x := by
  rw [← h] at hx
  simp only [lbOf, List.getElem?_map, Option.map_eq_some_iff] at hx
  exact hx

set_option maxRecDepth 100000 in
set_option maxHeartbeats 8000000 in
theorem awake16_any (w : World) :
    Calls Try.prog 7 #[] w fun e w' => e = .returned (.bool true) ∧ Below w.heap.size w w' := by
  have k0 := new16_lit w 3 3 rfl (by omega) (by omega)
  go_enter Try.func7, Try.ntmps7
  go_upto_region 2 with (first
    | (go_at_call 6; with_reducible refine k0.mono ?_; rintro e w1 ⟨g1, c1, h1, s1, rfl, o1, l1, b1⟩))
  have bxw2 := heap_alloc_new w1 (.cells (lcV g1 h1.length c1 s1) 25)
  have gbw2 := bnew0 w1 (.cells (lcV g1 h1.length c1 s1) 25)
  obtain ⟨kA, hkA⟩ : ∃ kA, kA = w1.heap.size := ⟨_, rfl⟩
  rw [← hkA] at bxw2
  rw [← hkA]
  generalize w1.alloc (.cells (lcV g1 h1.length c1 s1) 25) = w2 at *
  have o2 := o1.below gbw2
  have B2 := bstep b1 gbw2
  have hkA2 := hid hkA
  have b1s := b1.size
  clear o1 b1 gbw2 k0 hkA
  have e1 : s1 = 0 := hs_sil l1
  have k1 := run16_lit o2.read l1 (newL_K (by omega) (by omega)) (by omega) [maZ 1 0 0, maZ 4 2 0] #[.int .u8 1, .int .i64 0, .int .i64 0, .int .u32 0, .bool false, .bool false, .int .u8 0, .slice none 0 0, .int .u8 4, .int .i64 2, .int .i64 0, .int .u32 0, .bool false, .bool false, .int .u8 0, .slice none 0 0] rfl 2 rfl (by omega) (by intro w m hm; simp only [List.mem_cons, List.not_mem_nil, or_false] at hm; rcases hm with rfl | rfl <;> exact maZ_r w (by omega) (by omega) (by omega)) aw_r1 2 0 rfl rfl
  clear e1
  go_upto_region 3 with (first
    | (with_reducible refine wpList_loadR rowLc rfl _ rfl kA rfl bxw2 rfl ?_)
    | (go_at_call 11; with_reducible refine k1.mono ?_; rintro e w3 ⟨g3, c3, h3, s3, rfl, o3, l3, b3⟩
       have bx3 := bx_below bxw2 b3)
    | (with_reducible refine wpList_storeR rowLc rfl _ _ rfl kA (lcV g3 h3.length c3 s3) rfl rfl bx3 rfl rfl (by kernel_rfl) ?_))
  have bxA := setRow_heap _ _ _ (lcV g3 h3.length c3 s3) _ _ bx3
  have lkA := bx_lt bxw2
  have o4 : BuO w2.heap.size (w3.setRow kA (lcV g3 h3.length c3 s3)) g3 c3 h3 := o3.kept fun q hq _ => setRow_other _ _ _ _ (by omega)
  have gA : w.heap.size ≤ kA := by rw [hkA2.out]; exact b1s
  have B4 := below_setRow (bstep B2 b3) gA (lcV g3 h3.length c3 s3)
  clear o3 b3 bx3 bxw2 o2 B2 k1 l1 gA hkA2 b1s lkA
  generalize w3.setRow kA (lcV g3 h3.length c3 s3) = w4 at *
  have e3 : s3 = 0 := hs_sil l3
  have E3 := hid e3
  clear e3
  have kM := missing16_lit o4.read l3 aw1_K 0 [1] aw_m 1 rfl
  go_upto_region 5 with (first
    | (with_reducible refine wpList_loadW rowLc (by simp [Region.wanted, yielded, Act.put]) _ rfl kA rfl bxA rfl ?_)
    | (go_at_call 8; with_reducible refine kM.mono ?_; rintro e w5 ⟨a5, c5, rfl, r5, b5⟩
       have gi := bnew0 w5 (.cells #[.int .i64 1] 3)
       have kI := ints_true (w5.alloc (.cells #[.int .i64 1] 3)) a5 1 c5 (some ⟨w5.heap.size, 0, none⟩) 1 [1] (r5.below gi) (ol_lit ivN 3 w5.heap.size w5 [1] #[.int .i64 1] 1 rfl rfl (by omega) (Nat.le_refl _)).rl (by omega))
    | (go_at_call 12; with_reducible refine kI.mono ?_; rintro e w6 ⟨rfl, b6⟩))
  have g46 := bstep b5 (bstep gi b6)
  have bx6 := bx_below bxA g46
  have o6 := o4.below g46
  have B6 := bstep B4 g46
  clear b5 gi b6 g46 kM kI r5 bxA o4 B4
  have kS := step16_lit o6.read l3 aw1_K (by have := E3.out; omega) (maZ 5 0 0) #[.int .u8 5, .int .i64 0, .int .i64 0, .int .u32 0, .bool false, .bool false, .int .u8 0, .slice none 0 0] rfl (maZ_r _ (by omega) (by omega) (by omega)) aw_s 0 rfl
  go_upto_region 6 with (first
    | (with_reducible refine wpList_loadR rowLc rfl _ rfl kA rfl bx6 rfl ?_)
    | (go_at_call 9; with_reducible refine kS.mono ?_; rintro e w7 ⟨ga, ca, ha, sa, rfl, oa, la, b7⟩))
  have bx7 := bx_below bx6 b7
  have o7 := o6.below b7
  have B7 := bstep B6 b7
  clear bx6 o6 B6 b7 kS oa
  have bxw8 := heap_alloc_new w7 (.cells (lcV ga ha.length ca sa) 25)
  have gbw8 := bnew0 w7 (.cells (lcV ga ha.length ca sa) 25)
  obtain ⟨kB, hkB⟩ : ∃ kB, kB = w7.heap.size := ⟨_, rfl⟩
  rw [← hkB] at bxw8
  rw [← hkB]
  generalize w7.alloc (.cells (lcV ga ha.length ca sa) 25) = w8 at *
  have bxA8 := bx_below bx7 gbw8
  have o8 := o7.below gbw8
  have B8 := bstep B7 gbw8
  have eA : sa = 1 := hs_sil la
  have EA := hid eA
  clear bx7 o7 B7 gbw8 hkB la eA
  have k6 := run16_lit o8.read l3 aw1_K (by have := E3.out; omega) [maZ 6 1 0, maZ 5 0 0] #[.int .u8 6, .int .i64 1, .int .i64 0, .int .u32 0, .bool false, .bool false, .int .u8 0, .slice none 0 0, .int .u8 5, .int .i64 0, .int .i64 0, .int .u32 0, .bool false, .bool false, .int .u8 0, .slice none 0 0] rfl 2 rfl (by omega) (by intro w m hm; simp only [List.mem_cons, List.not_mem_nil, or_false] at hm; rcases hm with rfl | rfl <;> exact maZ_r w (by omega) (by omega) (by omega)) aw_r3 2 0 rfl rfl
  go_upto_region 7 with (first
    | (with_reducible refine wpList_loadR rowLc rfl _ rfl kA rfl bxA8 rfl ?_)
    | (go_at_call 11; with_reducible refine k6.mono ?_; rintro e w9 ⟨gb, cb, hb, sb, rfl, ob, lb, b9⟩))
  have bxA9 := bx_below bxA8 b9
  have bxB9 := bx_below bxw8 b9
  have o9 := o8.below b9
  have B9 := bstep B8 b9
  clear bxA8 bxw8 o8 B8 b9 k6 ob
  have bxw10 := heap_alloc_new w9 (.cells (lcV gb hb.length cb sb) 25)
  have gbw10 := bnew0 w9 (.cells (lcV gb hb.length cb sb) 25)
  obtain ⟨kC, hkC⟩ : ∃ kC, kC = w9.heap.size := ⟨_, rfl⟩
  rw [← hkC] at bxw10
  rw [← hkC]
  generalize w9.alloc (.cells (lcV gb hb.length cb sb) 25) = w10 at *
  have bxA10 := bx_below bxA9 gbw10
  have bxB10 := bx_below bxB9 gbw10
  have o10 := o9.below gbw10
  have B10 := bstep B9 gbw10
  have eB : sb = 0 := hs_sil lb
  have EB := hid eB
  clear bxA9 bxB9 o9 B9 gbw10 hkC lb eB
  have k7 := run16_lit o10.read l3 aw1_K (by have := E3.out; omega) [maZ 3 0 0, maZ 4 1 0, maZ 5 0 0] #[.int .u8 3, .int .i64 0, .int .i64 0, .int .u32 0, .bool false, .bool false, .int .u8 0, .slice none 0 0, .int .u8 4, .int .i64 1, .int .i64 0, .int .u32 0, .bool false, .bool false, .int .u8 0, .slice none 0 0, .int .u8 5, .int .i64 0, .int .i64 0, .int .u32 0, .bool false, .bool false, .int .u8 0, .slice none 0 0] rfl 3 rfl (by omega) (by intro w m hm; simp only [List.mem_cons, List.not_mem_nil, or_false] at hm; rcases hm with rfl | rfl | rfl <;> exact maZ_r w (by omega) (by omega) (by omega)) aw_r4 2 160 rfl rfl
  go_upto_region 8 with (first
    | (with_reducible refine wpList_loadR rowLc rfl _ rfl kA rfl bxA10 rfl ?_)
    | (go_at_call 11; with_reducible refine k7.mono ?_; rintro e w11 ⟨gc, cc, hc, sc, rfl, oc, lc, b11⟩))
  have bxA11 := bx_below bxA10 b11
  have bxB11 := bx_below bxB10 b11
  have bxC11 := bx_below bxw10 b11
  have o11 := o10.below b11
  have B11 := bstep B10 b11
  clear bxA10 bxB10 bxw10 o10 B10 b11 k7
  have bxw12 := heap_alloc_new w11 (.cells (lcV gc hc.length cc sc) 25)
  have gbw12 := bnew0 w11 (.cells (lcV gc hc.length cc sc) 25)
  obtain ⟨kD, hkD⟩ : ∃ kD, kD = w11.heap.size := ⟨_, rfl⟩
  rw [← hkD] at bxw12
  rw [← hkD]
  generalize w11.alloc (.cells (lcV gc hc.length cc sc) 25) = w12 at *
  have bxA12 := bx_below bxA11 gbw12
  have dB := (two_lc (bx_below bxB11 gbw12)).2
  have dC := (two_lc (bx_below bxC11 gbw12)).2
  have dD := (two_lc bxw12).1
  rw [EA.out] at dB
  rw [EB.out] at dC
  have o12 := o11.below gbw12
  have oc12 := oc.below gbw12
  have B12 := bstep B11 gbw12
  clear bxA11 bxB11 bxC11 o11 B11 gbw12 hkD oc bxw12
  have hcl : hc.length = 3 := hs_len lc
  obtain ⟨p0, hp0, hpx⟩ := hs_at (i := 0) (x := ⟨true, zeroFr, [false, true, true], true, false⟩) lc rfl
  have d6 : w12.cell? ⟨gc, 6, none⟩ = some (.slice p0.ta 3 p0.tc) := by
    have := oc12.cell (i := 0) (j := 6) hp0 rfl
    rw [hpx] at this; exact this
  have ht := (oc12.tok p0 (List.mem_of_getElem? hp0)).rl
  rw [hpx] at ht
  obtain ⟨bt, bo, bb, hta, hbb, hck⟩ := ht.at (k := 1) (by decide)
  obtain rfl : bb = true := by simpa using hbb.symm
  rw [hta] at d6
  have i0 : (0 : Int) < (hc.length : Int) := by omega
  have kT0 := step16_lit o12.read l3 aw1_K (by have := E3.out; omega) (maZ 4 0 0) #[.int .u8 4, .int .i64 0, .int .i64 0, .int .u32 0, .bool false, .bool false, .int .u8 0, .slice none 0 0] rfl (maZ_r _ (by omega) (by omega) (by omega)) aw_t0 160 rfl
  clear hcl hp0 hpx ht hta hbb lc oc12
  go_wp2_with (first
    | (with_reducible refine wpList_loadW rowLc (by simp [Region.wanted, yielded, Act.put]) _ rfl kA rfl bxA12 rfl ?_)
    | (go_at_call 9; with_reducible refine kT0.mono ?_; rintro e w13 ⟨gd, cd, hd, sd, rfl, od, ld, b13⟩
       have kW1 := wrong16_any w13 (.slice (some ⟨gd, 0, none⟩) hd.length cd) (.int .i64 (sd : Int)) 160
       have bxA13 := bx_below bxA12 b13
       have o13 := o12.below b13
       have B13 := bstep B12 b13
       clear bxA12 o12 B12)
    | (go_at_call 13; with_reducible refine kW1.mono ?_; rintro e w14 ⟨rfl, b14⟩
       have bxA14 := bx_below bxA13 b14
       have o14 := o13.below b14
       have B14 := bstep B13 b14
       have kT1 := step16_lit o14.read l3 aw1_K (by have := E3.out; omega) (maZ 4 0 1) #[.int .u8 4, .int .i64 0, .int .i64 1, .int .u32 0, .bool false, .bool false, .int .u8 0, .slice none 0 0] rfl (maZ_r _ (by omega) (by omega) (by omega)) aw_t1 160 rfl
       clear bxA13 o13 B13 kW1)
    | (with_reducible refine wpList_loadW rowLc (by simp [Region.wanted, yielded, Act.put]) _ rfl kA rfl bxA14 rfl ?_)
    | (go_at_call 9; with_reducible refine kT1.mono ?_; rintro e w15 ⟨ge, ce, he, se, rfl, oe, le, b15⟩
       have kW2 := wrong16_any w15 (.slice (some ⟨ge, 0, none⟩) he.length ce) (.int .i64 (se : Int)) 160
       have B15 := bstep B14 b15)
    | (go_at_call 13; with_reducible refine kW2.mono ?_; rintro e w16 ⟨rfl, b16⟩))
  go_ret
  exact ⟨rfl, bstep B15 b16⟩
end Go.Proofs.Ytihafoeimpjdaaa

namespace Go.Proofs.Ytihafoeimpjdaaa
open Go.RowKit Go.Sort Go.Maps
set_option linter.unusedVariables false
set_option linter.unusedSimpArgs false

section
variable {w w0 w1 wr : World} {a a' : Option Addr} {c c' sil sil' k kS B gN n : Nat} {hs hs' : List Hol} {s0 t : Lb} {m : Ma}

theorem sameLcan_ex (h : BuR w a c hs) (h' : BuR w a' c' hs') (he : lbOf hs sil = lbOf hs' sil') (hK : LbK (lbOf hs sil)) :
    Calls Try.prog 10 #[.agg #[.slice a hs.length c, .int .i64 (sil : Int)], .agg #[.slice a' hs'.length c', .int .i64 (sil' : Int)]] w fun e w' => e = .returned (.bool true) ∧ Below w.heap.size w w' := by
  have e1 : hs.map Hol.x = hs'.map Hol.x := congrArg Lb.ns he
  have e2 : sil = sil' := congrArg Lb.sil he
  have e3 : hs'.length = hs.length := by have := congrArg List.length e1; simpa using this.symm
  have h32 := hK.n32
  rw [lb_len] at h32
  rw [e3, ← e2]
  refine sameLcan_true h h' e1 rfl e3 (fun x hx => ?_) (by omega) _
  have := hK.tk x.x (List.mem_map.2 ⟨x, hx, rfl⟩)
  rw [this, lb_len]
  split <;> omega

/-- A bus that a variable holds. -/
structure BxL (B : Nat) (wr : World) (kS gN c : Nat) (hs : List Hol) (sil : Nat) (s : Lb) : Prop where
  box : wr.heap[kS]? = some (.cells (lcV gN hs.length c sil) 25 (0, 0))
  own : BuO B wr gN c hs
  lb : lbOf hs sil = s
theorem BxL.below (h : BxL B w kS gN c hs sil s0) (g : Below w.heap.size w w1) : BxL B w1 kS gN c hs sil s0 := ⟨bx_below h.box g, h.own.below g, h.lb⟩
theorem BxL.len (h : BxL B w kS gN c hs sil s0) : hs.length = s0.ns.length := by rw [← h.lb, lb_len]
theorem BxL.sl (h : BxL B w kS gN c hs sil s0) : sil = s0.sil := by rw [← h.lb]; rfl
/-- Another box is written. -/
theorem BxL.other (h : BxL B w kS gN c hs sil s0) {g : Nat} (hg : g ≠ kS) (hB : g < B) (cs : Array Value) : BxL B (w.setRow g cs) kS gN c hs sil s0 :=
  ⟨(setRow_other _ _ _ _ (Ne.symm hg)).trans h.box, h.own.kept fun b hb _ => setRow_other _ _ _ _ (by omega), h.lb⟩
/-- What a call told, put into a new box. -/
theorem BxL.new (h : BuO B w gN c hs) (hl : lbOf hs sil = s0) : BxL B (w.alloc (.cells (lcV gN hs.length c sil) 25)) w.heap.size gN c hs sil s0 := ⟨heap_alloc_new w _, h.below (bnew0 w _), hl⟩
/-- .. put into an elder box. -/
theorem BxL.put (h : BuO B w gN c hs) (hl : lbOf hs sil = s0) {old : Array Value} (hk : w.heap[kS]? = some (.cells old 25 (0, 0))) (hB : kS < B) : BxL B (w.setRow kS (lcV gN hs.length c sil)) kS gN c hs sil s0 :=
  ⟨setRow_heap _ _ _ _ _ _ hk, h.kept fun b hb _ => setRow_other _ _ _ _ (by omega), hl⟩

theorem step16_bx (h : BxL B w kS gN c hs sil s0) (hK : LbK s0) (hm : MaR w m) (hbd : s0.sil + 1 ≤ 1000000000) :
    Calls Try.prog 9 #[.agg (lcV gN hs.length c sil), .agg (mayV m)] w (StpR w s0 m.ev) := by
  have := step16_any (sil := sil) h.own.read (h.lb.symm ▸ hK) hm (by have := h.sl; omega)
  rw [h.lb] at this
  exact this

theorem stE_none {e : Ev} (h : stL s0 e = none) : stE s0 e = 160 := by unfold stE; rw [h]; rfl
theorem stE_some {e : Ev} (h : stL s0 e = some t) : stE s0 e = 0 := by unfold stE; rw [h]; rfl
/-- A result of Step, its error by name. -/
def StpE (w : World) (E : Int) (t : Lb) (e : Ending) (w' : World) : Prop :=
  ∃ gN c hs sil, e = .returned (.tuple #[.agg (lcV gN hs.length c sil), .int .i64 E]) ∧ BuO w.heap.size w' gN c hs ∧ lbOf hs sil = t ∧ Below w.heap.size w w'
theorem stp_none {e : Ev} {r : Ending} (h : StpR w s0 e r w1) (hs : stL s0 e = none) : StpE w 160 s0 r w1 := by
  obtain ⟨gN, c, hs', sil, h1, h2, h3, h4⟩ := h
  rw [stE_none hs] at h1
  rw [hs] at h3
  exact ⟨gN, c, hs', sil, h1, h2, h3, h4⟩
theorem stp_some {e : Ev} {r : Ending} (h : StpR w s0 e r w1) (hs : stL s0 e = some t) : StpE w 0 t r w1 := by
  obtain ⟨gN, c, hs', sil, h1, h2, h3, h4⟩ := h
  rw [stE_some hs] at h1
  rw [hs] at h3
  exact ⟨gN, c, hs', sil, h1, h2, h3, h4⟩
/-- The bus behind an event, whether it may be or not. -/
def nextL (s : Lb) (e : Ev) : Lb := (stL s e).getD s
theorem nextL_K {e : Ev} (hK : LbK s0) (he : e.ok = true → e.fr.data.length ≤ 1000) : LbK (nextL s0 e) ∧ (nextL s0 e).sil ≤ s0.sil + 1 ∧ (nextL s0 e).ns.length = s0.ns.length := by
  unfold nextL
  cases h : stL s0 e with
  | none => exact ⟨hK, Nat.le_succ _, rfl⟩
  | some t => obtain ⟨h1, h2⟩ := hK.step he h; exact ⟨h1, h2, stL_len h⟩
end
end Go.Proofs.Ytihafoeimpjdaaa

namespace Go.Proofs.Ytihafoeimpjdaaa
open Go.RowKit Go.ChangeShapes Go.WideShapes Go.ChangeAt Go.Deep
set_option linter.unusedVariables false
set_option linter.unusedSimpArgs false

/-- A list of events, read. -/
structure MysR (w : World) (a : Option Addr) (n c : Nat) (ms : List Ma) : Prop where
  row : RK enMay 8 w a n c ms
  each : ∀ m ∈ ms, MaR w m

section
variable {H : Type} {enc : TypeId × Value → H} {P : Program} {W : World}
set_option maxRecDepth 100000 in
/-- The eight cells of an event, read. -/
theorem cells_may {n0 : Nat} {cs : List Value} {x : DataW H × List MemPlace} (h : DataW.trod enc Try.prog W 0 (fun _ => true) true n0 36 cs = some x) : ∃ m : Ma, cs = enMay m ∧ MaR W m := by
  obtain ⟨zs, k, hn', hx', hlen', hl', hff⟩ := DataW.trod_struct Try.underlying36 h
  have hc8 : cs.length = 8 := hlen'
  match cs, hc8 with
  | [e0, e1, e2, e3, e4, e5, e6, e7], _ =>
  match zs, hl' with
  | [y0, y1, y2, y3], _ =>
  have g0 : DataW.trod enc Try.prog W 0 (fun _ => true) true k 5 (([e0, e1, e2, e3, e4, e5, e6, e7].drop 0).take (Try.prog.cellsOf 5)) = [y0, y1, y2, y3][0]? := hff 0 _ rfl
  have g1 : DataW.trod enc Try.prog W 0 (fun _ => true) true k 3 (([e0, e1, e2, e3, e4, e5, e6, e7].drop 1).take (Try.prog.cellsOf 3)) = [y0, y1, y2, y3][1]? := hff 1 _ rfl
  have g2 : DataW.trod enc Try.prog W 0 (fun _ => true) true k 3 (([e0, e1, e2, e3, e4, e5, e6, e7].drop 2).take (Try.prog.cellsOf 3)) = [y0, y1, y2, y3][2]? := hff 2 _ rfl
  have g3 : DataW.trod enc Try.prog W 0 (fun _ => true) true k 34 (([e0, e1, e2, e3, e4, e5, e6, e7].drop 3).take (Try.prog.cellsOf 34)) = [y0, y1, y2, y3][3]? := hff 3 _ rfl
  rw [show Try.prog.cellsOf 5 = 1 by kernel_rfl] at g0
  rw [show Try.prog.cellsOf 3 = 1 by kernel_rfl] at g1 g2
  rw [show Try.prog.cellsOf 34 = 5 by kernel_rfl] at g3
  simp at g0 g1 g2 g3
  obtain ⟨x0, k0, _, z0⟩ := DataW.trod_int (show Try.prog.underlying 5 = some (.int .u8) by kernel_rfl) g0
  obtain ⟨x1, k1, _, z1⟩ := DataW.trod_int (show Try.prog.underlying 3 = some (.int .i64) by kernel_rfl) g1
  obtain ⟨x2, k2, _, z2⟩ := DataW.trod_int (show Try.prog.underlying 3 = some (.int .i64) by kernel_rfl) g2
  obtain ⟨p, hp, hp1, hp2, hp3, hp4⟩ := cells_fr g3
  simp at k0 k1 k2
  subst k0 k1 k2
  have w0 : 0 ≤ x0 ∧ x0 ≤ 255 := by simpa [Lit.wf, IntKind.min, IntKind.max, IntKind.signed, IntKind.bits] using z0
  have w1 : -9223372036854775808 ≤ x1 ∧ x1 ≤ 9223372036854775807 := by simpa [Lit.wf, IntKind.min, IntKind.max, IntKind.signed, IntKind.bits] using z1
  have w2 : -9223372036854775808 ≤ x2 ∧ x2 ≤ 9223372036854775807 := by simpa [Lit.wf, IntKind.min, IntKind.max, IntKind.signed, IntKind.bits] using z2
  obtain ⟨y0', rfl⟩ := Int.eq_ofNat_of_zero_le w0.1
  refine ⟨⟨y0', x1, x2, p.1, p.2.1, p.2.2⟩, ?_, hp3, by show y0' < 256; omega, hp1, hp2, w1, w2⟩
  have hp' : [e3, e4, e5, e6, e7] = enF p := hp
  simp only [enF, List.cons.injEq] at hp'
  obtain ⟨rfl, rfl, rfl, rfl, rfl, _⟩ := hp'
  rfl
end

set_option maxRecDepth 100000 in
theorem arg_mays {H : Type} {enc : TypeId × Value → H} {W : World} {r : Reach} {b0 : Nat} {v : Value} {d : DataW H} {ps : List MemPlace}
    (hval : Value.okWide Try.prog W r b0 22 v) (h : DataW.Trod enc Try.prog W 0 (fun _ => true) true 22 v d ps) :
    ∃ a n c ms, v = .slice a n c ∧ MysR W a n c ms ∧ n ≤ 9223372036854775807 := by
  obtain ⟨a, n, c, rfl⟩ := okWide_slice Try.underlying22 hval
  obtain ⟨fuel, hf⟩ := h
  rcases open_slice Try.underlying22 hf with ⟨hcs, _⟩ | ⟨ad, len, cap, m, nn, D, plc, hcs, hb, hl, hm, hmm, hd, hcell⟩
  · simp [Value.cells] at hcs
    obtain ⟨rfl, rfl, rfl⟩ := hcs
    exact ⟨none, 0, 0, [], rfl, ⟨RK.nil _ _ _ _ _, by simp⟩, by omega⟩
  · simp [Value.cells] at hcs
    obtain ⟨rfl, rfl, rfl⟩ := hcs
    simp only [if_true] at hmm
    subst hmm
    have each : ∀ i, i < m → ∃ q : Ma, (∀ j v, (enMay q)[j]? = some v → W.cell? (ad.add (i * 8 + j)) = some v) ∧ MaR W q := fun i hi => by
      obtain ⟨cs', h1, h2⟩ := hcell i hi
      rw [show Try.prog.cellsOf 36 = 8 by kernel_rfl] at h1
      obtain ⟨_, hlen, hc⟩ := World.cells?_some h1
      obtain ⟨q, hq, hR⟩ := cells_may h2
      refine ⟨q, fun j v hj => ?_, hR⟩
      have hj8 : j < 8 := by have := (List.getElem?_eq_some_iff.1 hj).1; simpa [enMay] using this
      rw [← hq] at hj
      have := hc j hj8
      rw [add_add] at this
      rw [this]; exact hj
    have : ∃ q : Nat → Ma, ∀ i, i < m → (∀ j v, (enMay (q i))[j]? = some v → W.cell? (ad.add (i * 8 + j)) = some v) ∧ MaR W (q i) := by
      refine ⟨fun i => if hi : i < m then Classical.choose (each i hi) else ⟨0, 0, 0, zeroFr, none, 0⟩, fun i hi => ?_⟩
      have := Classical.choose_spec (each i hi)
      simpa [hi] using this
    obtain ⟨q, hq⟩ := this
    have hmem : ∀ x ∈ (List.range n).map q, ∃ i, i < m ∧ q i = x := fun x hx => by
      obtain ⟨i, hi, rfl⟩ := List.mem_map.1 hx
      exact ⟨i, by have := List.mem_range.1 hi; omega, rfl⟩
    refine ⟨some ad, n, m, (List.range n).map q, rfl, ⟨⟨by simp, hl, fun hn => ?_⟩, fun x hx => ?_⟩, by unfold maxLen at hm; omega⟩
    · have h00 := (hq 0 (by omega)).1 0 _ rfl
      obtain ⟨b, off, spot⟩ := ad
      have hspot : spot = none := by simpa [Addr.add] using World.cell?_spot h00
      subst hspot
      refine ⟨b, off, rfl, ?_, fun i x j v hx hv => ?_⟩
      · have := World.block_lt_of_cell? W _ h00
        simpa [Addr.add] using this
      · have hi : i < n := by
          have := (List.getElem?_eq_some_iff.1 hx).1
          simpa using this
        simp [hi] at hx
        subst hx
        have := (hq i (by omega)).1 j v hv
        rwa [Addr.add_lit] at this
    · obtain ⟨i, hi, rfl⟩ := hmem x hx; exact (hq i hi).2

set_option maxRecDepth 100000 in
theorem arg_may {H : Type} {enc : TypeId × Value → H} {W : World} {r : Reach} {b0 : Nat} {v : Value} {d : DataW H} {ps : List MemPlace}
    (hval : Value.okWide Try.prog W r b0 36 v) (h : DataW.Trod enc Try.prog W 0 (fun _ => true) true 36 v d ps) : ∃ m : Ma, v = .agg (mayV m) ∧ MaR W m := by
  obtain ⟨cs, rfl, hsz⟩ := okWide_struct Try.underlying36 hval
  obtain ⟨fuel, hf⟩ := h
  obtain ⟨m, hp, h1⟩ := cells_may hf
  refine ⟨m, ?_, h1⟩
  have : cs.toList = enMay m := hp
  rw [← Array.toArray_toList (xs := cs), this]
  rfl
end Go.Proofs.Ytihafoeimpjdaaa

namespace Go.Proofs.Ytihafoeimpjdaaa
open Go.RowKit Go.Sort Go.Maps
set_option linter.unusedVariables false
set_option linter.unusedSimpArgs false

theorem draw_allocL {ops : Array Oper} {Q : Exit → Act → World → Prop} {a : Act} {w : World} {o : Oper} {K : Act → World → Prop} (hgd : o.guard = none) (ho : o.op = .alloc 25)
    (h : ∀ w' g, w'.heap[g]? = some (.cells lcZ 25 (0, 0)) → Below w.heap.size w w' → w.heap.size ≤ g → g < w'.heap.size → K (a.put o.dst (.pointer (some ⟨g, 0, none⟩))) w') :
    if Region.wanted o (yielded ops a.tmps) = true then Oper.wp Try.prog o a w K Q else K (a.put o.dst undef) w := by
  rw [if_pos (by simp [Region.wanted, hgd])]
  unfold Oper.wp
  have e : (execOp a.eval o).run Try.prog w = .ok (.value (.pointer (some ⟨w.heap.size, 0, none⟩))) (w.alloc (.cells lcZ 25)) := by
    obtain ⟨d, op, t, p, af, gd⟩ := o
    dsimp only at ho
    subst ho
    kernel_rfl
  rw [e]
  exact h _ _ (heap_alloc_new _ _) (bnew0 w _) (Nat.le_refl _) (by simp)

/-- A result of Run, its numbers by name. -/
def RunE (w : World) (N E : Int) (t : Lb) (e : Ending) (w' : World) : Prop :=
  ∃ gN c hs sil, e = .returned (.tuple #[.agg (lcV gN hs.length c sil), .int .i64 N, .int .i64 E]) ∧ BuO w.heap.size w' gN c hs ∧ lbOf hs sil = t ∧ Below w.heap.size w w'
/-- A run's bus in a fresh box. -/
structure DrX (W wx : World) (kX gN c : Nat) (hs : List Hol) (sil : Nat) (t : Lb) : Prop where
  bx : BxL W.heap.size wx kX gN c hs sil t
  n1 : kX ≠ gN
  n2 : ∀ h ∈ hs, NB h.ta kX
  lo : W.heap.size ≤ kX
  bel : Below W.heap.size W wx

section
variable {W w1 w2 w w' wr : World} {kX gN c sil B B9 B12 kB gb cb nb i j bt : Nat} {hs : List Hol} {s0 t : Lb} {x y : Hol} {l : List Ev} {a : Option Addr}

theorem run16_bx (h : BuR w a c hs) (hl : lbOf hs sil = s0) (hK : LbK s0) {la : Option Addr} {ln lc : Nat} {ms : List Ma} (hr : RK enMay 8 w la ln lc ms) (hm : ∀ m ∈ ms, MaR w m) (hbd : s0.sil + ms.length ≤ 1000000000) {k : Nat} {ok : Bool} (hru : ruL s0 (ms.map Ma.ev) = (t, k, ok)) {N E : Int} (hN : (k : Int) = N) (hE : ruE ok = E) :
    Calls Try.prog 11 #[.agg #[.slice a hs.length c, .int .i64 (sil : Int)], .slice la ln lc] w (RunE w N E t) := by
  have hsl : sil = s0.sil := by rw [← hl]; rfl
  refine (run16_any (sil := sil) h (hl.symm ▸ hK) hr hm (by omega)).mono fun e w' ⟨gN, c', hs', sil', he, hO, hL, hB⟩ => ?_
  rw [hl, hru] at he hL
  exact ⟨gN, c', hs', sil', by rw [he, ← hN, ← hE], hO, hL, hB⟩

theorem ruL_K : ∀ (l : List Ev) (s : Lb), LbK s → (∀ e ∈ l, e.ok = true → e.fr.data.length ≤ 1000) → LbK (ruL s l).1 ∧ (ruL s l).1.sil ≤ s.sil + l.length ∧ (ruL s l).1.ns.length = s.ns.length
  | [], s, h, _ => ⟨h, Nat.le_refl _, rfl⟩
  | e :: l, s, h, he => by
    rcases Option.eq_none_or_eq_some (stL s e) with hs | ⟨t, hs⟩
    · rw [ruL_none _ hs]; exact ⟨h, by dsimp only; omega, rfl⟩
    · rw [ruL_some _ hs]
      obtain ⟨h1, h2⟩ := h.step (he e (by simp)) hs
      obtain ⟨h3, h4, h5⟩ := ruL_K l t h1 (fun e' he' => he e' (by simp [he']))
      exact ⟨h3, by dsimp only; rw [List.length_cons]; omega, by dsimp only; rw [h5, stL_len hs]⟩
theorem evs_ok (ms : List Ma) : ∀ e ∈ ms.map Ma.ev, e.ok = true → e.fr.data.length ≤ 1000 := fun e he => by
  obtain ⟨m, _, rfl⟩ := List.mem_map.1 he
  exact ev_len
/-- First the run, then the box. -/
theorem DrX.first (b : Below W.heap.size W w1) (o : BuO B w1 gN c hs) (hBW : W.heap.size ≤ B) (hl : lbOf hs sil = t) (g : Below w1.heap.size w1 w2) (h : w2.heap[kX]? = some (.cells lcZ 25 (0, 0))) (hk : w1.heap.size ≤ kX) (h2 : 0 < hs.length) :
    DrX W (w2.setRow kX (lcV gN hs.length c sil)) kX gN c hs sil t := by
  have hg := (o.nlt h2).1
  have bs := b.size
  refine ⟨⟨setRow_heap _ _ _ _ _ _ h, (o.kept fun q hq hql => (setRow_other _ _ _ _ (by omega)).trans (g.block q hql)).mono hBW, hl⟩, by omega, fun z hz p hp e => ?_, by omega, below_setRow (b.trans (g.mono bs)) (by omega) _⟩
  have := ((o.tok z hz).ltB hp).1; omega
/-- First the box, then the run. -/
theorem DrX.second (b : Below W.heap.size W w2) (o : BuO B w2 gN c hs) (hl : lbOf hs sil = t) (h : w2.heap[kX]? = some (.cells lcZ 25 (0, 0))) (hk : kX < B) (hW : W.heap.size ≤ kX) (h2 : 0 < hs.length) :
    DrX W (w2.setRow kX (lcV gN hs.length c sil)) kX gN c hs sil t := by
  have hg := (o.nlt h2).2
  refine ⟨⟨setRow_heap _ _ _ _ _ _ h, (o.kept fun q hq hql => setRow_other _ _ _ _ (by omega)).mono (by omega), hl⟩, by omega, fun z hz p hp e => ?_, hW, below_setRow b hW _⟩
  have := ((o.tok z hz).ltB hp).2; omega

def markV (y : Hol) (i : Nat) (v : Bool) : Hol := { y with x := { y.x with took := y.x.took.set i v } }
theorem BuO.markV (h : BuO B w gN c hs) (hj : hs[j]? = some y) (hta : y.ta = some ⟨bt, 0, none⟩) (v : Bool) : BuO B (w.setCell ⟨bt, i, none⟩ (.bool v)) gN c (hs.set j (markV y i v)) := by
  have hy := List.mem_of_getElem? hj
  have hn := (List.getElem?_eq_some_iff.1 hj).1
  have k : ∀ b, b ≠ bt → (w.setCell ⟨bt, i, none⟩ (.bool v)).heap[b]? = w.heap[b]? := fun b hb => Below.heap_setCell _ _ _ _ hb
  have e1 : gN ≠ bt := fun e => h.tn y hy _ hta (by simpa using e.symm)
  have hg : ∀ z ∈ hs.set j (Go.Proofs.Ytihafoeimpjdaaa.markV y i v), z = Go.Proofs.Ytihafoeimpjdaaa.markV y i v ∨ ∃ l, l ≠ j ∧ hs[l]? = some z := fun z hz => by
    obtain ⟨l, hl⟩ := List.getElem?_of_mem hz
    by_cases e : l = j
    · subst e; rw [List.getElem?_set_self hn] at hl; exact .inl (Option.some.inj hl).symm
    · rw [List.getElem?_set_ne (Ne.symm e)] at hl; exact .inr ⟨l, e, hl⟩
  have hm : ∀ z ∈ hs.set j (Go.Proofs.Ytihafoeimpjdaaa.markV y i v), ∃ z', z' ∈ hs ∧ z.ta = z'.ta ∧ z.da = z'.da ∧ z.x.fr = z'.x.fr ∧ z.dc = z'.dc := fun z hz => by
    rcases List.mem_or_eq_of_mem_set hz with hz | rfl
    · exact ⟨z, hz, rfl, rfl, rfl, rfl⟩
    · exact ⟨y, hy, rfl, rfl, rfl, rfl⟩
  have hi' : ∀ (l : Nat) (z : Hol), (hs.set j (Go.Proofs.Ytihafoeimpjdaaa.markV y i v))[l]? = some z → ∃ z', hs[l]? = some z' ∧ z.ta = z'.ta := fun l z hz => by
    by_cases e : l = j
    · subst e; rw [List.getElem?_set_self hn] at hz; cases hz; exact ⟨y, hj, rfl⟩
    · rw [List.getElem?_set_ne (Ne.symm e)] at hz; exact ⟨z, hz, rfl⟩
  refine ⟨?_, fun z hz => ?_, fun z hz => ?_, fun z hz => ?_, fun z hz => ?_, fun z hz u hu p q hp hq => ?_, fun l l' z u p q hll hz hu hp hq => ?_, fun z hz => ?_, fun z hz => ?_⟩
  · rw [List.length_set]
    exact OK.congr (h.row.kept fun q hq => by cases hq; exact k gN e1) (flat_same hj (by unfold enHol Go.Proofs.Ytihafoeimpjdaaa.markV; simp)) (by simp)
  · rcases hg z hz with rfl | ⟨l, hl, hz'⟩
    · have ht := h.tok y hy
      rw [hta] at ht
      have := OL.set (i := i) ht v
      show OL _ _ _ _ y.ta (y.x.took.set i v).length _ _
      rw [hta, List.length_set]; exact this
    · exact (h.tok z (List.mem_of_getElem? hz')).kept fun q hq => k q (fun e => h.tt l j z y _ _ hl hz' hj hq hta (by simpa using e))
  · obtain ⟨z', h1, h2, h3, h4, h5⟩ := hm z hz
    rw [h3, h4, h5]
    exact (h.dat z' h1).kept fun q hq => k q (fun e => h.dt z' h1 y hy _ _ hq hta (by simpa using e))
  · obtain ⟨z', h1, h2, h3, h4, h5⟩ := hm z hz; rw [h2]; exact h.tn z' h1
  · obtain ⟨z', h1, h2, h3, h4, h5⟩ := hm z hz; rw [h3]; exact h.dn z' h1
  · obtain ⟨z', h1, h2, h3, h4, h5⟩ := hm z hz
    obtain ⟨u', g1, g2, g3, g4, g5⟩ := hm u hu
    exact h.dt z' h1 u' g1 p q (h3 ▸ hp) (g2 ▸ hq)
  · obtain ⟨z', h1, h2⟩ := hi' l z hz
    obtain ⟨u', g1, g2⟩ := hi' l' u hu
    exact h.tt l l' z' u' p q hll h1 g1 (h2 ▸ hp) (g2 ▸ hq)
  · obtain ⟨z', h1, h2, h3, h4, h5⟩ := hm z hz; rw [h4]; exact h.id z' h1
  · obtain ⟨z', h1, h2, h3, h4, h5⟩ := hm z hz; rw [h4]; exact h.dl z' h1

/-- A bus that is written over: its blocks lie from B9 on, below B12. -/
structure PaS (B9 B12 : Nat) (W wr : World) (kB gb cb nb sil : Nat) (hs : List Hol) : Prop where
  own : BuO B9 wr gb cb hs
  len : hs.length = nb
  box : wr.heap[kB]? = some (.cells (lcV gb nb cb sil) 25 (0, 0))
  n1 : kB ≠ gb
  n2 : ∀ h ∈ hs, NB h.ta kB
  g1 : gb < B12
  t1 : ∀ h ∈ hs, ∀ p, h.ta = some p → p.block < B12
  g9 : B9 ≤ gb
  ch : Ch (fun b => B9 ≤ b ∧ b < B12) W wr

theorem PaS.drew (h : PaS B9 B12 W wr kB gb cb nb sil hs) (q : Nat) : PaS B9 B12 W (wr.drewN q) kB gb cb nb sil hs :=
  ⟨h.own.below (below_drewN (Below.refl _ _) q), h.len, by simpa using h.box, h.n1, h.n2, h.g1, h.t1, h.g9, h.ch.call (below_drewN (Below.refl _ _) q)⟩
/-- A holder is crashed. -/
theorem PaS.crash (h : PaS B9 B12 W wr kB gb cb nb sil hs) (hi : hs[i]? = some x) : PaS B9 B12 W (wr.setCell ⟨gb, i * 9 + 7, none⟩ (.bool true)) kB gb cb nb sil (hs.set i { x with x := { x.x with cr := true } }) := by
  have k : ∀ b, b ≠ gb → (wr.setCell ⟨gb, i * 9 + 7, none⟩ (.bool true)).heap[b]? = wr.heap[b]? := fun b hb => Below.heap_setCell _ _ _ _ hb
  have hm : ∀ z ∈ hs.set i { x with x := { x.x with cr := true } }, ∃ z', z' ∈ hs ∧ z.ta = z'.ta := fun z hz => by
    rcases List.mem_or_eq_of_mem_set hz with hz | rfl
    · exact ⟨z, hz, rfl⟩
    · exact ⟨x, List.mem_of_getElem? hi, rfl⟩
  refine ⟨h.own.same hi (OK.setAt enHol_k h.own.row hi (j := 7) (by omega) (.bool true) _ rfl) (fun b _ hb => k b hb) (.inl ⟨rfl, rfl, rfl⟩) (.inl ⟨rfl, rfl, rfl⟩), by rw [List.length_set]; exact h.len, (k kB h.n1).trans h.box, h.n1, fun z hz => ?_, h.g1, fun z hz p hp => ?_, h.g9, h.ch.setCell (p := ⟨gb, i * 9 + 7, none⟩) (.inl ⟨h.g9, h.g1⟩) _⟩
  · obtain ⟨z', h1, h2⟩ := hm z hz; rw [h2]; exact h.n2 z' h1
  · obtain ⟨z', h1, h2⟩ := hm z hz; exact h.t1 z' h1 p (h2 ▸ hp)
/-- A mark is turned. -/
theorem PaS.flip (h : PaS B9 B12 W wr kB gb cb nb sil hs) (hi : hs[i]? = some x) (hta : x.ta = some ⟨bt, 0, none⟩) (v : Bool) : PaS B9 B12 W (wr.setCell ⟨bt, j, none⟩ (.bool v)) kB gb cb nb sil (hs.set i (markV x j v)) := by
  have hx := List.mem_of_getElem? hi
  have hm : ∀ z ∈ hs.set i (markV x j v), ∃ z', z' ∈ hs ∧ z.ta = z'.ta := fun z hz => by
    rcases List.mem_or_eq_of_mem_set hz with hz | rfl
    · exact ⟨z, hz, rfl⟩
    · exact ⟨x, hx, rfl⟩
  have hb9 := ((h.own.tok x hx).ltB hta).2
  refine ⟨h.own.markV hi hta v, by rw [List.length_set]; exact h.len, (Below.heap_setCell _ _ _ _ (fun e => h.n2 x hx _ hta (by simpa using e.symm))).trans h.box, h.n1, fun z hz => ?_, h.g1, fun z hz p hp => ?_, h.g9, h.ch.setCell (p := ⟨bt, j, none⟩) (.inl ⟨hb9, h.t1 x hx ⟨bt, 0, none⟩ hta⟩) _⟩
  · obtain ⟨z', h1, h2⟩ := hm z hz; rw [h2]; exact h.n2 z' h1
  · obtain ⟨z', h1, h2⟩ := hm z hz; exact h.t1 z' h1 p (h2 ▸ hp)
end
end Go.Proofs.Ytihafoeimpjdaaa
